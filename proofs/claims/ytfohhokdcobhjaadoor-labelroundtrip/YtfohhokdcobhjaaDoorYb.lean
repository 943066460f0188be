/- The walks of LabelValid, LabelLookup, LabelMatches and LabelPrints. -/
import Derived.Test.YtfohhokdcobhjaaDoorYa
namespace Go.Proofs.YtfohhokdcobhjaaDoor
open Go.RowKit Go.Sort Go.Proofs.LawFrame

theorem small_l {l : List Lab} {s : List Req} (h : smallB l s = true) : l.length ≤ 40 ∧ LBd l := by
  unfold smallB at h; simp only [Bool.and_eq_true, decide_eq_true_eq] at h
  refine ⟨h.1.1.1, fun p hp => ?_⟩
  have := List.all_eq_true.1 h.1.2 p hp
  unfold labS at this; simp only [Bool.and_eq_true, decide_eq_true_eq] at this; omega
theorem small_s {l : List Lab} {s : List Req} (h : smallB l s = true) : s.length ≤ 40 ∧ SBd s := by
  unfold smallB at h; simp only [Bool.and_eq_true, decide_eq_true_eq] at h
  refine ⟨h.1.1.2, fun r hr => ?_⟩
  have := List.all_eq_true.1 h.2 r hr
  unfold reqS at this; simp only [Bool.and_eq_true, decide_eq_true_eq] at this
  refine ⟨by omega, fun x hx => ?_⟩
  have h2 := List.all_eq_true.1 this.2 x hx
  unfold shortS at h2; simp only [decide_eq_true_eq] at h2; omega
theorem labs_nil (w : World) : Labs w (.slice none 0 0) [] := Flat.nil _ _ _ (Nat.zero_le _) _

set_option maxHeartbeats 4000000 in
theorem valid_walk (v v2 : Value) (l : List Lab) (s : List Req) (w : World) (hl : Labs w v l) (hs : Reqs w v2 s) :
    Calls Tryd.prog 3 #[v, v2] w fun e w' => e = .returned (.bool true) ∧ Below w.heap.size w w' := by
  have C1 := Lib.hid (small_any v v2 l s w hl hs)
  cases hS : smallB l s
  · rw [hS] at C1
    go_enter Tryd.func3, Tryd.ntmps3
    go_wp2_with fail
    refine C1.out.mono ?_
    rintro e W1 ⟨rfl, b1⟩
    go_wp2_with fail
    refine (lives_any W1).mono ?_
    rintro e W2 ⟨rfl, b2⟩
    go_wp2
    go_ret
    exact ⟨rfl, below_all b1 b2⟩
  · have h1 := (small_l hS).2
    have h2 := (small_s hS).2
    rw [hS] at C1
    clear hS
    go_enter Tryd.func3, Tryd.ntmps3
    go_wp2_with fail
    refine C1.out.mono ?_
    rintro e W1 ⟨rfl, b1⟩
    have hl1 : Labs W1 v l := hl.all b1
    have hs1 := hs.all b1
    go_wp2_with fail
    refine (valid_any v l W1 hl1 h1).mono ?_
    rintro e W2 ⟨rfl, b2⟩
    have hl2 : Labs W2 v l := hl1.all b2
    have hs2 := hs1.all b2
    have b12 := below_all b1 b2
    go_wp2_with fail
    refine (rvalid_any v l W2 hl2 h1).mono ?_
    rintro e W3 ⟨rfl, b3⟩
    have hs3 := hs2.all b3
    have b13 := below_all b12 b3
    generalize labsOk l = L1 at *
    go_wp2_with fail
    refine (validSelector_any v2 s W3 hs3 h2).mono ?_
    rintro e W4 ⟨rfl, b4⟩
    have hs4 := hs3.all b4
    have b14 := below_all b13 b4
    go_wp2_with fail
    refine (rvalidSelector_any v2 s W4 hs4 h2).mono ?_
    rintro e W5 ⟨rfl, b5⟩
    have b15 := below_all b14 b5
    generalize selOk s = L2 at *
    go_wp2_with fail
    refine (lives_any W5).mono ?_
    rintro e W6 ⟨rfl, b6⟩
    go_wp2
    go_ret
    exact ⟨rfl, below_all b15 b6⟩

set_option maxHeartbeats 4000000 in
theorem lookup_walk (v : Value) (l : List Lab) (key val : Str) (w : World) (hl : Labs w v l) :
    Calls Tryd.prog 4 #[v, sV key, sV val] w fun e w' => e = .returned (.bool true) ∧ Below w.heap.size w w' := by
  have C1 := Lib.hid (small_any v (.slice none 0 0) l [] w hl (reqs_nil w))
  by_cases hg : smallB l [] = true ∧ ¬ 200 < key.length ∧ ¬ 200 < val.length
  rotate_left
  · cases hS : smallB l []
    · rw [hS] at C1
      go_enter Tryd.func4, Tryd.ntmps4
      go_wp2_with fail
      refine C1.out.mono ?_
      rintro e W1 ⟨rfl, b1⟩
      go_wp2_with fail
      refine (lives_any W1).mono ?_
      rintro e W2 ⟨rfl, b2⟩
      go_wp2
      go_ret
      exact ⟨rfl, below_all b1 b2⟩
    · rw [hS] at C1 hg
      by_cases hk : 200 < key.length
      · clear hg
        go_enter Tryd.func4, Tryd.ntmps4
        go_wp2_with fail
        refine C1.out.mono ?_
        rintro e W1 ⟨rfl, b1⟩
        go_wp2_with fail
        refine (lives_any W1).mono ?_
        rintro e W2 ⟨rfl, b2⟩
        go_wp2
        go_ret
        exact ⟨rfl, below_all b1 b2⟩
      · have hvl : 200 < val.length := by
          rcases Nat.lt_or_ge 200 val.length with h | h
          · exact h
          · exact absurd ⟨rfl, hk, by omega⟩ hg
        clear hg
        go_enter Tryd.func4, Tryd.ntmps4
        go_wp2_with fail
        refine C1.out.mono ?_
        rintro e W1 ⟨rfl, b1⟩
        go_wp2_with fail
        refine (lives_any W1).mono ?_
        rintro e W2 ⟨rfl, b2⟩
        go_wp2
        go_ret
        exact ⟨rfl, below_all b1 b2⟩
  · obtain ⟨hS, hk, hvl⟩ := hg
    have hl40 := (small_l hS).1
    rw [hS] at C1
    clear hS
    go_enter Tryd.func4, Tryd.ntmps4
    go_wp2_with fail
    refine C1.out.mono ?_
    rintro e W1 ⟨rfl, b1⟩
    have hl1 : Labs W1 v l := hl.all b1
    go_wp2_with fail
    refine (get_any v l key W1 hl1).mono ?_
    rintro e W2 ⟨rfl, b2⟩
    have hl2 : Labs W2 v l := hl1.all b2
    have b12 := below_all b1 b2
    go_wp2_with fail
    refine (rget_any v l key W2 hl2).mono ?_
    rintro e W3 ⟨rfl, b3⟩
    have hl3 : Labs W3 v l := hl2.all b3
    have b13 := below_all b12 b3
    generalize getV l key = gv at *
    generalize getB l key = gb at *
    go_wp2_with fail
    refine (with_any v l key val W3 hl3 (by omega)).mono ?_
    rintro e W4 ⟨rv, rfl, hM4, b4⟩
    have hl4 : Labs W4 v l := hl3.all b4
    have b14 := below_all b13 b4
    go_wp2_with fail
    refine (rwith_any v l key val W4 hl4 (by omega)).mono ?_
    rintro e W5 ⟨rv2, rfl, hM5, b5⟩
    have hM5' : Labs W5 rv (withL l key val) := hM4.all b5
    have b15 := below_all b14 b5
    go_wp2_with fail
    refine (same_any rv rv2 (withL l key val) W5 hM5' hM5).mono ?_
    rintro e W6 ⟨rfl, b6⟩
    have b16 := below_all b15 b6
    go_wp2_with fail
    refine (lives_any W6).mono ?_
    rintro e W7 ⟨rfl, b7⟩
    go_wp2
    go_ret
    exact ⟨rfl, below_all b16 b7⟩

set_option maxHeartbeats 4000000 in
theorem matches_walk (v v2 : Value) (l : List Lab) (s : List Req) (w : World) (hs : Reqs w v s) (hl : Labs w v2 l) :
    Calls Tryd.prog 5 #[v, v2] w fun e w' => e = .returned (.bool true) ∧ Below w.heap.size w w' := by
  have C1 := Lib.hid (small_any v2 v l s w hl hs)
  cases hS : smallB l s
  · rw [hS] at C1
    go_enter Tryd.func5, Tryd.ntmps5
    go_wp2_with fail
    refine C1.out.mono ?_
    rintro e W1 ⟨rfl, b1⟩
    go_wp2_with fail
    refine (lives_any W1).mono ?_
    rintro e W2 ⟨rfl, b2⟩
    go_wp2
    go_ret
    exact ⟨rfl, below_all b1 b2⟩
  · rw [hS] at C1
    clear hS
    go_enter Tryd.func5, Tryd.ntmps5
    go_wp2_with fail
    refine C1.out.mono ?_
    rintro e W1 ⟨rfl, b1⟩
    have hl1 : Labs W1 v2 l := hl.all b1
    have hs1 := hs.all b1
    go_wp2_with fail
    refine (matches_any v v2 s l W1 hs1 hl1).mono ?_
    rintro e W2 ⟨rfl, b2⟩
    have hl2 : Labs W2 v2 l := hl1.all b2
    have hs2 := hs1.all b2
    have b12 := below_all b1 b2
    go_wp2_with fail
    refine (rmatches_any v v2 s l W2 hs2 hl2).mono ?_
    rintro e W3 ⟨rfl, b3⟩
    have b13 := below_all b12 b3
    generalize matchesS s l = M at *
    go_wp2_with fail
    refine (lives_any W3).mono ?_
    rintro e W6 ⟨rfl, b6⟩
    go_wp2
    go_ret
    exact ⟨rfl, below_all b13 b6⟩

set_option maxHeartbeats 4000000 in
theorem prints_walk (v : Value) (s : List Req) (w : World) (hs : Reqs w v s) :
    Calls Tryd.prog 7 #[v] w fun e w' => e = .returned (.bool true) ∧ Below w.heap.size w w' := by
  have C1 := Lib.hid (small_any (.slice none 0 0) v [] s w (labs_nil w) hs)
  cases hS : smallB [] s
  · rw [hS] at C1
    go_enter Tryd.func7, Tryd.ntmps7
    go_wp2_with fail
    refine C1.out.mono ?_
    rintro e W1 ⟨rfl, b1⟩
    go_wp2_with fail
    refine (lives_any W1).mono ?_
    rintro e W2 ⟨rfl, b2⟩
    go_wp2
    go_ret
    exact ⟨rfl, below_all b1 b2⟩
  · have h2 := (small_s hS).2
    rw [hS] at C1
    clear hS
    go_enter Tryd.func7, Tryd.ntmps7
    go_wp2_with fail
    refine C1.out.mono ?_
    rintro e W1 ⟨rfl, b1⟩
    have hs1 := hs.all b1
    go_wp2_with fail
    refine (print_any v s W1 hs1 h2).mono ?_
    rintro e W2 ⟨rfl, b2⟩
    have hs2 := hs1.all b2
    have b12 := below_all b1 b2
    go_wp2_with fail
    refine (rprint_any v s W2 hs2 h2).mono ?_
    rintro e W3 ⟨rfl, b3⟩
    have b13 := below_all b12 b3
    generalize printS s = M at *
    generalize printE s = E at *
    go_wp2_with fail
    refine (lives_any W3).mono ?_
    rintro e W6 ⟨rfl, b6⟩
    go_wp2
    go_ret
    exact ⟨rfl, below_all b13 b6⟩
end Go.Proofs.YtfohhokdcobhjaaDoor
