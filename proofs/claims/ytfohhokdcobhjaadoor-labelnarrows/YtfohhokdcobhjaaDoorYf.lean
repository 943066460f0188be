/- The walk of LabelNarrows. -/
import Derived.Test.YtfohhokdcobhjaaDoorYe
import Derived.Test.YtfohhokdcobhjaaDoorOc
namespace Go.Proofs.YtfohhokdcobhjaaDoor
open Go.RowKit Go.Sort Go.Proofs.LawFrame Go.Joins Go.ChangeShapes Go.WideShapes

theorem print_le (s : List Req) : (printS s).length ≤ 20000 := by
  unfold printS
  split
  · simp
  · split
    · simp
    · omega

set_option maxRecDepth 4000 in
set_option maxHeartbeats 16000000 in
theorem narrows_walk (va vb vl : Value) (a b : List Req) (l : List Lab) (w : World) (hna : NilOr va) (hnb : NilOr vb) (ha : Reqs w va a) (hb : Reqs w vb b) (hl : Labs w vl l) :
    Calls Tryd.prog 10 #[va, vb, vl] w fun e w' => e = .returned (.bool true) ∧ Below w.heap.size w w' := by
  have C1 := Lib.hid (small_any vl va l a w hl ha)
  obtain ⟨aa, acap, rfl, ha1, ha2⟩ := ha.slice
  obtain ⟨ba, bcap, rfl, hb1, hb2⟩ := hb.slice
  unfold maxLen at ha2 hb2
  cases hS : smallB l a
  · rw [hS] at C1
    go_enter Tryd.func10, Tryd.ntmps10
    go_wp2_with fail
    refine C1.out.mono ?_
    rintro e W1 ⟨rfl, b1⟩
    go_wp2_with fail
    refine (lives_any W1).mono ?_
    rintro e X1 ⟨rfl, x1⟩
    go_wp2
    go_ret
    exact ⟨rfl, below_all b1 x1⟩
  have hsa := (small_s hS).2
  rw [hS] at C1
  clear hS
  go_enter Tryd.func10, Tryd.ntmps10
  go_wp2_with fail
  refine C1.out.mono ?_
  rintro e W1 ⟨rfl, b1⟩
  have haW1 := ha.all b1
  have hbW1 := hb.all b1
  have hlW1 : Labs W1 vl l := hl.all b1
  have C2 := Lib.hid (small_any (.slice none 0 0) _ [] b W1 (labs_nil W1) hbW1)
  clear C1 ha hb hl
  cases hS : smallB [] b
  · rw [hS] at C2
    go_wp2_with fail
    refine C2.out.mono ?_
    rintro e W2 ⟨rfl, b2⟩
    have b12 := below_all b1 b2
    go_wp2_with fail
    refine (lives_any W2).mono ?_
    rintro e X1 ⟨rfl, x1⟩
    go_wp2
    go_ret
    exact ⟨rfl, below_all b12 x1⟩
  have hsb := (small_s hS).2
  rw [hS] at C2
  clear hS
  by_cases hA20 : 20 < a.length
  · go_wp2_with fail
    refine C2.out.mono ?_
    rintro e W2 ⟨rfl, b2⟩
    have b12 := below_all b1 b2
    go_wp2_with fail
    refine (lives_any W2).mono ?_
    rintro e X1 ⟨rfl, x1⟩
    go_wp2
    go_ret
    exact ⟨rfl, below_all b12 x1⟩
  by_cases hB20 : 20 < b.length
  · go_wp2_with fail
    refine C2.out.mono ?_
    rintro e W2 ⟨rfl, b2⟩
    have b12 := below_all b1 b2
    go_wp2_with fail
    refine (lives_any W2).mono ?_
    rintro e X1 ⟨rfl, x1⟩
    go_wp2
    go_ret
    exact ⟨rfl, below_all b12 x1⟩
  have hA20' : ¬ (20 : Int) < (a.length : Int) := by omega
  have hB20' : ¬ (20 : Int) < (b.length : Int) := by omega
  go_upto_region 3 with (go_at_call 11; refine C2.out.mono ?_; rintro e W2 ⟨rfl, b2⟩)
  have haW2 := haW1.all b2
  have hbW2 := hbW1.all b2
  have hlW2 : Labs W2 vl l := hlW1.all b2
  have b12 := below_all b1 b2
  clear C2 haW1 hbW1 hlW1 b1 b2
  obtain ⟨ca, hca, hfa, hra⟩ := haW2.out
  obtain ⟨cb, hcb, hfb, hrb⟩ := hbW2.out
  have bE := below_alloc W2 (.cells #[] 43)
  have hrow : (W2.alloc (.cells #[] 43)).ownsRow W2.heap.size 43 3 (.slice (some ⟨W2.heap.size, 0, none⟩) 0 0) 0 [] := ⟨by simp, Or.inr ⟨W2.heap.size, 0, #[], rfl, Nat.le_refl _, Own.new W2 [] 43, Nat.le_refl _, Nat.zero_le _, by simp, by simp⟩⟩
  have hfa' : Flat W2 (.slice aa a.length acap) ca.length (ca.flatMap RC.cells) := by rw [hca]; exact hfa
  have hfb' : Flat W2 (.slice ba b.length bcap) cb.length (cb.flatMap RC.cells) := by rw [hcb]; exact hfb
  have hbl := fun hn => flat_lt hfb' hn
  have HQ := Lib.hid (And.intro hca hcb)
  have hca20 : ca.length ≤ 20 := by omega
  have hcb20 : cb.length ≤ 20 := by omega
  clear hca hcb hfa hfb
  go_upto_region 4 with (first | (at_builtin; refine wpList_app_reqs rfl (.tmp 34) (.tmp 35) rfl W2.heap.size _ 0 [] rfl hrow _ rfl hna ca (hfa'.all bE) (by omega) (by simp) ?_; intro v3 W3 ho3 g3; have hz3 := g3.size; simp only [size_alloc] at hz3) | (at_builtin; refine wpList_app_reqs rfl (.tmp 36) (.tmp 37) rfl W2.heap.size _ _ _ rfl ho3 _ rfl hnb cb ((hfb'.all bE).kept' g3 (fun hn bb hbb e => by have h9 := hbl hn bb hbb; have h8 : bb = W2.heap.size := (by injection e); omega)) (by omega) (by omega) ?_; intro v4 W4 ho4 g4))
  have hz4 := g4.size
  have g3' : (W2.alloc (.cells #[] 43)).grownBy W3 (some W2.heap.size) := g3
  have g4' : W3.grownBy W4 v3.ownBlock := g4
  have hv3 := own_row ho3
  have hb4 : Below W2.heap.size W2 W4 := below_grown (below_grown bE g3' (by simp) (fun k h => by cases h; exact Nat.le_refl _)) g4' (by omega) hv3
  have hBoth : Reqs W4 v4 (a ++ b) := by
    obtain ⟨hca, hcb⟩ := HQ.out
    refine reqs_app hca hcb ?_ (fun k c r h1 h2 => (hra k c r h1 h2).all hb4) (fun k c r h1 h2 => (hrb k c r h1 h2).all hb4)
    have hfl := Flat.of_own ho4
    rw [List.flatMap_append, List.length_append]
    simpa using hfl
  have haW4 := haW2.all hb4
  have hbW4 := hbW2.all hb4
  have hlW4 : Labs W4 vl l := hlW2.all hb4
  have b14 := below_all b12 hb4
  clear g3 g4 g3' g4' hv3 ho3 ho4 hrow bE hra hrb hfa' hfb' hbl HQ haW2 hbW2 hlW2 b12 hb4 hz3 hz4 hca20 hcb20
  have hmab := matches_app a b l
  generalize hab0 : a ++ b = ab at *
  have HAB := Lib.hid hab0
  clear hab0
  obtain ⟨va4, vc4, rfl, hv41, hv42⟩ := hBoth.slice
  unfold maxLen at hv42
  have CM1 := Lib.hid (matches_any _ _ ab l W4 hBoth hlW4)
  rw [hmab] at CM1
  clear hmab
  go_wp2_with fail
  refine CM1.out.mono ?_
  rintro e W5 ⟨rfl, b5⟩
  have haW5 := haW4.all b5
  have hbW5 := hbW4.all b5
  have hlW5 : Labs W5 vl l := hlW4.all b5
  have hBoth5 := hBoth.all b5
  have b15 := below_all b14 b5
  clear CM1 haW4 hbW4 hlW4 hBoth b14 b5
  have CM2 := Lib.hid (matches_any _ _ a l W5 haW5 hlW5)
  go_wp2_with fail
  refine CM2.out.mono ?_
  rintro e W6 ⟨rfl, b6⟩
  have haW6 := haW5.all b6
  have hbW6 := hbW5.all b6
  have hlW6 : Labs W6 vl l := hlW5.all b6
  have hBoth6 := hBoth5.all b6
  have b16 := below_all b15 b6
  clear CM2 haW5 hbW5 hlW5 hBoth5 b15 b6
  cases hMA : matchesS a l
  · rw [Bool.false_and]
    have haW7 := haW6
    have hbW7 := hbW6
    have hBoth7 := hBoth6
    have b17 := b16
    clear haW6 hbW6 hBoth6 b16 hlW6
    generalize W6 = W7 at *
    go_wp2_with fail
    refine (print_any _ a W7 haW7 hsa).mono ?_
    rintro e W8 ⟨rfl, b8⟩
    have hbW8 := hbW7.all b8
    have hBoth8 := hBoth7.all b8
    have b18 := below_all b17 b8
    clear haW7 hbW7 hBoth7 b17 b8
    go_wp2_with fail
    refine (print_any _ b W8 hbW8 hsb).mono ?_
    rintro e W9 ⟨rfl, b9⟩
    have hBoth9 := hBoth8.all b9
    have b19 := below_all b18 b9
    clear hbW8 hBoth8 b18 b9
    have HJ := Lib.hid (fun h1 h2 h3 h4 h5 h6 => parse_join (a := a) (b := b) h1 h2 h3 h4 h5 h6)
    have HPA := Lib.hid (show 0 < a.length → a ≠ [] from fun h e => by rw [e] at h; simp at h)
    have HPB := Lib.hid (show 0 < b.length → b ≠ [] from fun h e => by rw [e] at h; simp at h)
    have hSA := print_le a
    have hSB := print_le b
    generalize printS a = SA at *
    generalize printS b = SB at *
    generalize printE a = EA at *
    generalize printE b = EB at *
    by_cases hEA : EA = 0
    rotate_left
    · have q1 : (EA == 0) = false := by simpa using hEA
      go_wp2_with fail
      refine (lives_any W9).mono ?_
      rintro e X1 ⟨rfl, x1⟩
      go_wp2
      go_ret
      exact ⟨rfl, below_all b19 x1⟩
    have q1 : (EA == 0) = true := by simpa using hEA
    by_cases hEB : EB = 0
    rotate_left
    · have q2 : (EB == 0) = false := by simpa using hEB
      go_wp2_with fail
      refine (lives_any W9).mono ?_
      rintro e X1 ⟨rfl, x1⟩
      go_wp2
      go_ret
      exact ⟨rfl, below_all b19 x1⟩
    have q2 : (EB == 0) = true := by simpa using hEB
    subst hEA hEB
    by_cases h3 : 0 < a.length
    rotate_left
    · have q3 : ¬ (0 : Int) < (a.length : Int) := by omega
      go_wp2_with fail
      refine (lives_any W9).mono ?_
      rintro e X1 ⟨rfl, x1⟩
      go_wp2
      go_ret
      exact ⟨rfl, below_all b19 x1⟩
    have q3 : (0 : Int) < (a.length : Int) := by omega
    by_cases h4 : 0 < b.length
    rotate_left
    · have q4 : ¬ (0 : Int) < (b.length : Int) := by omega
      go_wp2_with fail
      refine (lives_any W9).mono ?_
      rintro e X1 ⟨rfl, x1⟩
      go_wp2
      go_ret
      exact ⟨rfl, below_all b19 x1⟩
    have q4 : (0 : Int) < (b.length : Int) := by omega
    have hA0 := HPA.out h3
    have hB0 := HPB.out h4
    have HNE := Lib.hid (And.intro hA0 hB0)
    clear hA0 hB0
    generalize hABL : ab.length = ABL at *
    by_cases h5 : 16 < ABL
    · have q5 : ¬ (ABL : Int) ≤ 16 := by omega
      go_wp2_with fail
      refine (lives_any W9).mono ?_
      rintro e X1 ⟨rfl, x1⟩
      go_wp2
      go_ret
      exact ⟨rfl, below_all b19 x1⟩
    have q5 : (ABL : Int) ≤ 16 := by omega
    by_cases h6 : SA.length + SB.length < 19999
    rotate_left
    · have q6 : decide ((SA.length : Int) + (SB.length : Int) < 19999) = false := decide_eq_false (by omega)
      clear h6
      go_wp2_with fail
      refine (lives_any W9).mono ?_
      rintro e X1 ⟨rfl, x1⟩
      go_wp2
      go_ret
      exact ⟨rfl, below_all b19 x1⟩
    have q6 : (SA.length : Int) + (SB.length : Int) < 19999 := by omega
    have HPJ := HJ.out rfl rfl HNE.out.1 HNE.out.2 (by rw [HAB.out, hABL]; omega) h6
    rw [HAB.out] at HPJ
    have CP := Lib.hid (parse_any (SA ++ [32, 44] ++ SB) W9 (by simp only [List.length_append, List.length_cons, List.length_nil]; omega))
    rw [HPJ.1, HPJ.2] at CP
    have CP' : Hid (Calls Tryd.prog 24 #[.string ((⟨SA.toArray⟩ : ByteArray) ++ ⟨#[32, 44]⟩ ++ ⟨SB.toArray⟩)] W9 fun e w' => ∃ sv, e = .returned (.tuple #[sv, .int .i64 0]) ∧ Reqs w' sv ab ∧ Below W9.heap.size W9 w') := by
      rw [show ((⟨SA.toArray⟩ : ByteArray) ++ ⟨#[32, 44]⟩ ++ ⟨SB.toArray⟩) = ⟨(SA ++ [32, 44] ++ SB).toArray⟩ from by rw [show (⟨#[32, 44]⟩ : ByteArray) = ⟨([32, 44] : Str).toArray⟩ from rfl, str_app, str_app]]
      exact CP
    clear CP HPJ HJ HPA HPB
    go_wp2_with fail
    refine CP'.out.mono ?_
    rintro e W10 ⟨sv, rfl, hsv, b10⟩
    have hB10 := hBoth9.all b10
    have b110 := below_all b19 b10
    go_wp2_with fail
    refine (sameSelector_any sv _ ab W10 hsv hB10).mono ?_
    rintro e W11 ⟨rfl, b11⟩
    have b111 := below_all b110 b11
    go_wp2_with fail
    refine (lives_any W11).mono ?_
    rintro e W12 ⟨rfl, b12⟩
    go_wp2
    go_ret
    exact ⟨rfl, below_all b111 b12⟩
  · rw [Bool.true_and]
    have CM3 := Lib.hid (matches_any _ _ b l W6 hbW6 hlW6)
    generalize matchesS b l = MB at *
    go_wp2_with fail
    refine CM3.out.mono ?_
    rintro e W7 ⟨rfl, b7⟩
    have haW7 := haW6.all b7
    have hbW7 := hbW6.all b7
    have hBoth7 := hBoth6.all b7
    have b17 := below_all b16 b7
    clear CM3 haW6 hbW6 hBoth6 b16 hlW6 b7
    go_wp2_with fail
    refine (print_any _ a W7 haW7 hsa).mono ?_
    rintro e W8 ⟨rfl, b8⟩
    have hbW8 := hbW7.all b8
    have hBoth8 := hBoth7.all b8
    have b18 := below_all b17 b8
    clear haW7 hbW7 hBoth7 b17 b8
    go_wp2_with fail
    refine (print_any _ b W8 hbW8 hsb).mono ?_
    rintro e W9 ⟨rfl, b9⟩
    have hBoth9 := hBoth8.all b9
    have b19 := below_all b18 b9
    clear hbW8 hBoth8 b18 b9
    have HJ := Lib.hid (fun h1 h2 h3 h4 h5 h6 => parse_join (a := a) (b := b) h1 h2 h3 h4 h5 h6)
    have HPA := Lib.hid (show 0 < a.length → a ≠ [] from fun h e => by rw [e] at h; simp at h)
    have HPB := Lib.hid (show 0 < b.length → b ≠ [] from fun h e => by rw [e] at h; simp at h)
    have hSA := print_le a
    have hSB := print_le b
    generalize printS a = SA at *
    generalize printS b = SB at *
    generalize printE a = EA at *
    generalize printE b = EB at *
    by_cases hEA : EA = 0
    rotate_left
    · have q1 : (EA == 0) = false := by simpa using hEA
      go_wp2_with fail
      refine (lives_any W9).mono ?_
      rintro e X1 ⟨rfl, x1⟩
      go_wp2
      go_ret
      exact ⟨rfl, below_all b19 x1⟩
    have q1 : (EA == 0) = true := by simpa using hEA
    by_cases hEB : EB = 0
    rotate_left
    · have q2 : (EB == 0) = false := by simpa using hEB
      go_wp2_with fail
      refine (lives_any W9).mono ?_
      rintro e X1 ⟨rfl, x1⟩
      go_wp2
      go_ret
      exact ⟨rfl, below_all b19 x1⟩
    have q2 : (EB == 0) = true := by simpa using hEB
    subst hEA hEB
    by_cases h3 : 0 < a.length
    rotate_left
    · have q3 : ¬ (0 : Int) < (a.length : Int) := by omega
      go_wp2_with fail
      refine (lives_any W9).mono ?_
      rintro e X1 ⟨rfl, x1⟩
      go_wp2
      go_ret
      exact ⟨rfl, below_all b19 x1⟩
    have q3 : (0 : Int) < (a.length : Int) := by omega
    by_cases h4 : 0 < b.length
    rotate_left
    · have q4 : ¬ (0 : Int) < (b.length : Int) := by omega
      go_wp2_with fail
      refine (lives_any W9).mono ?_
      rintro e X1 ⟨rfl, x1⟩
      go_wp2
      go_ret
      exact ⟨rfl, below_all b19 x1⟩
    have q4 : (0 : Int) < (b.length : Int) := by omega
    have hA0 := HPA.out h3
    have hB0 := HPB.out h4
    have HNE := Lib.hid (And.intro hA0 hB0)
    clear hA0 hB0
    generalize hABL : ab.length = ABL at *
    by_cases h5 : 16 < ABL
    · have q5 : ¬ (ABL : Int) ≤ 16 := by omega
      go_wp2_with fail
      refine (lives_any W9).mono ?_
      rintro e X1 ⟨rfl, x1⟩
      go_wp2
      go_ret
      exact ⟨rfl, below_all b19 x1⟩
    have q5 : (ABL : Int) ≤ 16 := by omega
    by_cases h6 : SA.length + SB.length < 19999
    rotate_left
    · have q6 : decide ((SA.length : Int) + (SB.length : Int) < 19999) = false := decide_eq_false (by omega)
      clear h6
      go_wp2_with fail
      refine (lives_any W9).mono ?_
      rintro e X1 ⟨rfl, x1⟩
      go_wp2
      go_ret
      exact ⟨rfl, below_all b19 x1⟩
    have q6 : (SA.length : Int) + (SB.length : Int) < 19999 := by omega
    have HPJ := HJ.out rfl rfl HNE.out.1 HNE.out.2 (by rw [HAB.out, hABL]; omega) h6
    rw [HAB.out] at HPJ
    have CP := Lib.hid (parse_any (SA ++ [32, 44] ++ SB) W9 (by simp only [List.length_append, List.length_cons, List.length_nil]; omega))
    rw [HPJ.1, HPJ.2] at CP
    have CP' : Hid (Calls Tryd.prog 24 #[.string ((⟨SA.toArray⟩ : ByteArray) ++ ⟨#[32, 44]⟩ ++ ⟨SB.toArray⟩)] W9 fun e w' => ∃ sv, e = .returned (.tuple #[sv, .int .i64 0]) ∧ Reqs w' sv ab ∧ Below W9.heap.size W9 w') := by
      rw [show ((⟨SA.toArray⟩ : ByteArray) ++ ⟨#[32, 44]⟩ ++ ⟨SB.toArray⟩) = ⟨(SA ++ [32, 44] ++ SB).toArray⟩ from by rw [show (⟨#[32, 44]⟩ : ByteArray) = ⟨([32, 44] : Str).toArray⟩ from rfl, str_app, str_app]]
      exact CP
    clear CP HPJ HJ HPA HPB
    go_wp2_with fail
    refine CP'.out.mono ?_
    rintro e W10 ⟨sv, rfl, hsv, b10⟩
    have hB10 := hBoth9.all b10
    have b110 := below_all b19 b10
    go_wp2_with fail
    refine (sameSelector_any sv _ ab W10 hsv hB10).mono ?_
    rintro e W11 ⟨rfl, b11⟩
    have b111 := below_all b110 b11
    go_wp2_with fail
    refine (lives_any W11).mono ?_
    rintro e W12 ⟨rfl, b12⟩
    go_wp2
    go_ret
    exact ⟨rfl, below_all b111 b12⟩

variable {H : Type} {enc : TypeId × Value → H} {w : World} {base : Nat} {spare : Nat → Bool} {held : Bool}
theorem nilOr_of {n : Nat} {v : Value} {y : DataW H × List MemPlace} (h : DataW.trod enc Tryd.prog w 0 (fun _ => true) held n 23 [v] = some y) : NilOr v := by
  rcases Go.Deep.open_slice Tryd.underlying23 h with ⟨hcs, _⟩ | ⟨a, len, cap, m, n', D, Pl, hcs, _⟩
  · exact Or.inl (by simpa using hcs)
  · exact Or.inr ⟨a, len, cap, by simpa using hcs⟩
end Go.Proofs.YtfohhokdcobhjaaDoor
