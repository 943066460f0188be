/- The contract of With. -/
import Derived.Test.YtfohhokdcobhjaaDoorWu
namespace Go.Proofs.YtfohhokdcobhjaaDoor
open Go.RowKit Go.Sort Go.Proofs.LawFrame

theorem insL_end {R : List Lab} {key v : Str} (h : idxI (gtK key) R = -1) : insL R key v = R ++ [(key, v)] := by
  apply insL_none
  unfold idxI at h
  cases hf : R.findIdx? (gtK key) with
  | some k => rw [hf] at h; simp only at h; omega
  | none =>
    rw [List.findIdx?_eq_none_iff] at hf
    rw [List.any_eq_false]
    intro x hx; simp [hf x hx]
theorem tw_get {p : Lab → Bool} : ∀ {l : List Lab} {k : Nat} (hk : k < l.length), (∀ (j : Nat) (hj : j < k), p (l[j]'(by omega)) = true) → p l[k] = false → l.takeWhile p = l.take k ∧ l.dropWhile p = l.drop k := by
  intro l
  induction l with
  | nil => intro k hk; simp at hk
  | cons a t ih =>
    intro k hk h1 h2
    cases k with
    | zero => simp at h2; simp [h2]
    | succ k =>
      have ha : p a = true := h1 0 (by omega)
      have := ih (k := k) (by simpa using hk) (fun j hj => h1 (j + 1) (by omega)) (by simpa using h2)
      simp [ha, this.1, this.2]
theorem insL_mid {R : List Lab} {key v : Str} (h : ¬ idxI (gtK key) R = -1) : ∃ i, i < R.length ∧ idxI (gtK key) R = i ∧ insL R key v = putAt R i (key, v) := by
  unfold idxI at h ⊢
  cases hf : R.findIdx? (gtK key) with
  | none => rw [hf] at h; exact absurd rfl h
  | some i =>
    rw [List.findIdx?_eq_some_iff_getElem] at hf
    obtain ⟨hi, hp, hj⟩ := hf
    refine ⟨i, hi, rfl, ?_⟩
    have := tw_get (p := fun p => !gtK key p) hi (fun j hj' => by simpa using hj j hj') (by simp [hp])
    unfold insL putAt
    rw [this.1, this.2]

set_option maxRecDepth 4000 in
set_option maxHeartbeats 4000000 in
theorem with_any (v : Value) (l : List Lab) (key val : Str) (w : World) (hv : Labs w v l) (hl : l.length ≤ 1000) :
    Calls Tryd.prog 20 #[v, sV key, sV val] w fun e w' => ∃ rv, e = .returned rv ∧ Labs w' rv (withL l key val) ∧ Below w.heap.size w w' := by
  have hmf : ∀ (fn : Fn) (first cap : Array Value) (w : World), (Instr.makeFunc fn first cap).run Tryd.prog w = .ok (.func fn first cap) w := fun _ _ _ _ => rfl
  have HW : Hid (withL l key val = insL (restL l key) key val) := Lib.hid rfl
  have hrl := restL_len l key
  have b1 := below_alloc w (.cells #[sV key] 9)
  have hv1 : Labs _ v l := hv.all b1
  have hk1 : (w.alloc (.cells #[sV key] 9)).cell? ⟨w.heap.size, 0, none⟩ = some (sV key) := (Own.new w [sV key] 9).cell rfl
  have hz1 : (w.alloc (.cells #[sV key] 9)).heap.size = w.heap.size + 1 := by simp
  go_enter Tryd.func20, Tryd.ntmps20
  go_wp2_with fail
  generalize w.alloc (.cells #[sV key] 9) = W1 at *
  refine (clone_any _ _ _ hv1 hl).mono ?_
  rintro e W2 ⟨cv, rfl, hown2, b2⟩
  have hk2 : W2.cell? ⟨w.heap.size, 0, none⟩ = some (sV key) := by rw [b2.cell (p := ⟨w.heap.size, 0, none⟩) (show w.heap.size < W1.heap.size by omega)]; exact hk1
  have CD := Lib.hid (deleteFunc_any cv l key w.heap.size W1.heap.size W2 hown2 hl (by omega) b2.size hk2)
  go_wp2_with fail
  refine CD.out.mono ?_
  rintro e W3 ⟨dv, rfl, hown3, b3⟩
  have hk3 : W3.cell? ⟨w.heap.size, 0, none⟩ = some (sV key) := by rw [b3.cell (p := ⟨w.heap.size, 0, none⟩) (show w.heap.size < W1.heap.size by omega)]; exact hk2
  have hs3 := b3.size
  have hs2 := b2.size
  generalize restL l key = R at *
  have CI := Lib.hid (indexFunc39_any dv R key w.heap.size W3 (labs_own hown3 rfl) (by omega) hk3)
  obtain ⟨dao, dcap, rfl, hdn, hdc, -⟩ := (labs_own hown3 rfl : Labs W3 dv R).out
  unfold maxLen at hdc
  have hbA : Below w.heap.size w W3 := (b1.trans ((b2.trans b3).mono (by omega)))
  clear CD hk2 hk1 hown2 hv1 b1 b2 b3
  by_cases hm : idxI (gtK key) R = -1
  · have HI := Lib.hid (insL_end (v := val) hm)
    rw [hm] at CI
    clear hm
    go_wp2_with fail
    refine CI.out.mono ?_
    rintro e W4 ⟨rfl, b4⟩
    have hk4 : W4.cell? ⟨w.heap.size, 0, none⟩ = some (sV key) := by rw [b4.cell (p := ⟨w.heap.size, 0, none⟩) (show w.heap.size < W3.heap.size by omega)]; exact hk3
    have hs4 := b4.size
    have hown4 := (own_below hown3 b4).alloc (.cells #[sV key, sV val] 45)
    have ov := Own.new W4 [sV key, sV val] 45
    have CE := Lib.hid (insert_end _ R key val W4.heap.size W1.heap.size _ hown4 (by omega) (by simp; omega) ov)
    have hb4 : Below w.heap.size w (W4.alloc (.cells #[sV key, sV val] 45)) := below_all hbA (below_all b4 (below_alloc _ _))
    clear hown3 hown4 ov hk3
    go_wp2_with fail
    refine CE.out.mono ?_
    rintro e W5 ⟨rv, rfl, hown5, b5⟩
    go_wp2
    go_ret
    refine ⟨rv, rfl, ?_, hb4.trans (b5.mono (by omega))⟩
    rw [HW.out, HI.out]
    exact labs_own hown5 (by simp)
  · obtain ⟨i, hi, hie, hins⟩ := insL_mid (v := val) hm
    have HI := Lib.hid hins
    rw [hie] at CI
    clear hm hins hie
    go_wp2_with fail
    refine CI.out.mono ?_
    rintro e W4 ⟨rfl, b4⟩
    have hk4 : W4.cell? ⟨w.heap.size, 0, none⟩ = some (sV key) := by rw [b4.cell (p := ⟨w.heap.size, 0, none⟩) (show w.heap.size < W3.heap.size by omega)]; exact hk3
    have hs4 := b4.size
    obtain ⟨g, rfl⟩ : ∃ g, dao = some ⟨g, 0, none⟩ := by
      rcases hown3.2 with ⟨-, h⟩ | ⟨g, c, cur, h, -⟩
      · omega
      · cases h; exact ⟨g, rfl⟩
    have hg3 := (hown3.lt g rfl).2
    have hown4 := (own_below hown3 b4).alloc (.cells #[sV key, sV val] 45)
    have ov := Own.new W4 [sV key, sV val] 45
    have CE : Hid (Calls Tryd.prog 40 #[.slice (some ⟨g, 0, none⟩) R.length dcap, .int .i64 i, .slice (some ⟨W4.heap.size, 0, none⟩) 1 1] (W4.alloc (.cells #[sV key, sV val] 45)) fun e w' => ∃ dv, e = .returned dv ∧ w'.ownsRow W1.heap.size 45 2 dv (R.length + 1) ((putAt R i (key, val)).flatMap labC) ∧ Below W1.heap.size (W4.alloc (.cells #[sV key, sV val] 45)) w') := by
      by_cases hroom : R.length + 1 ≤ dcap
      · exact Lib.hid (insert_room R key val i g dcap W4.heap.size W1.heap.size _ hown4 (by omega) hi hroom (by omega) ov)
      · exact Lib.hid (insert_grow R key val i g dcap W4.heap.size W1.heap.size _ hown4 (by omega) hi (by omega) (by simp; omega) ov)
    have hb4 : Below w.heap.size w (W4.alloc (.cells #[sV key, sV val] 45)) := below_all hbA (below_all b4 (below_alloc _ _))
    clear hown3 hown4 ov hk3
    go_wp2_with fail
    refine CE.out.mono ?_
    rintro e W5 ⟨rv, rfl, hown5, b5⟩
    go_wp2
    go_ret
    refine ⟨rv, rfl, ?_, hb4.trans (b5.mono (by omega))⟩
    rw [HW.out, HI.out]
    exact labs_own hown5 (putAt_len _ (by omega)).symm
end Go.Proofs.YtfohhokdcobhjaaDoor
