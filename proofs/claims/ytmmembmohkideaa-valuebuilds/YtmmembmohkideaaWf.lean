/- The contract of validMembers. -/
import Derived.Test.YtmmembmohkideaaWe
namespace Go.Proofs.Ytmmembmohkideaa
open Go.RowKit Go.Sort Go.Proofs.LawFrame

set_option maxHeartbeats 2000000 in
theorem validMembers_any (k n : Int) (s : Str) (la fa : Option Addr) (ln lc fn fc : Nat) (f : List (Str × T)) (w : World) (hf : Flds w (.slice fa fn fc) f) :
    Calls Try.prog 59 #[(⟨k, n, s, la, ln, lc, fa, fn, fc⟩ : VC).val] w fun e w' => RB w (Mem k n s ln f) e w' := by
  obtain ⟨rfl, hfc, hfm⟩ := hf.slice
  by_cases h5 : k = 5
  · subst h5
    have hw0 : Below w.heap.size w (w.alloc (.cells #[.int .i64 5, .int .i64 n, sV s, .slice la ln lc, .slice fa f.length fc] 25)) := (Below.refl _ _).alloc (Nat.le_refl _) _
    by_cases hl : f.length ≤ 64
    · have HE : Hid (Mem 5 n s ln f ↔ NmTo f f.length) := Lib.hid (by unfold Mem; simp [hl])
      have C := Lib.hid (validNames_any _ f _ (hf.all hw0) (by omega))
      have HW := Lib.hid hw0
      clear hf hw0
      go_enter Try.func59, Try.ntmps59
      go_wp2_with fail
      refine C.out.mono ?_
      rintro e w2 ⟨⟨r, rfl, hb, h⟩⟩
      have H := Lib.hid h
      clear h
      go_wp2
      go_ret
      exact ⟨r, rfl, below_all HW.out hb, H.out.trans HE.out.symm⟩
    · have HE : Hid (¬ Mem 5 n s ln f) := Lib.hid (by unfold Mem; simp; omega)
      have hl' : ¬ (f.length : Int) ≤ 64 := by omega
      have hl3 : 64 < (f.length : Int) := by omega
      clear hf
      go_enter Try.func59, Try.ntmps59
      go_wp2
      go_ret
      exact ⟨_, rfl, hw0, by rw [iff_false_right HE.out]; simp; try omega⟩
  clear hf
  by_cases h3 : k = 3
  · subst h3
    have HE : Hid (Mem 3 n s ln f ↔ strOk s = true) := Lib.hid (by unfold Mem; simp)
    go_enter Try.func59, Try.ntmps59
    go_wp2_with (go_at_call 65; refine (validString_any _ _).mono ?_; rintro e w' ⟨rfl, rfl⟩)
    go_ret
    exact ⟨strOk s, rfl, (Below.refl _ _).alloc (Nat.le_refl _) _, HE.out.symm⟩
  by_cases h0 : k = 0
  · subst h0
    have HE : Hid (Mem 0 n s ln f ↔ (True)) := Lib.hid (by unfold Mem; simp)
    all_goals
      go_enter Try.func59, Try.ntmps59
      go_wp2
    all_goals
      go_ret
      refine ⟨_, rfl, (Below.refl _ _).alloc (Nat.le_refl _) _, ?_⟩
      rw [HE.out]
      first | (simp [*]; done) | (simp; omega) | omega | (simp [*]; omega) | (simp_all; done)
  by_cases h1 : k = 1
  · subst h1
    have HE : Hid (Mem 1 n s ln f ↔ (n = 0 ∨ n = 1)) := Lib.hid (by unfold Mem; simp)
    all_goals
      go_enter Try.func59, Try.ntmps59
      go_wp2
    all_goals
      go_ret
      refine ⟨_, rfl, (Below.refl _ _).alloc (Nat.le_refl _) _, ?_⟩
      rw [HE.out]
      first | (simp [*]; done) | (simp; omega) | omega | (simp [*]; omega) | (simp_all; done)
  by_cases h2 : k = 2
  · subst h2
    have HE : Hid (Mem 2 n s ln f ↔ (-1000000000000000 ≤ n ∧ n ≤ 1000000000000000)) := Lib.hid (by unfold Mem; simp)
    rcases (show n < -1000000000000000 ∨ 1000000000000000 < n ∨ (-1000000000000000 ≤ n ∧ n ≤ 1000000000000000) by omega) with hr | hr | ⟨hr, hr2⟩
    all_goals
      go_enter Try.func59, Try.ntmps59
      go_wp2
    all_goals
      go_ret
      refine ⟨_, rfl, (Below.refl _ _).alloc (Nat.le_refl _) _, ?_⟩
      rw [HE.out]
      first | (simp [*]; done) | (simp; omega) | omega | (simp [*]; omega) | (simp_all; done)
  by_cases h4 : k = 4
  · subst h4
    have HE : Hid (Mem 4 n s ln f ↔ (ln ≤ 64)) := Lib.hid (by unfold Mem; simp)
    all_goals
      go_enter Try.func59, Try.ntmps59
      go_wp2
    all_goals
      go_ret
      refine ⟨_, rfl, (Below.refl _ _).alloc (Nat.le_refl _) _, ?_⟩
      rw [HE.out]
      first | (simp [*]; done) | (simp; omega) | omega | (simp [*]; omega) | (simp_all; done)
  have HE : Hid (¬ Mem k n s ln f) := Lib.hid (by unfold Mem; simp [h0, h1, h2, h3, h4, h5])
  go_enter Try.func59, Try.ntmps59
  go_wp2
  go_ret
  exact ⟨_, rfl, (Below.refl _ _).alloc (Nat.le_refl _) _, by rw [iff_false_right HE.out]; simp⟩
end Go.Proofs.Ytmmembmohkideaa
