/- The contract of scalar. -/
import Derived.Test.YtmmembmohkideaaWe
namespace Go.Proofs.Ytmmembmohkideaa
open Go.RowKit Go.Sort Go.Proofs.LawFrame

set_option maxHeartbeats 2000000 in
theorem scalar_any (k n : Int) (s : Str) (la fa : Option Addr) (ln lc fn fc : Nat) (w : World) (hs : s.length ≤ 1000) :
    Calls Try.prog 60 #[(⟨k, n, s, la, ln, lc, fa, fn, fc⟩ : VC).val] w fun e w' => RB w (Sc k n s) e w' := by
  by_cases h3 : k = 3
  · subst h3
    by_cases hn : n = 0
    · subst hn
      have HE : Hid (Sc 3 0 s ↔ strOk s = true) := Lib.hid (by unfold Sc; simp)
      go_enter Try.func60, Try.ntmps60
      go_wp2_with (go_at_call 67; refine (rvalidString_any _ _ hs).mono ?_; rintro e w' ⟨rfl, rfl⟩)
      go_ret
      exact ⟨strOk s, rfl, (Below.refl _ _).alloc (Nat.le_refl _) _, HE.out.symm⟩
    · have HE : Hid (¬ Sc 3 n s) := Lib.hid (by unfold Sc; simp [hn])
      go_enter Try.func60, Try.ntmps60
      go_wp2
      go_ret
      exact ⟨_, rfl, (Below.refl _ _).alloc (Nat.le_refl _) _, by rw [iff_false_right HE.out]; simp [hn]⟩
  by_cases h0 : k = 0
  · subst h0
    have HE : Hid (Sc 0 n s ↔ (n = 0 ∧ s = [])) := Lib.hid (by unfold Sc; simp)
    all_goals
      go_enter Try.func60, Try.ntmps60
      go_wp2
    all_goals
      go_ret
      refine ⟨_, rfl, (Below.refl _ _).alloc (Nat.le_refl _) _, ?_⟩
      rw [HE.out]
      first | (simp [*]; done) | (simp; omega) | omega | (simp [*]; omega) | (simp_all; done)
  by_cases h1 : k = 1
  · subst h1
    have HE : Hid (Sc 1 n s ↔ ((n = 0 ∨ n = 1) ∧ s = [])) := Lib.hid (by unfold Sc; simp)
    all_goals
      go_enter Try.func60, Try.ntmps60
      go_wp2
    all_goals
      go_ret
      refine ⟨_, rfl, (Below.refl _ _).alloc (Nat.le_refl _) _, ?_⟩
      rw [HE.out]
      first | (simp [*]; done) | (simp; omega) | omega | (simp [*]; omega) | (simp_all; done)
  by_cases h2 : k = 2
  · subst h2
    have HE : Hid (Sc 2 n s ↔ (-1000000000000000 ≤ n ∧ n ≤ 1000000000000000 ∧ s = [])) := Lib.hid (by unfold Sc; simp)
    rcases (show n < -1000000000000000 ∨ 1000000000000000 < n ∨ (-1000000000000000 ≤ n ∧ n ≤ 1000000000000000) by omega) with hr | hr | ⟨hr, hr2⟩
    all_goals
      go_enter Try.func60, Try.ntmps60
      go_wp2
    all_goals
      go_ret
      refine ⟨_, rfl, (Below.refl _ _).alloc (Nat.le_refl _) _, ?_⟩
      rw [HE.out]
      first | (simp [*]; done) | (simp; omega) | omega | (simp [*]; omega) | (simp_all; done)
  by_cases h4 : k = 4
  · subst h4
    have HE : Hid (Sc 4 n s ↔ (n = 0 ∧ s = [])) := Lib.hid (by unfold Sc; simp)
    all_goals
      go_enter Try.func60, Try.ntmps60
      go_wp2
    all_goals
      go_ret
      refine ⟨_, rfl, (Below.refl _ _).alloc (Nat.le_refl _) _, ?_⟩
      rw [HE.out]
      first | (simp [*]; done) | (simp; omega) | omega | (simp [*]; omega) | (simp_all; done)
  by_cases h5 : k = 5
  · subst h5
    have HE : Hid (Sc 5 n s ↔ (n = 0 ∧ s = [])) := Lib.hid (by unfold Sc; simp)
    all_goals
      go_enter Try.func60, Try.ntmps60
      go_wp2
    all_goals
      go_ret
      refine ⟨_, rfl, (Below.refl _ _).alloc (Nat.le_refl _) _, ?_⟩
      rw [HE.out]
      first | (simp [*]; done) | (simp; omega) | omega | (simp [*]; omega) | (simp_all; done)
  have HE : Hid (¬ Sc k n s) := Lib.hid (by unfold Sc; simp [h0, h1, h2, h3, h4, h5])
  go_enter Try.func60, Try.ntmps60
  go_wp2
  go_ret
  exact ⟨_, rfl, (Below.refl _ _).alloc (Nat.le_refl _) _, by rw [iff_false_right HE.out]; simp⟩
end Go.Proofs.Ytmmembmohkideaa
