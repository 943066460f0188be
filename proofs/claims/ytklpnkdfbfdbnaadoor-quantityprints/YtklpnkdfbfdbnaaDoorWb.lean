/- Contracts of Resolve and of the reference's Resolve. -/
import Derived.Test.YtklpnkdfbfdbnaaDoorWa
import Derived.Lib.Hide
namespace Go.Proofs.YtklpnkdfbfdbnaaDoor
open Go.RowKit

set_option maxHeartbeats 400000 in
theorem resolve_any (p : Bool) (n total : Int) (up : Bool) (w : World) :
    Calls Tryd.prog 16 #[.agg #[.bool p, .int .i64 n], .int .i64 total, .bool up] w fun e w' => e = .returned (.int .i64 (resolveI p n total up)) ∧ Below w.heap.size w w' := by
  have hlo : ∀ x : Int, 0 ≤ clampI x 0 1000000000000000 := fun x => clampI_lo
  have hhi : ∀ x : Int, clampI x 0 1000000000000000 ≤ 1000000000000000 := fun x => clampI_hi (by decide)
  cases p
  · go_enter Tryd.func16, Tryd.ntmps16
    go_wp2_with (go_at_call 26; refine (clamp_any _ _ _ _).mono ?_; rintro e w' ⟨rfl, rfl⟩)
    go_ret
    exact ⟨rfl, (Below.refl _ _).alloc (Nat.le_refl _) _⟩
  · go_enter Tryd.func16, Tryd.ntmps16
    go_wp2_with (first | (go_at_call 26; refine (clamp_any _ _ _ _).mono ?_; rintro e w' ⟨rfl, rfl⟩) | (go_at_call 29; refine (percentage_any _ _ _ _ (hlo _) (hhi _) (hlo _) (hhi _)).mono ?_; rintro e w' ⟨rfl, rfl⟩))
    go_ret
    exact ⟨rfl, (Below.refl _ _).alloc (Nat.le_refl _) _⟩

set_option maxHeartbeats 1000000 in
theorem rresolve_any (p : Bool) (n total : Int) (up : Bool) (w : World) :
    Calls Tryd.prog 17 #[.agg #[.bool p, .int .i64 n], .int .i64 total, .bool up] w fun e w' => e = .returned (.int .i64 (resolveI p n total up)) ∧ Below w.heap.size w w' := by
  have hN0 : 0 ≤ clampI n 0 1000000000000000 := clampI_lo
  have hN1 : clampI n 0 1000000000000000 ≤ 1000000000000000 := clampI_hi (by decide)
  have hT0 : 0 ≤ clampI total 0 1000000000000000 := clampI_lo
  have hT1 : clampI total 0 1000000000000000 ≤ 1000000000000000 := clampI_hi (by decide)
  have fin : resolveI p n total up = if p then pctI (clampI n 0 1000000000000000) (clampI total 0 1000000000000000) up else clampI n 0 1000000000000000 := rfl
  rw [fin]
  clear fin
  generalize hN : clampI n 0 1000000000000000 = N at *
  generalize hT : clampI total 0 1000000000000000 = T at *
  obtain ⟨m1, m2⟩ := mul_bd (a := T % 100) (b := N) (A := 99) (B := 1000000000000000) (by omega) (by omega) hN0 hN1
  cases p
  · go_enter Tryd.func17, Tryd.ntmps17
    go_wp2_with (go_at_call 15; refine (rclamp_any _ _ _ (by decide) _).mono ?_; rintro e w' ⟨rfl, rfl⟩)
    go_ret
    exact ⟨rfl, (Below.refl _ _).alloc (Nat.le_refl _) _⟩
  · by_cases hp : 0 < T / 100
    · by_cases hb : 1000000000000000 / (T / 100) < N
      · go_enter Tryd.func17, Tryd.ntmps17
        go_wp2_with (go_at_call 15; refine (rclamp_any _ _ _ (by decide) _).mono ?_; rintro e w' ⟨rfl, rfl⟩)
        go_ret
        exact ⟨ret_int (pctI_big' up hp hN0 hb).symm, (Below.refl _ _).alloc (Nat.le_refl _) _⟩
      · have n1 : 0 ≤ T / 100 * N := Int.mul_nonneg (by omega) hN0
        have n2 : T / 100 * N ≤ 1000000000000000 := by rw [Int.mul_comm]; exact pct_small hp (by omega)
        cases up
        all_goals
          go_enter Tryd.func17, Tryd.ntmps17
          go_wp2_with (go_at_call 15; refine (rclamp_any _ _ _ (by decide) _).mono ?_; rintro e w' ⟨rfl, rfl⟩)
          all_goals
            go_ret
            exact ⟨ret_int (by rw [pctI_eq]; simp only [upI_true, upI_false]; omega), (Below.refl _ _).alloc (Nat.le_refl _) _⟩
    · have h0 : T / 100 = 0 := by omega
      have n1 : T / 100 * N = 0 := by rw [h0, Int.zero_mul]
      have H0 := Lib.hid h0
      have H1 := Lib.hid n1
      clear h0 n1
      have n0 : 0 ≤ T / 100 * N := by rw [H1.out]; decide
      have n2 : T / 100 * N ≤ 0 := by rw [H1.out]; decide
      cases up
      all_goals
        go_enter Tryd.func17, Tryd.ntmps17
        go_wp2_with (go_at_call 15; refine (rclamp_any _ _ _ (by decide) _).mono ?_; rintro e w' ⟨rfl, rfl⟩)
        all_goals
          go_ret
          exact ⟨ret_int (by rw [pctI_eq]; simp only [upI_true, upI_false]; omega), (Below.refl _ _).alloc (Nat.le_refl _) _⟩
end Go.Proofs.YtklpnkdfbfdbnaaDoor
