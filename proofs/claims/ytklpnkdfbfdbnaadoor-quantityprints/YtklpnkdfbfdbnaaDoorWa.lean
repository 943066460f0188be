/- Contracts of the small integer functions (clamp, percentage, Resolve and the reference's). -/
import Derived.Test.YtklpnkdfbfdbnaaDoorProg
import Derived.Test.YtklpnkdfbfdbnaaDoorMa
import Derived.WalkKit
import Derived.WalkSpells
import Derived.WalkLawsBesides
import Derived.BigQuiet
import Derived.Lib.QuietBelow
namespace Go.Proofs.YtklpnkdfbfdbnaaDoor
open Go.RowKit

theorem ret_int {k : IntKind} {a b : Int} (h : a = b) : Ending.returned (.int k a) = .returned (.int k b) := by rw [h]

set_option maxHeartbeats 400000 in
theorem clamp_any (n lo hi : Int) (w : World) :
    Calls Tryd.prog 26 #[.int .i64 n, .int .i64 lo, .int .i64 hi] w fun e w' => e = .returned (.int .i64 (clampI n lo hi)) ∧ w = w' := by
  go_enter Tryd.func26, Tryd.ntmps26
  go_wp2
  all_goals
    go_ret
    exact ⟨ret_int (by unfold clampI; split at * <;> omega), rfl⟩

set_option maxHeartbeats 400000 in
theorem rclamp_any (n lo hi : Int) (h : lo ≤ hi) (w : World) :
    Calls Tryd.prog 15 #[.int .i64 n, .int .i64 lo, .int .i64 hi] w fun e w' => e = .returned (.int .i64 (clampI n lo hi)) ∧ w = w' := by
  go_enter Tryd.func15, Tryd.ntmps15
  go_wp2
  all_goals
    go_ret
    exact ⟨ret_int (by unfold clampI; split at * <;> omega), rfl⟩

theorem mul_bd {a b A B : Int} (ha : 0 ≤ a) (hA : a ≤ A) (hb : 0 ≤ b) (hB : b ≤ B) : 0 ≤ a * b ∧ a * b ≤ A * B :=
  ⟨Int.mul_nonneg ha hb, Int.mul_le_mul hA hB hb (by omega)⟩

set_option maxHeartbeats 400000 in
theorem percentage_any (share total : Int) (up : Bool) (w : World) (hs0 : 0 ≤ share) (hs : share ≤ 1000000000000000) (ht0 : 0 ≤ total) (ht : total ≤ 1000000000000000) :
    Calls Tryd.prog 29 #[.int .i64 share, .int .i64 total, .bool up] w fun e w' => e = .returned (.int .i64 (pctI share total up)) ∧ w = w' := by
  obtain ⟨m1, m2⟩ := mul_bd (a := total % 100) (b := share) (A := 99) (B := 1000000000000000) (by omega) (by omega) hs0 hs
  by_cases hp : 0 < share
  · by_cases hb : 1000000000000000 / share < total / 100
    · go_enter Tryd.func29, Tryd.ntmps29
      go_wp2
      go_ret
      exact ⟨ret_int (pctI_big up hp hb).symm, rfl⟩
    · have n1 : 0 ≤ total / 100 * share := Int.mul_nonneg (by omega) hs0
      have n2 : total / 100 * share ≤ 1000000000000000 := pct_small hp (by omega)
      cases up
      all_goals
        go_enter Tryd.func29, Tryd.ntmps29
        go_wp2
        all_goals
          go_ret
          exact ⟨ret_int (by rw [pctI_eq]; simp only [upI_true, upI_false]; omega), rfl⟩
  · obtain rfl : share = 0 := by omega
    cases up
    all_goals
      go_enter Tryd.func29, Tryd.ntmps29
      go_wp2
      all_goals
        go_ret
        exact ⟨ret_int (by rw [pctI_eq]; simp only [upI_true, upI_false]; omega), rfl⟩

end Go.Proofs.YtklpnkdfbfdbnaaDoor
