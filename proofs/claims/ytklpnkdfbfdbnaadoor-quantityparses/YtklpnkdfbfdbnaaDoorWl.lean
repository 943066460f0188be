/- The contract of the reference's reading without a sign: the ways without a fraction that end in a number or in its range. -/
import Derived.Test.YtklpnkdfbfdbnaaDoorWj
namespace Go.Proofs.YtklpnkdfbfdbnaaDoor
open Go.RowKit

set_option maxHeartbeats 2000000 in
theorem rnodot_big (t wh : List UInt8) (w : World) (hl : t.length ≤ 9223372036854775807) (hwh : t.takeWhile isDig = wh) (hk0 : 1 ≤ wh.length) (hk2 : wh.length ≤ 15) (hkl : wh.length ≤ t.length)
    (hp : 0 < t.length) (h48 : wh.length ≤ 1 ∨ 1 < wh.length ∧ (((⟨t.toArray⟩ : ByteArray)[0]'hp |>.toNat : Int) == 48) = false)
    (rest : List UInt8) (x1 : (⟨t.toArray⟩ : ByteArray).extract 0 wh.length = ⟨wh.toArray⟩) (x2 : (⟨t.toArray⟩ : ByteArray).extract wh.length t.length = ⟨rest.toArray⟩)
    (D : Nat) (CN : Hid (∀ w, Calls Tryd.prog 32 #[.string ⟨wh.toArray⟩] w fun e w' => e = .returned (.int .i64 D) ∧ w' = w))
    (hm : (rest == [109]) = false) (hrl : rest.length ≤ 9223372036854775807) (hnd : rest.length ≤ 0 ∨ ∃ hp2 : 0 < rest.length, (((⟨rest.toArray⟩ : ByteArray)[0]'hp2 |>.toNat : Int) == 46) = false) (F : Int) (hF : facR rest = F) (hFb : (F == 0) = false) (hD2 : 1000000000000 < (D : Int)) :
    Calls Tryd.prog 25 #[.string ⟨t.toArray⟩] w fun e w' => e = .returned (.tuple #[.int .i64 0, .int .i64 5]) ∧ ∃ n, w' = w.drewN n := by
  rcases h48 with h48 | ⟨h48, h48'⟩ <;> rcases hnd with hnd | ⟨hp2, hnd⟩
  all_goals
    go_enter Tryd.func25, Tryd.ntmps25
    go_wp2_with (go_at_call 31; refine (rdigits_any _ _ hl).mono ?_; rintro e w' ⟨rfl, rfl⟩)
    go_quiet ((go_at_call 32; exact Calls.quiet_of_same (CN.out _)))
    go_wp2_with (go_at_call 33; refine (rfactor_any _ _).mono ?_; rintro e w' ⟨rfl, rfl⟩)
    go_ret2
    exact ⟨rfl, _, rfl⟩
set_option maxHeartbeats 2000000 in
theorem rnodot_range (t wh : List UInt8) (w : World) (hl : t.length ≤ 9223372036854775807) (hwh : t.takeWhile isDig = wh) (hk0 : 1 ≤ wh.length) (hk2 : wh.length ≤ 15) (hkl : wh.length ≤ t.length)
    (hp : 0 < t.length) (h48 : wh.length ≤ 1 ∨ 1 < wh.length ∧ (((⟨t.toArray⟩ : ByteArray)[0]'hp |>.toNat : Int) == 48) = false)
    (rest : List UInt8) (x1 : (⟨t.toArray⟩ : ByteArray).extract 0 wh.length = ⟨wh.toArray⟩) (x2 : (⟨t.toArray⟩ : ByteArray).extract wh.length t.length = ⟨rest.toArray⟩)
    (D : Nat) (CN : Hid (∀ w, Calls Tryd.prog 32 #[.string ⟨wh.toArray⟩] w fun e w' => e = .returned (.int .i64 D) ∧ w' = w))
    (hm : (rest == [109]) = false) (hrl : rest.length ≤ 9223372036854775807) (hnd : rest.length ≤ 0 ∨ ∃ hp2 : 0 < rest.length, (((⟨rest.toArray⟩ : ByteArray)[0]'hp2 |>.toNat : Int) == 46) = false) (F : Int) (hF : facR rest = F) (hF0 : 0 < F) (hFb : (F == 0) = false) (hD2 : (D : Int) ≤ 1000000000000) (hlt : 1000000000000000 / F < (D : Int) * 1000) :
    Calls Tryd.prog 25 #[.string ⟨t.toArray⟩] w fun e w' => e = .returned (.tuple #[.int .i64 0, .int .i64 5]) ∧ ∃ n, w' = w.drewN n := by
  rcases h48 with h48 | ⟨h48, h48'⟩ <;> rcases hnd with hnd | ⟨hp2, hnd⟩
  all_goals
    go_enter Tryd.func25, Tryd.ntmps25
    go_wp2_with (go_at_call 31; refine (rdigits_any _ _ hl).mono ?_; rintro e w' ⟨rfl, rfl⟩)
    go_quiet ((go_at_call 32; exact Calls.quiet_of_same (CN.out _)))
    go_wp2_with (go_at_call 33; refine (rfactor_any _ _).mono ?_; rintro e w' ⟨rfl, rfl⟩)
    go_ret2
    exact ⟨rfl, _, rfl⟩
set_option maxHeartbeats 2000000 in
theorem rnodot_ok (t wh : List UInt8) (w : World) (hl : t.length ≤ 9223372036854775807) (hwh : t.takeWhile isDig = wh) (hk0 : 1 ≤ wh.length) (hk2 : wh.length ≤ 15) (hkl : wh.length ≤ t.length)
    (hp : 0 < t.length) (h48 : wh.length ≤ 1 ∨ 1 < wh.length ∧ (((⟨t.toArray⟩ : ByteArray)[0]'hp |>.toNat : Int) == 48) = false)
    (rest : List UInt8) (x1 : (⟨t.toArray⟩ : ByteArray).extract 0 wh.length = ⟨wh.toArray⟩) (x2 : (⟨t.toArray⟩ : ByteArray).extract wh.length t.length = ⟨rest.toArray⟩)
    (D : Nat) (CN : Hid (∀ w, Calls Tryd.prog 32 #[.string ⟨wh.toArray⟩] w fun e w' => e = .returned (.int .i64 D) ∧ w' = w))
    (hm : (rest == [109]) = false) (hrl : rest.length ≤ 9223372036854775807) (hnd : rest.length ≤ 0 ∨ ∃ hp2 : 0 < rest.length, (((⟨rest.toArray⟩ : ByteArray)[0]'hp2 |>.toNat : Int) == 46) = false) (F : Int) (hF : facR rest = F) (hF0 : 0 < F) (hFb : (F == 0) = false) (hD2 : (D : Int) ≤ 1000000000000) (hle : (D : Int) * 1000 ≤ 1000000000000000 / F) (b0 : 0 ≤ (D : Int) * 1000 * F) (b1 : (D : Int) * 1000 * F ≤ 1000000000000000) :
    Calls Tryd.prog 25 #[.string ⟨t.toArray⟩] w fun e w' => e = .returned (.tuple #[.int .i64 ((D : Int) * 1000 * F), .int .i64 0]) ∧ ∃ n, w' = w.drewN n := by
  rcases h48 with h48 | ⟨h48, h48'⟩ <;> rcases hnd with hnd | ⟨hp2, hnd⟩
  all_goals
    go_enter Tryd.func25, Tryd.ntmps25
    go_wp2_with (go_at_call 31; refine (rdigits_any _ _ hl).mono ?_; rintro e w' ⟨rfl, rfl⟩)
    go_quiet ((go_at_call 32; exact Calls.quiet_of_same (CN.out _)))
    go_wp2_with (go_at_call 33; refine (rfactor_any _ _).mono ?_; rintro e w' ⟨rfl, rfl⟩)
    go_ret2
    exact ⟨rfl, _, rfl⟩
end Go.Proofs.YtklpnkdfbfdbnaaDoor
