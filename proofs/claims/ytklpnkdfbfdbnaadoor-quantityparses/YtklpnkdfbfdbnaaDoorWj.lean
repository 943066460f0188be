/- The contract of the reference's reading without a sign. -/
import Derived.Test.YtklpnkdfbfdbnaaDoorWi
import Derived.Test.YtklpnkdfbfdbnaaDoorMf
namespace Go.Proofs.YtklpnkdfbfdbnaaDoor
open Go.RowKit

set_option maxHeartbeats 1000000 in
theorem rbad_k (t wh : List UInt8) (w : World) (hl : t.length ≤ 9223372036854775807) (hwh : t.takeWhile isDig = wh) (hk : wh.length < 1 ∨ 15 < wh.length) :
    Calls Tryd.prog 25 #[.string ⟨t.toArray⟩] w fun e w' => e = .returned (.tuple #[.int .i64 0, .int .i64 2]) ∧ ∃ n, w' = w.drewN n := by
  rcases hk with hk | hk
  all_goals
    go_enter Tryd.func25, Tryd.ntmps25
    go_wp2_with (go_at_call 31; refine (rdigits_any _ _ hl).mono ?_; rintro e w' ⟨rfl, rfl⟩)
    go_ret2
    exact ⟨rfl, 0, rfl⟩
set_option maxHeartbeats 1000000 in
theorem rbad_zero (t wh : List UInt8) (w : World) (hl : t.length ≤ 9223372036854775807) (hwh : t.takeWhile isDig = wh) (hk : 1 < wh.length) (hk2 : wh.length ≤ 15)
    (hp : 0 < t.length) (h48 : (((⟨t.toArray⟩ : ByteArray)[0]'hp |>.toNat : Int) == 48) = true) :
    Calls Tryd.prog 25 #[.string ⟨t.toArray⟩] w fun e w' => e = .returned (.tuple #[.int .i64 0, .int .i64 2]) ∧ ∃ n, w' = w.drewN n := by
  go_enter Tryd.func25, Tryd.ntmps25
  go_wp2_with (go_at_call 31; refine (rdigits_any _ _ hl).mono ?_; rintro e w' ⟨rfl, rfl⟩)
  go_ret2
  exact ⟨rfl, 0, rfl⟩
set_option maxHeartbeats 2000000 in
theorem rmilli (t wh : List UInt8) (w : World) (hl : t.length ≤ 9223372036854775807) (hwh : t.takeWhile isDig = wh) (hk0 : 1 ≤ wh.length) (hk2 : wh.length ≤ 15) (hkl : wh.length ≤ t.length)
    (hp : 0 < t.length) (h48 : wh.length ≤ 1 ∨ 1 < wh.length ∧ (((⟨t.toArray⟩ : ByteArray)[0]'hp |>.toNat : Int) == 48) = false)
    (rest : List UInt8) (x1 : (⟨t.toArray⟩ : ByteArray).extract 0 wh.length = ⟨wh.toArray⟩) (x2 : (⟨t.toArray⟩ : ByteArray).extract wh.length t.length = ⟨rest.toArray⟩)
    (D : Nat) (hD1 : D < 1000000000000000) (CN : Hid (∀ w, Calls Tryd.prog 32 #[.string ⟨wh.toArray⟩] w fun e w' => e = .returned (.int .i64 D) ∧ w' = w))
    (hm : (rest == [109]) = true) :
    Calls Tryd.prog 25 #[.string ⟨t.toArray⟩] w fun e w' => e = .returned (.tuple #[.int .i64 D, .int .i64 0]) ∧ ∃ n, w' = w.drewN n := by
  rcases h48 with h48 | ⟨h48, h48'⟩
  all_goals
    go_enter Tryd.func25, Tryd.ntmps25
    go_wp2_with (go_at_call 31; refine (rdigits_any _ _ hl).mono ?_; rintro e w' ⟨rfl, rfl⟩)
    go_quiet ((go_at_call 32; exact Calls.quiet_of_same (CN.out _)))
    go_wp2_with fail
    go_ret2
    exact ⟨rfl, _, rfl⟩
set_option maxHeartbeats 2000000 in
theorem rfrac (t wh : List UInt8) (w : World) (hl : t.length ≤ 9223372036854775807) (hwh : t.takeWhile isDig = wh) (hk0 : 1 ≤ wh.length) (hk2 : wh.length ≤ 15) (hkl : wh.length ≤ t.length)
    (hp : 0 < t.length) (h48 : wh.length ≤ 1 ∨ 1 < wh.length ∧ (((⟨t.toArray⟩ : ByteArray)[0]'hp |>.toNat : Int) == 48) = false)
    (rest : List UInt8) (x1 : (⟨t.toArray⟩ : ByteArray).extract 0 wh.length = ⟨wh.toArray⟩) (x2 : (⟨t.toArray⟩ : ByteArray).extract wh.length t.length = ⟨rest.toArray⟩)
    (D : Nat) (CN : Hid (∀ w, Calls Tryd.prog 32 #[.string ⟨wh.toArray⟩] w fun e w' => e = .returned (.int .i64 D) ∧ w' = w))
    (hm : (rest == [109]) = false) (hrl : rest.length ≤ 9223372036854775807) (hp2 : 0 < rest.length) (hdot : (((⟨rest.toArray⟩ : ByteArray)[0]'hp2 |>.toNat : Int) == 46) = true)
    (tail fr : List UInt8) (htl : tail.length ≤ 9223372036854775807) (x3 : (⟨rest.toArray⟩ : ByteArray).extract 1 rest.length = ⟨tail.toArray⟩) (hfr : tail.takeWhile isDig = fr) (hj : (fr.length : Int) < 1 ∨ 3 < (fr.length : Int)) :
    Calls Tryd.prog 25 #[.string ⟨t.toArray⟩] w fun e w' => e = .returned (.tuple #[.int .i64 0, .int .i64 2]) ∧ ∃ n, w' = w.drewN n := by
  rcases h48 with h48 | ⟨h48, h48'⟩ <;> rcases hj with hj | hj
  all_goals
    go_enter Tryd.func25, Tryd.ntmps25
    go_wp2_with (go_at_call 31; refine (rdigits_any _ _ hl).mono ?_; rintro e w' ⟨rfl, rfl⟩)
    go_quiet ((go_at_call 32; exact Calls.quiet_of_same (CN.out _)))
    go_wp2_with (go_at_call 31; refine (rdigits_any _ _ htl).mono ?_; rintro e w' ⟨rfl, rfl⟩)
    go_ret2
    exact ⟨rfl, _, rfl⟩
set_option maxHeartbeats 2000000 in
theorem rdot_fac (t wh : List UInt8) (w : World) (hl : t.length ≤ 9223372036854775807) (hwh : t.takeWhile isDig = wh) (hk0 : 1 ≤ wh.length) (hk2 : wh.length ≤ 15) (hkl : wh.length ≤ t.length)
    (hp : 0 < t.length) (h48 : wh.length ≤ 1 ∨ 1 < wh.length ∧ (((⟨t.toArray⟩ : ByteArray)[0]'hp |>.toNat : Int) == 48) = false)
    (rest : List UInt8) (x1 : (⟨t.toArray⟩ : ByteArray).extract 0 wh.length = ⟨wh.toArray⟩) (x2 : (⟨t.toArray⟩ : ByteArray).extract wh.length t.length = ⟨rest.toArray⟩)
    (D : Nat) (CN : Hid (∀ w, Calls Tryd.prog 32 #[.string ⟨wh.toArray⟩] w fun e w' => e = .returned (.int .i64 D) ∧ w' = w))
    (hm : (rest == [109]) = false) (hrl : rest.length ≤ 9223372036854775807) (hp2 : 0 < rest.length) (hdot : (((⟨rest.toArray⟩ : ByteArray)[0]'hp2 |>.toNat : Int) == 46) = true)
    (tail fr : List UInt8) (htl : tail.length ≤ 9223372036854775807) (x3 : (⟨rest.toArray⟩ : ByteArray).extract 1 rest.length = ⟨tail.toArray⟩) (hfr : tail.takeWhile isDig = fr) (hj1 : 1 ≤ fr.length) (hj3 : fr.length ≤ 3) (hfl : 1 + fr.length ≤ rest.length)
    (sf : List UInt8) (x4 : (⟨rest.toArray⟩ : ByteArray).extract 1 (1 + fr.length) = ⟨fr.toArray⟩) (x6 : (⟨rest.toArray⟩ : ByteArray).extract (1 + fr.length) rest.length = ⟨sf.toArray⟩)
    (T : Nat) (CT : Hid (∀ w, Calls Tryd.prog 32 #[.string ((⟨fr.toArray⟩ ++ ⟨#[48, 48]⟩ : ByteArray).extract 0 3)] w fun e w' => e = .returned (.int .i64 T) ∧ w = w')) (hF : facR sf = 0) :
    Calls Tryd.prog 25 #[.string ⟨t.toArray⟩] w fun e w' => e = .returned (.tuple #[.int .i64 0, .int .i64 2]) ∧ ∃ n, w' = w.drewN n := by
  rcases h48 with h48 | ⟨h48, h48'⟩
  all_goals
    go_enter Tryd.func25, Tryd.ntmps25
    go_wp2_with (go_at_call 31; refine (rdigits_any _ _ hl).mono ?_; rintro e w' ⟨rfl, rfl⟩)
    go_quiet ((go_at_call 32; exact Calls.quiet_of_same (CN.out _)))
    go_wp2_with (first
      | (go_at_call 31; refine (rdigits_any _ _ htl).mono ?_; rintro e w' ⟨rfl, rfl⟩)
      | (go_at_call 32; refine (CT.out _).mono ?_; rintro e w' ⟨rfl, rfl⟩)
      | (go_at_call 33; refine (rfactor_any _ _).mono ?_; rintro e w' ⟨rfl, rfl⟩))
    go_ret2
    exact ⟨rfl, _, rfl⟩
set_option maxHeartbeats 2000000 in
theorem rnodot_fac (t wh : List UInt8) (w : World) (hl : t.length ≤ 9223372036854775807) (hwh : t.takeWhile isDig = wh) (hk0 : 1 ≤ wh.length) (hk2 : wh.length ≤ 15) (hkl : wh.length ≤ t.length)
    (hp : 0 < t.length) (h48 : wh.length ≤ 1 ∨ 1 < wh.length ∧ (((⟨t.toArray⟩ : ByteArray)[0]'hp |>.toNat : Int) == 48) = false)
    (rest : List UInt8) (x1 : (⟨t.toArray⟩ : ByteArray).extract 0 wh.length = ⟨wh.toArray⟩) (x2 : (⟨t.toArray⟩ : ByteArray).extract wh.length t.length = ⟨rest.toArray⟩)
    (D : Nat) (CN : Hid (∀ w, Calls Tryd.prog 32 #[.string ⟨wh.toArray⟩] w fun e w' => e = .returned (.int .i64 D) ∧ w' = w))
    (hm : (rest == [109]) = false) (hrl : rest.length ≤ 9223372036854775807) (hnd : rest.length ≤ 0 ∨ ∃ hp2 : 0 < rest.length, (((⟨rest.toArray⟩ : ByteArray)[0]'hp2 |>.toNat : Int) == 46) = false) (hF : facR rest = 0) :
    Calls Tryd.prog 25 #[.string ⟨t.toArray⟩] w fun e w' => e = .returned (.tuple #[.int .i64 0, .int .i64 2]) ∧ ∃ n, w' = w.drewN n := by
  rcases h48 with h48 | ⟨h48, h48'⟩ <;> rcases hnd with hnd | ⟨hp2, hnd⟩
  all_goals
    go_enter Tryd.func25, Tryd.ntmps25
    go_wp2_with (go_at_call 31; refine (rdigits_any _ _ hl).mono ?_; rintro e w' ⟨rfl, rfl⟩)
    go_quiet ((go_at_call 32; exact Calls.quiet_of_same (CN.out _)))
    go_wp2_with (go_at_call 33; refine (rfactor_any _ _).mono ?_; rintro e w' ⟨rfl, rfl⟩)
    go_ret2
    exact ⟨rfl, _, rfl⟩
end Go.Proofs.YtklpnkdfbfdbnaaDoor
