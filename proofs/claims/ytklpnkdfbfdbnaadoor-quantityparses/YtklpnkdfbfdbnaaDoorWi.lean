/- Contracts of the reference's functions on digits. -/
import Derived.Test.YtklpnkdfbfdbnaaDoorWd
namespace Go.Proofs.YtklpnkdfbfdbnaaDoor
open Go.RowKit

set_option maxHeartbeats 400000 in
theorem rdigits_any (l : List UInt8) (w : World) (hl : l.length ≤ 9223372036854775807) :
    Calls Tryd.prog 31 #[.string ⟨l.toArray⟩] w fun e w' => e = .returned (.int .i64 ((l.takeWhile isDig).length : Nat)) ∧ w = w' := by
  go_enter Tryd.func31, Tryd.ntmps31
  go_wp2
  go_loop [3] (fun i => ∃ k : Nat, k ≤ l.length ∧ i = .int .i64 k ∧ DigTo l k) (fun i => l.length - (intOf i).toNat)
  case atStart => exact ⟨0, Nat.zero_le _, rfl, DigTo_zero l⟩
  case round =>
    obtain ⟨k, hk, rfl, hd⟩ := hrel
    have hk2 : (k : Int) ≤ l.length := by omega
    by_cases hlt : k < l.length
    · by_cases hdig : isDig l[k] = true
      · have h12 := (isDig_iff _).1 hdig
        have g1 : (48 : Int) ≤ ((⟨l.toArray⟩ : ByteArray)[k]'hlt |>.toNat : Int) := by show (48 : Int) ≤ (l[k].toNat : Int); omega
        have g2 : ((⟨l.toArray⟩ : ByteArray)[k]'hlt |>.toNat : Int) ≤ 57 := by show (l[k].toNat : Int) ≤ 57; omega
        have H := Lib.hid hdig
        clear hdig h12
        go_wp2
        go_round
        case rel => exact ⟨k + 1, by omega, by go_num, DigTo_succ hd hlt H.out⟩
        case measure => simp [intOf]; omega
      · have hdig' : isDig l[k] = false := by simpa using hdig
        have h12 := (isDig_not _).1 hdig'
        have e1 : (l.takeWhile isDig).length = k := by rw [(takeWhile_of hd hlt hdig').1, List.length_take]; omega
        have H := Lib.hid e1
        clear hdig hdig' e1
        by_cases g1 : (48 : Int) ≤ ((⟨l.toArray⟩ : ByteArray)[k]'hlt |>.toNat : Int)
        · have g2 : ¬ ((⟨l.toArray⟩ : ByteArray)[k]'hlt |>.toNat : Int) ≤ 57 := by
            show ¬ (l[k].toNat : Int) ≤ 57
            have g1' : (48 : Int) ≤ (l[k].toNat : Int) := g1
            omega
          clear h12
          go_wp2
          go_ret
          exact ⟨congrArg Ending.returned (int_eq (by rw [H.out])), rfl⟩
        · clear h12
          go_wp2
          go_ret
          exact ⟨congrArg Ending.returned (int_eq (by rw [H.out])), rfl⟩
    · obtain rfl : k = l.length := by omega
      have e1 : (l.takeWhile isDig).length = l.length := by rw [(takeWhile_end hd).1]
      have H := Lib.hid e1
      clear e1
      go_wp2
      go_ret
      exact ⟨congrArg Ending.returned (int_eq (by rw [H.out])), rfl⟩

set_option maxHeartbeats 400000 in
theorem rnumber_any (l : List UInt8) (w : World) (hl : l.length ≤ 15) (hd : ∀ c ∈ l, isDig c = true) :
    Calls Tryd.prog 32 #[.string ⟨l.toArray⟩] w fun e w' => e = .returned (.int .i64 (decN l)) ∧ w = w' := by
  have hD := Lib.hid hd
  clear hd
  go_enter Tryd.func32, Tryd.ntmps32
  go_wp2
  go_loop [3, 4] (fun n i => ∃ k : Nat, k ≤ l.length ∧ i = .int .i64 k ∧ n = .int .i64 (decN (l.take k))) (fun _ i => l.length - (intOf i).toNat)
  case atStart => exact ⟨0, Nat.zero_le _, rfl, rfl⟩
  case round =>
    obtain ⟨k, hk, rfl, rfl⟩ := hrel
    have hb : decN (l.take k) < 10 ^ k := decN_lt_take hD.out k hk
    have hb2 : 10 ^ k ≤ 10 ^ 15 := Nat.pow_le_pow_right (by decide) (by omega)
    have hb3 : (decN (l.take k) : Int) < 1000000000000000 := by omega
    clear hb hb2
    by_cases hlt : k < l.length
    · have hs := decN_take hlt
      have hc := (isDig_iff _).1 (hD.out l[k] (List.getElem_mem hlt))
      have HS := Lib.hid hs
      clear hs
      have g1 : (48 : Int) ≤ ((⟨l.toArray⟩ : ByteArray)[k]'hlt |>.toNat : Int) := by show (48 : Int) ≤ (l[k].toNat : Int); omega
      have g2 : ((⟨l.toArray⟩ : ByteArray)[k]'hlt |>.toNat : Int) ≤ 57 := by show (l[k].toNat : Int) ≤ 57; omega
      have HC := Lib.hid hc
      clear hc
      go_wp2
      go_round
      case rel =>
        refine ⟨k + 1, by omega, by go_num, int_eq ?_⟩
        have h1 := HC.out
        rw [HS.out]
        show (decN (l.take k) : Int) * 10 + ((l[k].toNat : Int) - 48) = _
        omega
      case measure => simp [intOf]; omega
    · obtain rfl : k = l.length := by omega
      go_wp2
      go_ret
      exact ⟨rfl, rfl⟩

/-- the reference's factor: none for m -/
def facR (l : List UInt8) : Int := if l = [109] then 0 else facOf l
set_option maxHeartbeats 400000 in
theorem rfactor_any (l : List UInt8) (w : World) :
    Calls Tryd.prog 33 #[.string ⟨l.toArray⟩] w fun e w' => e = .returned (.int .i64 (facR l)) ∧ w = w' := by
  go_enter Tryd.func33, Tryd.ntmps33
  go_wp2
  all_goals
    go_ret
    refine ⟨congrArg Ending.returned (int_eq ?_), rfl⟩
    by_cases h109 : l = [109] <;> simp_all [facR, facOf]
end Go.Proofs.YtklpnkdfbfdbnaaDoor
