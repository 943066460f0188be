/- Contracts of the functions on digits. -/
import Derived.Test.YtklpnkdfbfdbnaaDoorProg
import Derived.Test.YtklpnkdfbfdbnaaDoorMc
import Derived.Test.YtklpnkdfbfdbnaaDoorShelf
import Derived.WalkKit
import Derived.WalkSpells
import Derived.WalkLawsBesides
import Derived.BigQuiet
import Derived.Lib.Hide
namespace Go.Proofs.YtklpnkdfbfdbnaaDoor
open Go.RowKit

theorem tup2 {a b a' b' : Value} (h1 : a = a') (h2 : b = b') : Ending.returned (.tuple #[a, b]) = .returned (.tuple #[a', b']) := by rw [h1, h2]
theorem str_eq {l l' : List UInt8} (h : l = l') : Value.string ⟨l.toArray⟩ = Value.string ⟨l'.toArray⟩ := by rw [h]
theorem int_eq {k : IntKind} {a b : Int} (h : a = b) : Value.int k a = Value.int k b := by rw [h]

theorem dig_yes {l : List UInt8} {k : Nat} (hk : k < l.length) (h1 : 48 ≤ ((⟨l.toArray⟩ : ByteArray)[k]'hk |>.toNat : Int)) (h2 : ((⟨l.toArray⟩ : ByteArray)[k]'hk |>.toNat : Int) ≤ 57) : isDig l[k] = true := by
  have e : (⟨l.toArray⟩ : ByteArray)[k]'hk = l[k] := rfl
  rw [e] at h1 h2
  rw [isDig_iff]; omega

theorem ext_take {l : List UInt8} (k : Nat) : (⟨l.toArray⟩ : ByteArray).extract 0 k = ⟨(l.take k).toArray⟩ := by
  apply ByteArray.ext; rw [ByteArray.data_extract]; simp
theorem ext_drop {l : List UInt8} (k : Nat) : (⟨l.toArray⟩ : ByteArray).extract k l.length = ⟨(l.drop k).toArray⟩ := by
  apply ByteArray.ext; rw [ByteArray.data_extract]; simp [List.take_of_length_le]

set_option maxHeartbeats 1000000 in
theorem cutDigits_any (l : List UInt8) (w : World) (hl : l.length ≤ 9223372036854775807) :
    Calls Tryd.prog 19 #[.string ⟨l.toArray⟩] w fun e w' => e = .returned (.tuple #[.string ⟨(l.takeWhile isDig).toArray⟩, .string ⟨(l.dropWhile isDig).toArray⟩]) ∧ ∃ n, w' = w.drewN n := by
  go_enter Tryd.func19, Tryd.ntmps19
  go_wp2
  go_loop [4] (fun i => ∃ k : Nat, k ≤ l.length ∧ i = .int .i64 k ∧ DigTo l k) (fun i => l.length - (intOf i).toNat)
  case atStart => exact ⟨0, Nat.zero_le _, rfl, DigTo_zero l⟩
  case round =>
    obtain ⟨k, hk, rfl, hd⟩ := hrel
    have hk2 : (k : Int) ≤ l.length := by omega
    by_cases hlt : k < l.length
    · by_cases hdig : isDig l[k] = true
      · have h12 := (isDig_iff _).1 hdig
        have g1 : (48 : Int) ≤ ((⟨l.toArray⟩ : ByteArray)[k]'hlt |>.toNat : Int) := by show (48 : Int) ≤ (l[k].toNat : Int); omega
        have g2 : ((⟨l.toArray⟩ : ByteArray)[k]'hlt |>.toNat : Int) ≤ 57 := by show (l[k].toNat : Int) ≤ 57; omega
        have H := Lib.hid hdig
        clear hdig h12
        go_wp2
        go_round
        case rel => exact ⟨k + 1, by omega, by go_num, DigTo_succ hd hlt H.out⟩
        case measure => simp [intOf]; omega
      · have hdig' : isDig l[k] = false := by simpa using hdig
        have h12 := (isDig_not _).1 hdig'
        have H := Lib.hid hdig'
        clear hdig hdig'
        by_cases g1 : (48 : Int) ≤ ((⟨l.toArray⟩ : ByteArray)[k]'hlt |>.toNat : Int)
        · have g2 : ¬ ((⟨l.toArray⟩ : ByteArray)[k]'hlt |>.toNat : Int) ≤ 57 := by
            show ¬ (l[k].toNat : Int) ≤ 57
            have g1' : (48 : Int) ≤ (l[k].toNat : Int) := g1
            omega
          clear h12
          go_wp2
          go_quiet (fail)
          go_wp2
          go_ret2
          exact ⟨tup2 (congrArg Value.string (by rw [ext_take, (takeWhile_of hd hlt H.out).1])) (congrArg Value.string (by rw [ext_drop, (takeWhile_of hd hlt H.out).2])), nq, rfl⟩
        · clear h12
          go_wp2
          go_quiet (fail)
          go_wp2
          go_ret2
          exact ⟨tup2 (congrArg Value.string (by rw [ext_take, (takeWhile_of hd hlt H.out).1])) (congrArg Value.string (by rw [ext_drop, (takeWhile_of hd hlt H.out).2])), nq, rfl⟩
    · obtain rfl : k = l.length := by omega
      go_wp2
      go_quiet (fail)
      go_wp2
      go_ret2
      exact ⟨tup2 (congrArg Value.string (by rw [ext_take, (takeWhile_end hd).1, List.take_length])) (congrArg Value.string (by rw [(takeWhile_end hd).2]; rfl)), nq, rfl⟩

theorem cutPrefix_any (l p : List UInt8) (w : World) :
    Calls Tryd.prog 18 #[.string ⟨l.toArray⟩, .string ⟨p.toArray⟩] w fun e w' => e = .returned (.tuple #[.string ⟨(Lib.trimPrefix l p).toArray⟩, .bool (Lib.hasPrefix l p)]) ∧ w = w' :=
  (Tryd.strings_CutPrefix ⟨l.toArray⟩ ⟨p.toArray⟩ w).mono fun _ _ h => ⟨h.1, h.2.symm⟩

set_option maxHeartbeats 400000 in
theorem decimal_any (l : List UInt8) (w : World) (hl : l.length ≤ 15) (hd : ∀ c ∈ l, isDig c = true) :
    Calls Tryd.prog 23 #[.string ⟨l.toArray⟩] w fun e w' => e = .returned (.int .i64 (decN l)) ∧ w = w' := by
  have hD := Lib.hid hd
  clear hd
  go_enter Tryd.func23, Tryd.ntmps23
  go_wp2
  go_loop [3, 7] (fun n i => ∃ k : Nat, k ≤ l.length ∧ i = .int .i64 k ∧ n = .int .i64 (decN (l.take k))) (fun _ i => l.length - (intOf i).toNat)
  case atStart => exact ⟨0, Nat.zero_le _, rfl, rfl⟩
  case round =>
    obtain ⟨k, hk, rfl, rfl⟩ := hrel
    have hb : decN (l.take k) < 10 ^ k := decN_lt_take hD.out k hk
    have hb2 : 10 ^ k ≤ 10 ^ 15 := Nat.pow_le_pow_right (by decide) (by omega)
    have hb3 : (decN (l.take k) : Int) < 1000000000000000 := by omega
    clear hb hb2
    by_cases hlt : k < l.length
    · have hs := decN_take hlt
      have hc := (isDig_iff _).1 (hD.out l[k] (List.getElem_mem hlt))
      have HS := Lib.hid hs
      clear hs
      have g1 : (48 : Int) ≤ ((⟨l.toArray⟩ : ByteArray)[k]'hlt |>.toNat : Int) := by show (48 : Int) ≤ (l[k].toNat : Int); omega
      have g2 : ((⟨l.toArray⟩ : ByteArray)[k]'hlt |>.toNat : Int) ≤ 57 := by show (l[k].toNat : Int) ≤ 57; omega
      have HC := Lib.hid hc
      clear hc
      go_wp2
      go_round
      case rel =>
        refine ⟨k + 1, by omega, by go_num, int_eq ?_⟩
        have h1 := HC.out
        rw [HS.out]
        show (decN (l.take k) : Int) * 10 + ((l[k].toNat : Int) - 48) = _
        omega
      case measure => simp [intOf]; omega
    · obtain rfl : k = l.length := by omega
      go_wp2
      go_ret
      exact ⟨rfl, rfl⟩

set_option maxHeartbeats 400000 in
theorem thousandths_any (l : List UInt8) (w : World) (hl : l.length ≤ 3) (hd : ∀ c ∈ l, isDig c = true) :
    Calls Tryd.prog 24 #[.string ⟨l.toArray⟩] w fun e w' => e = .returned (.int .i64 (thouN l)) ∧ w = w' := by
  have hD := Lib.hid hd
  clear hd
  go_enter Tryd.func24, Tryd.ntmps24
  go_wp2_with (go_at_call 23; refine (decimal_any _ _ (by omega) hD.out).mono ?_; rintro e w' ⟨rfl, rfl⟩)
  go_loop [3, 9] (fun n i => ∃ k : Nat, k ≤ 3 - l.length ∧ i = .int .i64 k ∧ n = .int .i64 (thouTo l k)) (fun _ i => 3 - l.length - (intOf i).toNat)
  case atStart => exact ⟨0, Nat.zero_le _, rfl, by rw [thouTo_zero]⟩
  case round =>
    obtain ⟨k, hk, rfl, rfl⟩ := hrel
    have hb4 := thouTo_le (k := k) hD.out hl (by omega)
    have HS := Lib.hid (thouTo_succ l k)
    by_cases hlt : k < 3 - l.length
    · go_wp2
      go_round
      case rel => exact ⟨k + 1, by omega, by go_num, int_eq (by rw [HS.out]; omega)⟩
      case measure => simp [intOf]; omega
    · obtain rfl : k = 3 - l.length := by omega
      go_wp2
      go_ret
      exact ⟨rfl, rfl⟩

theorem ret_bool {a b : Bool} (h : a = b) : Ending.returned (.bool a) = .returned (.bool b) := by rw [h]
set_option maxHeartbeats 400000 in
theorem validFraction_any (l : List UInt8) (w : World) (hl : l.length ≤ 9223372036854775807) :
    Calls Tryd.prog 21 #[.string ⟨l.toArray⟩] w fun e w' => e = .returned (.bool (fracOk l)) ∧ w = w' := by
  go_enter Tryd.func21, Tryd.ntmps21
  go_wp2
  all_goals
    go_ret
    exact ⟨ret_bool (by unfold fracOk; rw [Bool.eq_iff_iff]; simp; try omega), rfl⟩

theorem u8_48 (c : UInt8) : (c.toNat : Int) = 48 ↔ c = 48 :=
  ⟨fun h => UInt8.toNat_inj.1 (by simpa using (by omega : c.toNat = 48)), fun h => by rw [h]; rfl⟩
theorem wholeOk_head {l : List UInt8} (hpos : 0 < l.length) (h2 : l.length ≤ 15) (h48 : ¬ l = [48]) : (((⟨l.toArray⟩ : ByteArray)[0]'hpos |>.toNat : Int) != 48) = wholeOk l := by
  cases l with
  | nil => simp at hpos
  | cons c t =>
    show ((c.toNat : Int) != 48) = wholeOk (c :: t)
    have e : (c :: t == [48]) = false := by simpa using h48
    rw [wholeOk, e, Bool.eq_iff_iff]
    simp only [List.length_cons] at h2
    simp [u8_48]
    omega
set_option maxHeartbeats 400000 in
theorem validWhole_any (l : List UInt8) (w : World) (hl : l.length ≤ 9223372036854775807) :
    Calls Tryd.prog 20 #[.string ⟨l.toArray⟩] w fun e w' => e = .returned (.bool (wholeOk l)) ∧ w = w' := by
  by_cases he : l = []
  · subst he
    go_enter Tryd.func20, Tryd.ntmps20
    go_wp2
    go_ret
    exact ⟨rfl, rfl⟩
  · have he2 : l.isEmpty = false := by simpa using he
    have hpos : 0 < l.length := List.length_pos_iff.2 he
    by_cases h2 : l.length ≤ 15
    · by_cases h48 : l = [48]
      · subst h48
        go_enter Tryd.func20, Tryd.ntmps20
        go_wp2
        go_ret
        exact ⟨rfl, rfl⟩
      · have h48' : (l == [48]) = false := by simpa using h48
        go_enter Tryd.func20, Tryd.ntmps20
        go_wp2
        go_ret
        exact ⟨ret_bool (wholeOk_head hpos h2 h48), rfl⟩
    · go_enter Tryd.func20, Tryd.ntmps20
      go_wp2
      go_ret
      exact ⟨ret_bool (by simp [wholeOk, h2]), rfl⟩

set_option maxHeartbeats 400000 in
theorem suffixFactor_any (l : List UInt8) (w : World) :
    Calls Tryd.prog 22 #[.string ⟨l.toArray⟩] w fun e w' => e = .returned (.tuple #[.int .i64 (facOf l), .bool (facOf l != 0)]) ∧ w = w' := by
  go_enter Tryd.func22, Tryd.ntmps22
  go_wp2
  all_goals
    go_ret2
    refine ⟨tup2 (int_eq ?_) (congrArg Value.bool ?_), rfl⟩ <;> simp_all [facOf]
end Go.Proofs.YtklpnkdfbfdbnaaDoor
