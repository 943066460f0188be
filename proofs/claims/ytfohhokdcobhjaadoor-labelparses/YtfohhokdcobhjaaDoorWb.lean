/- Contracts of validKey, validValue and the reference's. -/
import Derived.Test.YtfohhokdcobhjaaDoorWa
namespace Go.Proofs.YtfohhokdcobhjaaDoor
open Go.RowKit

set_option maxHeartbeats 1000000 in
theorem validKey_any (l : Str) (w : World) (hl : l.length ≤ 9223372036854775807) :
    Calls Tryd.prog 29 #[.string ⟨l.toArray⟩] w fun e w' => e = .returned (.bool (keyOk l)) ∧ w = w' := by
  by_cases h0 : l.length < 1
  · go_enter Tryd.func29, Tryd.ntmps29
    go_wp2
    go_ret
    exact ⟨ret_bool (keyOk_len (Or.inl h0)).symm, rfl⟩
  · by_cases h1 : 40 < l.length
    · go_enter Tryd.func29, Tryd.ntmps29
      go_wp2
      go_ret
      exact ⟨ret_bool (keyOk_len (Or.inr h1)).symm, rfl⟩
    · have hp : 0 < l.length := by omega
      cases hc : isLet l[0]
      · have hc' : isLet ((⟨l.toArray⟩ : ByteArray)[0]'hp) = false := hc
        have H := Lib.hid hc
        clear hc
        go_enter Tryd.func29, Tryd.ntmps29
        go_wp2_with (go_at_call 52; refine (isLetter_any _ _).mono ?_; rintro e w' ⟨rfl, rfl⟩)
        go_ret
        exact ⟨ret_bool (keyOk_head hp H.out).symm, rfl⟩
      · have hc' : isLet ((⟨l.toArray⟩ : ByteArray)[0]'hp) = true := hc
        have H := Lib.hid hc
        clear hc
        go_enter Tryd.func29, Tryd.ntmps29
        go_wp2_with (first | (go_at_call 52; refine (isLetter_any _ _).mono ?_; rintro e w' ⟨rfl, rfl⟩) | (go_at_call 53; refine (wordLength_any _ _ hl).mono ?_; rintro e w' ⟨rfl, rfl⟩))
        go_ret
        exact ⟨ret_bool (by rw [keyOk_eq (by omega) (by omega) hp H.out, ← wlen_all, Bool.eq_iff_iff]; simp; omega), rfl⟩

set_option maxHeartbeats 1000000 in
theorem validValue_any (l : Str) (w : World) (hl : l.length ≤ 9223372036854775807) :
    Calls Tryd.prog 30 #[.string ⟨l.toArray⟩] w fun e w' => e = .returned (.bool (valOk l)) ∧ w = w' := by
  by_cases h1 : 40 < l.length
  · go_enter Tryd.func30, Tryd.ntmps30
    go_wp2
    go_ret
    exact ⟨ret_bool (valOk_len h1).symm, rfl⟩
  · go_enter Tryd.func30, Tryd.ntmps30
    go_wp2
    go_loop [9] (fun i => ∃ k : Nat, k ≤ l.length ∧ i = .int .i64 k ∧ AllTo isVb l k) (fun i => l.length - (intOf i).toNat)
    case atStart => exact ⟨0, Nat.zero_le _, rfl, AllTo_zero _ l⟩
    case round =>
      obtain ⟨k, hk, rfl, hd⟩ := hrel
      have hk2 : (k : Int) ≤ l.length := by omega
      by_cases hlt : k < l.length
      · cases hdig : isWb l[k]
        · have hd' : isWb ((⟨l.toArray⟩ : ByteArray)[k]'hlt) = false := hdig
          have H := Lib.hid (And.intro hdig hd)
          clear hdig hd
          go_wp2_with (go_at_call 54; refine (isWordByte_any _ _).mono ?_; rintro e w' ⟨rfl, rfl⟩)
          go_ret
          exact ⟨ret_bool (by rw [valOk_eq (by omega), all_not hlt (by unfold isVb; rw [H.out.1]; rfl)]), rfl⟩
        · have hd' : isWb ((⟨l.toArray⟩ : ByteArray)[k]'hlt) = true := hdig
          have H := Lib.hid (And.intro hdig hd)
          clear hdig hd
          by_cases hs : (((⟨l.toArray⟩ : ByteArray)[k]'hlt).toNat : Int) = 47
          · have hq : ((((⟨l.toArray⟩ : ByteArray)[k]'hlt).toNat : Int) == 47) = true := by rw [hs]; rfl
            have HS := Lib.hid hs
            clear hs
            go_wp2_with (go_at_call 54; refine (isWordByte_any _ _).mono ?_; rintro e w' ⟨rfl, rfl⟩)
            go_ret
            have hs' : l[k].toNat = 47 := Int.ofNat_inj.1 HS.out
            exact ⟨ret_bool (by rw [valOk_eq (by omega), all_not hlt (isVb_slash hs')]), rfl⟩
          · have hs' : ¬ l[k].toNat = 47 := fun h => hs (by show ((l[k].toNat : Nat) : Int) = 47; omega)
            have HS := Lib.hid hs'
            clear hs'
            go_wp2_with (go_at_call 54; refine (isWordByte_any _ _).mono ?_; rintro e w' ⟨rfl, rfl⟩)
            go_round
            case rel => exact ⟨k + 1, by omega, by go_num, AllTo_succ H.out.2 hlt (by unfold isVb; rw [H.out.1]; simp [HS.out])⟩
            case measure => simp [intOf]; omega
      · obtain rfl : k = l.length := by omega
        go_wp2
        go_ret
        exact ⟨ret_bool (by rw [valOk_eq (by omega), all_of hd]), rfl⟩

set_option maxHeartbeats 1000000 in
theorem rvalidKey_any (l : Str) (w : World) (hl : l.length ≤ 9223372036854775807) :
    Calls Tryd.prog 31 #[.string ⟨l.toArray⟩] w fun e w' => e = .returned (.bool (keyOk l)) ∧ w = w' := by
  by_cases h0 : l.length < 1
  · go_enter Tryd.func31, Tryd.ntmps31
    go_wp2
    go_ret
    exact ⟨ret_bool (keyOk_len (Or.inl h0)).symm, rfl⟩
  · by_cases h1 : 40 < l.length
    · go_enter Tryd.func31, Tryd.ntmps31
      go_wp2
      go_ret
      exact ⟨ret_bool (keyOk_len (Or.inr h1)).symm, rfl⟩
    · have hp : 0 < l.length := by omega
      by_cases g1 : (((⟨l.toArray⟩ : ByteArray)[0]'hp).toNat : Int) < 97
      · go_enter Tryd.func31, Tryd.ntmps31
        go_wp2
        go_ret
        have : ((l[0].toNat : Nat) : Int) < 97 := g1
        exact ⟨ret_bool (keyOk_head hp ((isLet_not _).2 (by omega))).symm, rfl⟩
      · by_cases g2 : 122 < (((⟨l.toArray⟩ : ByteArray)[0]'hp).toNat : Int)
        · go_enter Tryd.func31, Tryd.ntmps31
          go_wp2
          go_ret
          have : 122 < ((l[0].toNat : Nat) : Int) := g2
          exact ⟨ret_bool (keyOk_head hp ((isLet_not _).2 (by omega))).symm, rfl⟩
        · have H : Hid (keyOk l = l.all isWb) := Lib.hid (keyOk_eq (by omega) (by omega) hp ((isLet_iff _).2 (by
            have a : ¬ ((l[0].toNat : Nat) : Int) < 97 := g1
            have b : ¬ 122 < ((l[0].toNat : Nat) : Int) := g2
            omega)))
          go_enter Tryd.func31, Tryd.ntmps31
          go_wp2
          go_loop [3] (fun i => ∃ k : Nat, k ≤ l.length ∧ i = .int .i64 k ∧ AllTo isWb l k) (fun i => l.length - (intOf i).toNat)
          case atStart => exact ⟨0, Nat.zero_le _, rfl, AllTo_zero _ l⟩
          case round =>
            obtain ⟨k, hk, rfl, hd⟩ := hrel
            have hk2 : (k : Int) ≤ l.length := by omega
            by_cases hlt : k < l.length
            · cases hdig : isWb l[k]
              · have hd' : isWb ((⟨l.toArray⟩ : ByteArray)[k]'hlt) = false := hdig
                have H2 := Lib.hid (And.intro hdig hd)
                clear hdig hd
                go_wp2_with (go_at_call 55; refine (char_any _ _).mono ?_; rintro e w' ⟨rfl, rfl⟩)
                go_ret
                exact ⟨ret_bool (by rw [H.out, all_not hlt H2.out.1]), rfl⟩
              · have hd' : isWb ((⟨l.toArray⟩ : ByteArray)[k]'hlt) = true := hdig
                have H2 := Lib.hid (And.intro hdig hd)
                clear hdig hd
                go_wp2_with (go_at_call 55; refine (char_any _ _).mono ?_; rintro e w' ⟨rfl, rfl⟩)
                go_round
                case rel => exact ⟨k + 1, by omega, by go_num, AllTo_succ H2.out.2 hlt H2.out.1⟩
                case measure => simp [intOf]; omega
            · obtain rfl : k = l.length := by omega
              go_wp2
              go_ret
              exact ⟨ret_bool (by rw [H.out, all_of hd]), rfl⟩

set_option maxHeartbeats 1000000 in
theorem rvalidValue_any (l : Str) (w : World) (hl : l.length ≤ 9223372036854775807) :
    Calls Tryd.prog 32 #[.string ⟨l.toArray⟩] w fun e w' => e = .returned (.bool (valOk l)) ∧ w = w' := by
  by_cases h1 : 40 < l.length
  · go_enter Tryd.func32, Tryd.ntmps32
    go_wp2
    go_ret
    exact ⟨ret_bool (valOk_len h1).symm, rfl⟩
  · go_enter Tryd.func32, Tryd.ntmps32
    go_wp2
    go_loop [3] (fun i => ∃ k : Nat, k ≤ l.length ∧ i = .int .i64 k ∧ AllTo isVb l k) (fun i => l.length - (intOf i).toNat)
    case atStart => exact ⟨0, Nat.zero_le _, rfl, AllTo_zero _ l⟩
    case round =>
      obtain ⟨k, hk, rfl, hd⟩ := hrel
      have hk2 : (k : Int) ≤ l.length := by omega
      by_cases hlt : k < l.length
      · cases hdig : isWb l[k]
        · have hd' : isWb ((⟨l.toArray⟩ : ByteArray)[k]'hlt) = false := hdig
          have H := Lib.hid (And.intro hdig hd)
          clear hdig hd
          go_wp2_with (go_at_call 55; refine (char_any _ _).mono ?_; rintro e w' ⟨rfl, rfl⟩)
          go_ret
          exact ⟨ret_bool (by rw [valOk_eq (by omega), all_not hlt (by unfold isVb; rw [H.out.1]; rfl)]), rfl⟩
        · have hd' : isWb ((⟨l.toArray⟩ : ByteArray)[k]'hlt) = true := hdig
          have H := Lib.hid (And.intro hdig hd)
          clear hdig hd
          by_cases hs : (((⟨l.toArray⟩ : ByteArray)[k]'hlt).toNat : Int) = 47
          · have hq : ((((⟨l.toArray⟩ : ByteArray)[k]'hlt).toNat : Int) == 47) = true := by rw [hs]; rfl
            have HS := Lib.hid hs
            clear hs
            go_wp2_with (go_at_call 55; refine (char_any _ _).mono ?_; rintro e w' ⟨rfl, rfl⟩)
            go_ret
            have hs' : l[k].toNat = 47 := Int.ofNat_inj.1 HS.out
            exact ⟨ret_bool (by rw [valOk_eq (by omega), all_not hlt (isVb_slash hs')]), rfl⟩
          · have hs' : ¬ l[k].toNat = 47 := fun h => hs (by show ((l[k].toNat : Nat) : Int) = 47; omega)
            have HS := Lib.hid hs'
            clear hs'
            go_wp2_with (go_at_call 55; refine (char_any _ _).mono ?_; rintro e w' ⟨rfl, rfl⟩)
            go_round
            case rel => exact ⟨k + 1, by omega, by go_num, AllTo_succ H.out.2 hlt (by unfold isVb; rw [H.out.1]; simp [HS.out])⟩
            case measure => simp [intOf]; omega
      · obtain rfl : k = l.length := by omega
        go_wp2
        go_ret
        exact ⟨ret_bool (by rw [valOk_eq (by omega), all_of hd]), rfl⟩
end Go.Proofs.YtfohhokdcobhjaaDoor
