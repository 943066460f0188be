/- The contract of validValues. -/
import Derived.Test.YtfohhokdcobhjaaDoorWb
import Derived.Test.YtfohhokdcobhjaaDoorPm
import Derived.Test.YtfohhokdcobhjaaDoorMb
namespace Go.Proofs.YtfohhokdcobhjaaDoor
open Go.RowKit Go.Sort Go.Proofs.LawFrame

/-- byte order -/
abbrev sLt (x y : Str) : Bool := Op.bytesLess x y
def valsOk (l : List Str) : Bool := decide (1 ≤ l.length) && decide (l.length ≤ 64) && chain valOk sLt l
theorem valsOk_len {l : List Str} (h : l.length < 1 ∨ 64 < l.length) : valsOk l = false := by
  unfold valsOk; rcases h with h | h
  · rw [decide_eq_false (by omega)]; rfl
  · rw [decide_eq_false (p := l.length ≤ 64) (by omega)]; simp
theorem valsOk_eq {l : List Str} (h : ¬ l.length < 1) (h' : ¬ 64 < l.length) : valsOk l = chain valOk sLt l := by
  unfold valsOk; rw [decide_eq_true (by omega), decide_eq_true (by omega)]; rfl
/-- every string is short -/
def Bd (l : List Str) : Prop := ∀ x ∈ l, x.length ≤ 1000000

set_option maxHeartbeats 1000000 in
theorem validValues_any (v : Value) (l : List Str) (w : World) (hv : Strs w v l) (hbd : Bd l) :
    Calls Tryd.prog 56 #[v] w fun e w' => e = .returned (.bool (valsOk l)) ∧ w = w' := by
  obtain ⟨ao, cap, rfl, hlc, hcap, -⟩ := hv.out
  unfold maxLen at hcap
  by_cases h0 : l.length < 1
  · go_enter Tryd.func56, Tryd.ntmps56
    go_wp2
    go_ret
    exact ⟨ret_bool (valsOk_len (Or.inl h0)).symm, rfl⟩
  by_cases h1 : 64 < l.length
  · go_enter Tryd.func56, Tryd.ntmps56
    go_wp2
    go_ret
    exact ⟨ret_bool (valsOk_len (Or.inr h1)).symm, rfl⟩
  have HE := Lib.hid (valsOk_eq h0 h1)
  go_enter Tryd.func56, Tryd.ntmps56
  go_wp2
  go_loop [15] (fun i => ∃ k : Nat, k ≤ l.length ∧ i = .int .i64 k ∧ Hid (ChTo valOk sLt l k)) (fun i => l.length - (intOf i).toNat)
  case atStart => exact ⟨0, Nat.zero_le _, rfl, Lib.hid (ChTo.zero _)⟩
  case round =>
    obtain ⟨k, hk, rfl, HC⟩ := hrel
    by_cases hlt : k < l.length
    · have hx := get_some hlt
      generalize l[k] = x at hx
      have hxl : x.length ≤ 1000000 := hbd x (List.mem_of_getElem? hx)
      obtain ⟨b, off, rfl, hc⟩ := hv.at (Below.refl _ _) hx
      cases hok : valOk x
      · go_wp2_with (go_at_call 30; refine (validValue_any _ _ (by omega)).mono ?_; rintro e w' ⟨rfl, rfl⟩)
        go_ret
        exact ⟨ret_bool (by rw [HE.out, chain_bad hx hok]), rfl⟩
      · by_cases hp : 0 < k
        · have hy := get_some (show k - 1 < l.length by omega)
          generalize l[k - 1] = y at hy
          obtain ⟨b', off', he, hc'⟩ := hv.at (Below.refl _ _) hy
          cases he
          cases hyx : Op.bytesLess y x
          · go_wp2_with (go_at_call 30; refine (validValue_any _ _ (by omega)).mono ?_; rintro e w' ⟨rfl, rfl⟩)
            go_ret
            exact ⟨ret_bool (by rw [HE.out, chain_bad_lt hx hp hy hyx]), rfl⟩
          · go_wp2_with (go_at_call 30; refine (validValue_any _ _ (by omega)).mono ?_; rintro e w' ⟨rfl, rfl⟩)
            go_round
            case rel => exact ⟨k + 1, by omega, by go_num, Lib.hid (HC.out.succ hx hok (ChTo.at_pos hy hyx))⟩
            case measure => simp [intOf]; omega
        · have hp2 : ¬ (0 : Int) < (k : Int) := by omega
          go_wp2_with (go_at_call 30; refine (validValue_any _ _ (by omega)).mono ?_; rintro e w' ⟨rfl, rfl⟩)
          go_round
          case rel => exact ⟨k + 1, by omega, by go_num, Lib.hid (HC.out.succ hx hok (ChTo.at_zero hp))⟩
          case measure => simp [intOf]; omega
    · obtain rfl : k = l.length := by omega
      go_wp2
      go_ret
      exact ⟨ret_bool (by rw [HE.out, chain_of HC.out]), rfl⟩
end Go.Proofs.YtfohhokdcobhjaaDoor
