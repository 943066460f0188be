/- Contracts of the functions on strings and names. -/
import Derived.Test.YtmmembmohkideaaWb
import Derived.Test.YtmmembmohkideaaMb
namespace Go.Proofs.Ytmmembmohkideaa
open Go.RowKit Go.Sort Go.Proofs.LawFrame

theorem bytesLess_cmp : ∀ a b : Str, Op.bytesLess a b = decide (cmpS a b = -1) := by
  intro a
  induction a with
  | nil => intro b; cases b <;> simp [Op.bytesLess, Lib.compareBytes]
  | cons x a ih => intro b; cases b with
    | nil => simp [Op.bytesLess, Lib.compareBytes]
    | cons y b =>
      have := ih b
      simp only [cmpS] at this
      simp only [Op.bytesLess, cmpS, Lib.compareBytes, this]
      by_cases h : x < y
      · simp [h]
      · by_cases h' : y < x
        · have hne : ¬ x = y := by rintro rfl; exact h h'
          simp [h, h', hne]
        · have he : x = y := UInt8.le_antisymm (UInt8.not_lt.1 h') (UInt8.not_lt.1 h)
          subst he
          simp
theorem less_iff {a b : Str} : Op.bytesLess a b = true ↔ cmpS a b = -1 := by rw [bytesLess_cmp]; simp
theorem less_not {a b : Str} : Op.bytesLess a b = false ↔ ¬ cmpS a b = -1 := by rw [bytesLess_cmp]; simp

set_option maxHeartbeats 2000000 in
theorem uses_any (k n : Int) (s : Str) (la fa : Option Addr) (ln lc fn fc : Nat) (w : World) :
    Calls Try.prog 58 #[(⟨k, n, s, la, ln, lc, fa, fn, fc⟩ : VC).val] w fun e w' => ∃ r : Bool, e = .returned (.bool r) ∧ Below w.heap.size w w' ∧ (r = true ↔ Uses k n s ln fn) := by
  unfold Uses
  go_enter Try.func58, Try.ntmps58
  go_wp2
  all_goals
    go_ret
    refine ⟨_, rfl, (Below.refl _ _).alloc (Nat.le_refl _) _, ?_⟩
    first | (simp [*]; done) | (simp [*]; omega) | (simp_all; done) | (simp_all; omega)

set_option maxHeartbeats 1000000 in
theorem validString_any (l : Str) (w : World) : Calls Try.prog 65 #[sV l] w fun e w' => e = .returned (.bool (strOk l)) ∧ w = w' := by
  by_cases h1 : 200 < l.length
  · go_enter Try.func65, Try.ntmps65
    go_wp2
    go_ret
    exact ⟨ret_bool (strOk_len h1).symm, rfl⟩
  · have HE := Lib.hid (strOk_eq h1)
    go_enter Try.func65, Try.ntmps65
    go_wp2
    go_loop [9] (fun i => ∃ k : Nat, k ≤ l.length ∧ i = .int .i64 k ∧ Hid (AllTo byteOk l k)) (fun i => l.length - (intOf i).toNat)
    case atStart => exact ⟨0, Nat.zero_le _, rfl, Lib.hid (AllTo_zero _ l)⟩
    case round =>
      obtain ⟨k, hk, rfl, hd⟩ := hrel
      by_cases hlt : k < l.length
      · have hm : ((⟨l.toArray⟩ : ByteArray)[k]'hlt).toNat = l[k].toNat := rfl
        have HM : Hid (l[k].toNat = l[k].toNat) := Lib.hid rfl
        have hm256 : l[k].toNat < 256 := l[k].toNat_lt
        generalize hmm : l[k].toNat = m at hm hm256
        have HMM := Lib.hid hmm
        clear hmm HM
        go_wp2
        all_goals first
          | (exfalso; omega)
          | (go_ret; exact ⟨ret_bool (by rw [strOk_bad (all_not hlt (by unfold byteOk; rw [HMM.out, Bool.eq_false_iff]; simp; (try simp only [bne_iff_ne, bne_eq_false_iff_eq, ne_eq, Bool.not_eq_true, Bool.or_eq_true, Bool.and_eq_true, decide_eq_true_eq, Bool.not_eq_true', Bool.not_eq_false', decide_eq_false_iff_not] at *); omega))]), rfl⟩)
          | (go_round
             case rel => exact ⟨k + 1, by omega, by go_num, Lib.hid (AllTo_succ hd.out hlt (by unfold byteOk; rw [HMM.out]; simp; (try simp only [bne_iff_ne, bne_eq_false_iff_eq, ne_eq, Bool.not_eq_true, Bool.or_eq_true, Bool.and_eq_true, decide_eq_true_eq, Bool.not_eq_true', Bool.not_eq_false', decide_eq_false_iff_not] at *); omega))⟩
             case measure => simp [intOf]; omega)
      · obtain rfl : k = l.length := by omega
        go_wp2
        all_goals first
          | (exfalso; omega)
          | (go_ret
             exact ⟨ret_bool (by rw [HE.out, all_of hd.out]), rfl⟩)

set_option maxHeartbeats 1000000 in
theorem rvalidString_any (l : Str) (w : World) (hl : l.length ≤ 1000) : Calls Try.prog 67 #[sV l] w fun e w' => e = .returned (.bool (strOk l)) ∧ w = w' := by
    go_enter Try.func67, Try.ntmps67
    go_wp2
    go_loop [3] (fun i => ∃ k : Nat, k ≤ l.length ∧ i = .int .i64 k ∧ Hid (AllTo byteOk l k)) (fun i => l.length - (intOf i).toNat)
    case atStart => exact ⟨0, Nat.zero_le _, rfl, Lib.hid (AllTo_zero _ l)⟩
    case round =>
      obtain ⟨k, hk, rfl, hd⟩ := hrel
      by_cases hlt : k < l.length
      · have hm : ((⟨l.toArray⟩ : ByteArray)[k]'hlt).toNat = l[k].toNat := rfl
        have HM : Hid (l[k].toNat = l[k].toNat) := Lib.hid rfl
        have hm256 : l[k].toNat < 256 := l[k].toNat_lt
        generalize hmm : l[k].toNat = m at hm hm256
        have HMM := Lib.hid hmm
        clear hmm HM
        go_wp2
        all_goals first
          | (exfalso; omega)
          | (go_ret; exact ⟨ret_bool (by rw [strOk_bad (all_not hlt (by unfold byteOk; rw [HMM.out, Bool.eq_false_iff]; simp; (try simp only [bne_iff_ne, bne_eq_false_iff_eq, ne_eq, Bool.not_eq_true, Bool.or_eq_true, Bool.and_eq_true, decide_eq_true_eq, Bool.not_eq_true', Bool.not_eq_false', decide_eq_false_iff_not] at *); omega))]), rfl⟩)
          | (go_round
             case rel => exact ⟨k + 1, by omega, by go_num, Lib.hid (AllTo_succ hd.out hlt (by unfold byteOk; rw [HMM.out]; simp; (try simp only [bne_iff_ne, bne_eq_false_iff_eq, ne_eq, Bool.not_eq_true, Bool.or_eq_true, Bool.and_eq_true, decide_eq_true_eq, Bool.not_eq_true', Bool.not_eq_false', decide_eq_false_iff_not] at *); omega))⟩
             case measure => simp [intOf]; omega)
      · obtain rfl : k = l.length := by omega
        go_wp2
        all_goals first
          | (exfalso; omega)
          | (go_ret
             exact ⟨ret_bool (by unfold strOk; rw [all_of hd.out, Bool.and_true, Bool.eq_iff_iff]; simp; omega), rfl⟩)

set_option maxHeartbeats 1000000 in
theorem isNameByte_any (c : UInt8) (w : World) : Calls Try.prog 73 #[.int .u8 c.toNat] w fun e w' => e = .returned (.bool (nmByte c)) ∧ w = w' := by
  have hm256 : c.toNat < 256 := c.toNat_lt
  go_enter Try.func73, Try.ntmps73
  go_wp2
  all_goals
    go_ret
    exact ⟨ret_bool (by unfold nmByte; rw [Bool.eq_iff_iff]; simp; omega), rfl⟩

set_option maxHeartbeats 1000000 in
theorem validName_any (l : Str) (w : World) : Calls Try.prog 71 #[sV l] w fun e w' => e = .returned (.bool (nameOk l)) ∧ w = w' := by
  by_cases h0 : l.length < 1
  · go_enter Try.func71, Try.ntmps71
    go_wp2
    go_ret
    exact ⟨ret_bool (nameOk_len (Or.inl h0)).symm, rfl⟩
  by_cases h1 : 40 < l.length
  · go_enter Try.func71, Try.ntmps71
    go_wp2
    go_ret
    exact ⟨ret_bool (nameOk_len (Or.inr h1)).symm, rfl⟩
  · have HE := Lib.hid (nameOk_eq h0 h1)
    go_enter Try.func71, Try.ntmps71
    go_wp2
    go_loop [14] (fun i => ∃ k : Nat, k ≤ l.length ∧ i = .int .i64 k ∧ Hid (AllTo nmByte l k)) (fun i => l.length - (intOf i).toNat)
    case atStart => exact ⟨0, Nat.zero_le _, rfl, Lib.hid (AllTo_zero _ l)⟩
    case round =>
      obtain ⟨k, hk, rfl, hd⟩ := hrel
      by_cases hlt : k < l.length
      · cases hdig : nmByte l[k]
        · have hd' : nmByte ((⟨l.toArray⟩ : ByteArray)[k]'hlt) = false := hdig
          have H := Lib.hid hdig
          clear hdig
          go_wp2_with (go_at_call 73; refine (isNameByte_any _ _).mono ?_; rintro e w' ⟨rfl, rfl⟩)
          go_ret
          exact ⟨ret_bool (by rw [nameOk_bad (all_not hlt H.out)]), rfl⟩
        · have hd' : nmByte ((⟨l.toArray⟩ : ByteArray)[k]'hlt) = true := hdig
          have H := Lib.hid hdig
          clear hdig
          go_wp2_with (go_at_call 73; refine (isNameByte_any _ _).mono ?_; rintro e w' ⟨rfl, rfl⟩)
          go_round
          case rel => exact ⟨k + 1, by omega, by go_num, Lib.hid (AllTo_succ hd.out hlt H.out)⟩
          case measure => simp [intOf]; omega
      · obtain rfl : k = l.length := by omega
        go_wp2
        go_ret
        exact ⟨ret_bool (by rw [HE.out, all_of hd.out]), rfl⟩

end Go.Proofs.Ytmmembmohkideaa
