/- The contract of ValidField. -/
import Derived.Test.YtmmembmohkideaaWc
namespace Go.Proofs.Ytmmembmohkideaa
open Go.RowKit Go.Sort Go.Proofs.LawFrame

set_option maxHeartbeats 2000000 in
theorem rvalidField_any (l : Str) (w : World) (hl : l.length ≤ 1000) : Calls Try.prog 61 #[sV l] w fun e w' => e = .returned (.bool (nameOk l)) ∧ w = w' := by
    go_enter Try.func61, Try.ntmps61
    go_wp2
    go_loop [3] (fun i => ∃ k : Nat, k ≤ l.length ∧ i = .int .i64 k ∧ Hid (AllTo nmByte l k)) (fun i => l.length - (intOf i).toNat)
    case atStart => exact ⟨0, Nat.zero_le _, rfl, Lib.hid (AllTo_zero _ l)⟩
    case round =>
      obtain ⟨k, hk, rfl, hd⟩ := hrel
      by_cases hlt : k < l.length
      · have hm : ((⟨l.toArray⟩ : ByteArray)[k]'hlt).toNat = l[k].toNat := rfl
        have HM : Hid (l[k].toNat = l[k].toNat) := Lib.hid rfl
        have hm256 : l[k].toNat < 256 := l[k].toNat_lt
        generalize hmm : l[k].toNat = m at hm hm256
        have HMM := Lib.hid hmm
        clear hmm HM
        have hcl : (m < 45 ∨ m = 46 ∨ (58 ≤ m ∧ m ≤ 64) ∨ (91 ≤ m ∧ m ≤ 94) ∨ m = 96 ∨ 123 ≤ m) ∨ m = 45 ∨ m = 47 ∨ (48 ≤ m ∧ m ≤ 57) ∨ (65 ≤ m ∧ m ≤ 90) ∨ m = 95 ∨ (97 ≤ m ∧ m ≤ 122) := by omega
        rcases hcl with (hc | hc | ⟨hc, hc'⟩ | ⟨hc, hc'⟩ | hc | hc) | hc | hc | ⟨hc, hc'⟩ | ⟨hc, hc'⟩ | hc | ⟨hc, hc'⟩
        all_goals
         (go_wp2
          all_goals first
          | (exfalso; omega)
          | (exfalso; simp only [bne_iff_ne, bne_eq_false_iff_eq, ne_eq, Bool.not_eq_true, Bool.or_eq_true, Bool.and_eq_true, decide_eq_true_eq, Bool.not_eq_true', Bool.not_eq_false', decide_eq_false_iff_not] at *; omega)
          | (go_ret; exact ⟨ret_bool (by rw [nameOk_bad (all_not hlt (by unfold nmByte; rw [HMM.out, Bool.eq_false_iff]; simp; omega))]), rfl⟩)
          | (go_round
             case rel => exact ⟨k + 1, by omega, by go_num, Lib.hid (AllTo_succ hd.out hlt (by unfold nmByte; rw [HMM.out]; simp; omega))⟩
             case measure => simp [intOf]; omega))
      · obtain rfl : k = l.length := by omega
        go_wp2
        all_goals first
          | (exfalso; omega)
          | (go_ret
             exact ⟨ret_bool (by unfold nameOk; rw [all_of hd.out, Bool.and_true, Bool.eq_iff_iff]; (try simp); (try omega)), rfl⟩)
end Go.Proofs.Ytmmembmohkideaa
