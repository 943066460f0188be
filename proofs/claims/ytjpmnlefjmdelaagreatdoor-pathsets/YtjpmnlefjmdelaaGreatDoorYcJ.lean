/- The reference: bytes of names. The reference: valid names, strings and steps. The reference: valid steps and paths. -/
import Derived.Test.YtjpmnlefjmdelaaGreatDoorXcJ
set_option linter.unusedSimpArgs false
set_option linter.unusedVariables false
namespace Go.Proofs.YtjpmnlefjmdelaaGreatDoor
open Go.RowKit Go.Sort Go.Proofs.LawFrame

set_option maxHeartbeats 4000000 in
theorem nameChar_any (c : UInt8) (w : World) : Calls Tryz.prog 146 #[.int .u8 c.toNat] w fun e w' => e = .returned (.bool (nmByte c)) ∧ w = w' := by
  have hlt := c.toNat_lt
  have hnm := (nmI_byte c).symm
  generalize nmByte c = B at *
  generalize c.toNat = n at *
  subst hnm
  have hcl : (n < 45 ∨ n = 46 ∨ (58 ≤ n ∧ n ≤ 64) ∨ (91 ≤ n ∧ n ≤ 94) ∨ n = 96 ∨ 123 ≤ n) ∨ n = 45 ∨ n = 47 ∨ (48 ≤ n ∧ n ≤ 57) ∨ (65 ≤ n ∧ n ≤ 90) ∨ n = 95 ∨ (97 ≤ n ∧ n ≤ 122) := by omega
  go_enter Tryz.func146, Tryz.ntmps146
  go_wp2
  all_goals
    go_ret
    exact ⟨ret_bool (by unfold nmI; rw [Bool.eq_iff_iff]; simp at *; try omega), rfl⟩
end Go.Proofs.YtjpmnlefjmdelaaGreatDoor
namespace Go.Proofs.YtjpmnlefjmdelaaGreatDoor
open Go.RowKit Go.Sort Go.Proofs.LawFrame

set_option maxHeartbeats 4000000 in
theorem rvName_any (l : Str) (w : World) (hl : l.length ≤ 1000000) : Calls Tryz.prog 107 #[sV l] w fun e w' => e = .returned (.bool (nameOk l)) ∧ w = w' := by
  go_enter Tryz.func107, Tryz.ntmps107
  go_wp2
  go_loop [3] (fun i => ∃ k : Nat, k ≤ l.length ∧ i = .int .i64 k ∧ Hid (AllTo nmByte l k)) (fun i => l.length - (intOf i).toNat)
  case atStart => exact ⟨0, Nat.zero_le _, rfl, Lib.hid (AllTo_zero _ l)⟩
  case round =>
    obtain ⟨k, hk, rfl, hd⟩ := hrel
    by_cases hlt : k < l.length
    · have hm : ((⟨l.toArray⟩ : ByteArray)[k]'hlt).toNat = l[k].toNat := rfl
      have CN := nameChar_any l[k] w
      cases hdig : nmByte l[k]
      · rw [hdig] at CN
        have H := Lib.hid hdig
        have CN := Lib.hid CN
        clear hdig
        go_wp2_with fail
        refine CN.out.mono ?_
        rintro e w' ⟨rfl, rfl⟩
        go_wp2
        go_ret
        exact ⟨ret_bool (by rw [nameOk_bad (all_not hlt H.out)]), rfl⟩
      · rw [hdig] at CN
        have H := Lib.hid hdig
        have CN := Lib.hid CN
        clear hdig
        go_wp2_with fail
        refine CN.out.mono ?_
        rintro e w' ⟨rfl, rfl⟩
        go_wp2
        go_round
        case rel => exact ⟨k + 1, by omega, by go_num, Lib.hid (AllTo_succ hd.out hlt H.out)⟩
        case measure => simp [intOf]; omega
    · obtain rfl : k = l.length := by omega
      go_wp2
      all_goals first
        | (exfalso; omega)
        | (go_ret
           exact ⟨ret_bool (by unfold nameOk; rw [all_of hd.out, Bool.and_true, Bool.eq_iff_iff]; (try simp); (try omega)), rfl⟩)

set_option maxHeartbeats 4000000 in
theorem rvString_any (l : Str) (w : World) (hl : l.length ≤ 1000000) : Calls Tryz.prog 108 #[sV l] w fun e w' => e = .returned (.bool (strOk l)) ∧ w = w' := by
    go_enter Tryz.func108, Tryz.ntmps108
    go_wp2
    go_loop [3] (fun i => ∃ k : Nat, k ≤ l.length ∧ i = .int .i64 k ∧ Hid (AllTo byteOk l k)) (fun i => l.length - (intOf i).toNat)
    case atStart => exact ⟨0, Nat.zero_le _, rfl, Lib.hid (AllTo_zero _ l)⟩
    case round =>
      obtain ⟨k, hk, rfl, hd⟩ := hrel
      by_cases hlt : k < l.length
      · have hm : ((⟨l.toArray⟩ : ByteArray)[k]'hlt).toNat = l[k].toNat := rfl
        have HM : Hid (l[k].toNat = l[k].toNat) := Lib.hid rfl
        have hm256 : l[k].toNat < 256 := l[k].toNat_lt
        generalize hmm : l[k].toNat = m at hm hm256
        have HMM := Lib.hid hmm
        clear hmm HM
        go_wp2
        all_goals first
          | (exfalso; omega)
          | (go_ret; exact ⟨ret_bool (by rw [strOk_bad (all_not hlt (by unfold byteOk; rw [HMM.out, Bool.eq_false_iff]; simp; (try simp only [bne_iff_ne, bne_eq_false_iff_eq, ne_eq, Bool.not_eq_true, Bool.or_eq_true, Bool.and_eq_true, decide_eq_true_eq, Bool.not_eq_true', Bool.not_eq_false', decide_eq_false_iff_not] at *); omega))]), rfl⟩)
          | (go_round
             case rel => exact ⟨k + 1, by omega, by go_num, Lib.hid (AllTo_succ hd.out hlt (by unfold byteOk; rw [HMM.out]; simp; (try simp only [bne_iff_ne, bne_eq_false_iff_eq, ne_eq, Bool.not_eq_true, Bool.or_eq_true, Bool.and_eq_true, decide_eq_true_eq, Bool.not_eq_true', Bool.not_eq_false', decide_eq_false_iff_not] at *); omega))⟩
             case measure => simp [intOf]; omega)
      · obtain rfl : k = l.length := by omega
        go_wp2
        all_goals first
          | (exfalso; omega)
          | (go_ret
             exact ⟨ret_bool (by unfold strOk; rw [all_of hd.out, Bool.and_true, Bool.eq_iff_iff]; simp; omega), rfl⟩)
end Go.Proofs.YtjpmnlefjmdelaaGreatDoor
namespace Go.Proofs.YtjpmnlefjmdelaaGreatDoor
open Go.RowKit Go.Sort Go.Proofs.LawFrame

set_option maxHeartbeats 4000000 in
set_option maxRecDepth 4000 in
theorem rvStep_any (s : S) (w : World) (hn : s.nm.length ≤ 1000000) (hv : s.vl.length ≤ 1000000) : Calls Tryz.prog 63 #[s.val] w fun e w' => e = .returned (.bool (stepOk s)) ∧ Below w.heap.size w w' := by
  obtain ⟨k, nm, ix, vl⟩ := s
  simp only at hn hv
  show Calls Tryz.prog 63 #[.agg #[.int .i64 k, sV nm, .int .i64 ix, sV vl]] w _
  have hw0 := below_alloc w (.cells #[.int .i64 k, sV nm, .int .i64 ix, sV vl] 52)
  have o0 := Own.new w [.int .i64 k, sV nm, .int .i64 ix, sV vl] 52
  go_enter Tryz.func63, Tryz.ntmps63
  go_upto_region 1 with (fail)
  change Code.wp Tryz.prog _ _ _ (w.alloc (.cells #[.int .i64 k, sV nm, .int .i64 ix, sV vl] 52))
  generalize w.alloc (.cells #[.int .i64 k, sV nm, .int .i64 ix, sV vl] 52) = V at *
  have a0 := o0.cell (i := 0) rfl
  have a1 := o0.cell (i := 1) rfl
  have a2 := o0.cell (i := 2) rfl
  have a3 := o0.cell (i := 3) rfl
  have HO := Lib.hid hw0
  clear hw0 o0
  have hvl : (vl == []) = decide (vl = []) := by cases vl <;> rfl
  have hnl : (nm == []) = decide (nm = []) := by cases nm <;> rfl
  by_cases h1 : k = 1
  · subst h1
    have HC := Lib.hid (rvName_any nm V hn)
    cases hq : nameOk nm
    all_goals
      rw [hq] at HC
      have HQ := Lib.hid hq
      clear hq
      go_wp2_with fail
      refine HC.out.mono ?_
      rintro e w1 ⟨rfl, rfl⟩
      clear HC
      go_wp2
      all_goals
        go_ret
        exact ⟨ret_bool (by have := HQ.out; first | (simp_all [stepOk, isEmpty_dec]; done) | (simp_all [stepOk, isEmpty_dec]; intros; omega) | (unfold stepOk; rw [Bool.eq_iff_iff]; simp_all [isEmpty_dec])), HO.out⟩
  by_cases h2 : k = 2
  · subst h2
    go_wp2
    all_goals
      go_ret
      exact ⟨ret_bool (by first | (simp_all [stepOk, isEmpty_dec]; done) | (simp_all [stepOk, isEmpty_dec]; intros; omega) | (unfold stepOk; rw [Bool.eq_iff_iff]; simp_all [isEmpty_dec])), HO.out⟩
  by_cases h3 : k = 3
  · subst h3
    have HC := Lib.hid (rvName_any nm V hn)
    have HD := Lib.hid (rvString_any vl V hv)
    cases hq : nameOk nm
    · rw [hq] at HC
      have HQ := Lib.hid hq
      clear hq
      go_wp2_with fail
      refine HC.out.mono ?_
      rintro e w1 ⟨rfl, rfl⟩
      clear HC
      go_wp2
      go_ret
      exact ⟨ret_bool (by simp [stepOk, HQ.out]), HO.out⟩
    · rw [hq] at HC
      have HQ := Lib.hid hq
      clear hq
      cases hq2 : strOk vl
      all_goals
        rw [hq2] at HD
        have HQ2 := Lib.hid hq2
        clear hq2
        go_wp2_with fail
        refine HC.out.mono ?_
        rintro e w1 ⟨rfl, rfl⟩
        clear HC
        go_wp2_with fail
        refine HD.out.mono ?_
        rintro e w1 ⟨rfl, rfl⟩
        clear HD
        go_wp2
        all_goals
          go_ret
          exact ⟨ret_bool (by have := HQ.out; have := HQ2.out; first | (simp_all [stepOk, isEmpty_dec]; done) | (simp_all [stepOk, isEmpty_dec]; intros; omega) | (unfold stepOk; rw [Bool.eq_iff_iff]; simp_all [isEmpty_dec])), HO.out⟩
  · go_wp2
    go_ret
    exact ⟨ret_bool (by simp [stepOk, h1, h2, h3]), HO.out⟩

set_option maxHeartbeats 4000000 in
set_option maxRecDepth 4000 in
theorem rvPath_any (v : Value) (l : List S) (w : World) (hv : Stps w v l) (hn : l.length ≤ 100000) (hs : ∀ s ∈ l, s.nm.length ≤ 1000000 ∧ s.vl.length ≤ 1000000) :
    Calls Tryz.prog 25 #[v] w fun e w' => e = .returned (.bool (pathOk l)) ∧ Below w.heap.size w w' := by
  obtain ⟨ao, cp, rfl, hlc, hlm⟩ := hv.form
  unfold maxLen at hlm
  have HS := Lib.hid hs
  clear hs
  go_enter Tryz.func25, Tryz.ntmps25
  go_wp2
  go_loopg [3] l.length (fun g i wr => ∃ k : Nat, k ≤ l.length ∧ g = l.length - k ∧ i = .int .i64 k ∧ Below w.heap.size w wr ∧ Hid (AllTo stepOk l k))
  case atStart => exact ⟨0, Nat.zero_le _, rfl, rfl, Below.refl _ _, Lib.hid (AllTo_zero _ _)⟩
  case round =>
    obtain ⟨k, hk, hg, rfl, hb, HN⟩ := hrel
    have HG := Lib.hid hg
    clear hg
    by_cases hlt : k < l.length
    · have hx := get_some hlt
      have HL := Lib.hid (show l[k] = l[k] from rfl)
      obtain ⟨x, hxx⟩ : ∃ x, l[k] = x := ⟨_, rfl⟩
      rw [hxx] at hx
      obtain ⟨b, off, rfl, hbl, q0, q1, q2, q3⟩ := hv.at hb hx
      have HX := Lib.hid hxx
      have hxs := HS.out x (List.mem_of_getElem? hx)
      have HB := Lib.hid hb
      clear hx hb hxx HL
      have C := Lib.hid (rvStep_any x wr hxs.1 hxs.2)
      go_wp2_with fail
      clear q0 q1 q2 q3
      refine C.out.mono ?_
      rintro e w2 ⟨rfl, hb2⟩
      have HB2 := Lib.hid (below_all HB.out hb2)
      clear hb2 HB C
      cases hp : stepOk x
      · go_wp2
        go_ret
        exact ⟨ret_bool (by unfold pathOk; rw [all_not hlt (by rw [HX.out, hp])]; simp), HB2.out⟩
      · go_wp2
        go_roundg (l.length - (k + 1))
        case measure => have := HG.out; omega
        case rel => exact ⟨k + 1, by omega, rfl, by go_num, HB2.out, Lib.hid (AllTo_succ HN.out hlt (by rw [HX.out, hp]))⟩
    · obtain rfl : k = l.length := by omega
      have HB := Lib.hid hb
      clear hb
      go_wp2
      all_goals
        go_ret
        exact ⟨ret_bool (by unfold pathOk; rw [all_of HN.out, Bool.and_true, Bool.eq_iff_iff]; simp; try omega), HB.out⟩
end Go.Proofs.YtjpmnlefjmdelaaGreatDoor
