/- Steps that are equal; HasPrefix. The reference's HasPrefix and Same; few. -/
import Derived.Test.YtjpmnlefjmdelaaGreatDoorXvJ
import Derived.Laws.StructEq
set_option linter.unusedSimpArgs false
set_option linter.unusedVariables false
namespace Go.Proofs.YtjpmnlefjmdelaaGreatDoor
open Go.RowKit Go.Sort Go.Proofs.LawFrame

theorem bytes_beq (a b : Str) : ((ByteArray.mk a.toArray).toList == (ByteArray.mk b.toArray).toList) = decide (a = b) := by
  rw [ByteArray.toList_eq, ByteArray.toList_eq]
  show (a.toArray.toList == b.toArray.toList) = _
  by_cases h : a = b <;> simp [h]
set_option maxRecDepth 4000 in
theorem equalIn_S (a b : S) (w : World) : (Op.equalIn 10000 52 (.agg #[.int .i64 a.k, sV a.nm, .int .i64 a.ix, sV a.vl]) (.agg #[.int .i64 b.k, sV b.nm, .int .i64 b.ix, sV b.vl])).run Tryz.prog w = .ok (decide (a = b)) w := by
  have u3 := Tryz.underlying3
  have a3 := Tryz.isAgg3
  have z3 := Tryz.sizeOf3
  have u9 := Tryz.underlying9
  have a9 := Tryz.isAgg9
  have z9 := Tryz.sizeOf9
  have hS : Tryz.prog.underlying 52 = some (.struct (Tryz.prog.fieldsOf 52)) := by kernel_rfl
  have hp : Tryz.prog.stoodInHeld 52 = false := by kernel_rfl
  rw [show (10000 : Nat) = 9999 + 1 from rfl, run_equalIn_agg w 9999 52 _ _ hS hp]
  obtain ⟨ak, an, ai, av⟩ := a
  obtain ⟨bk, bn, bi, bv⟩ := b
  simp only [Program.fieldsOf, Tryz.underlying52, sV]
  go_simp
  by_cases h1 : ak = bk <;> by_cases h2 : an = bn <;> by_cases h3 : ai = bi <;> by_cases h4 : av = bv <;> simp [h1, h2, h3, h4, bytes_beq, S.mk.injEq]
theorem neq_S (a b : S) (w : World) : (binOp .neq 52 (.agg #[.int .i64 a.k, sV a.nm, .int .i64 a.ix, sV a.vl]) (.agg #[.int .i64 b.k, sV b.nm, .int .i64 b.ix, sV b.vl])).run Tryz.prog w = .ok (.bool (!decide (a = b))) w := by
  rw [run_neq_struct, equalIn_S]; rfl

set_option maxHeartbeats 4000000 in
set_option maxRecDepth 4000 in
theorem equalS_any (v1 v2 : Value) (p1 p2 : List S) (w : World) (h1 : Stps w v1 p1) (h2 : Stps w v2 p2) (hn1 : p1.length ≤ 10000) (hn2 : p2.length ≤ 10000) :
    Calls Tryz.prog 64 #[v1, v2] w fun e w' => e = .returned (.bool (decide (p1 = p2))) ∧ Below w.heap.size w w' := by
  obtain ⟨ao, c1, rfl, hc1, hm1⟩ := Stps.form h1
  obtain ⟨bo, c2, rfl, hc2, hm2⟩ := Stps.form h2
  unfold maxLen at hm1 hm2
  have H1 := Lib.hid h1
  have H2 := Lib.hid h2
  clear h1 h2
  have hm : Tryz.prog.eqGuardType Tryz.prog.depth 52 = false := by kernel_rfl
  obtain ⟨R, hR⟩ : ∃ R, decide (p1 = p2) = R := ⟨_, rfl⟩
  rw [hR]
  have HR := Lib.hid hR
  clear hR
  go_enter Tryz.func64, Tryz.ntmps64
  by_cases hl : p1.length = p2.length
  case neg =>
    obtain rfl : R = false := by rw [← HR.out]; simp; intro h; rw [h] at hl; exact hl rfl
    have hl2 : (((p1.length : Nat) : Int) == ((p2.length : Nat) : Int)) = false := by simp; omega
    go_wp2
    go_ret
    exact ⟨rfl, Below.refl _ _⟩
  have hl2 : (((p1.length : Nat) : Int) == ((p2.length : Nat) : Int)) = true := by simp; omega
  generalize hN1 : p1.length = n1 at *
  generalize hN2 : p2.length = n2 at *
  subst hl
  go_wp2
  go_loopg [13] n1 (fun g i wr => ∃ k : Nat, k ≤ n1 ∧ g = n1 - k ∧ i = .int .i64 k ∧ Below w.heap.size w wr ∧ p1.take k = p2.take k)
  case atStart => exact ⟨0, Nat.zero_le _, rfl, rfl, Below.refl _ _, rfl⟩
  case round =>
    obtain ⟨k, hk, hg, rfl, hb, ht⟩ := hrel
    have HG := Lib.hid (And.intro hg ht)
    clear hg ht
    by_cases hlt : k < n1
    case neg =>
      obtain rfl : k = n1 := by omega
      obtain rfl : R = true := by
        rw [← HR.out]
        have := HG.out.2
        rw [List.take_of_length_le (by omega), List.take_of_length_le (by omega)] at this
        simpa using this
      have HB := Lib.hid hb
      clear hb
      go_wp2
      go_ret
      exact ⟨rfl, HB.out⟩
    have hx1 := get_some (show k < p1.length by omega)
    have hx2 := get_some (show k < p2.length by omega)
    generalize p1[k] = s1 at *
    generalize p2[k] = s2 at *
    obtain ⟨b1, o1, rfl, -, a0, a1, a2, a3⟩ := Stps.at H1.out hb hx1
    obtain ⟨b2, o2, rfl, -, d0, d1, d2, d3⟩ := Stps.at H2.out hb hx2
    have HT := Lib.hid (And.intro hx1 (And.intro hx2 (And.intro (take_snoc hx1) (take_snoc hx2))))
    have hneq : ∀ w', (binOp .neq 52 (.agg #[.int .i64 s1.k, sV s1.nm, .int .i64 s1.ix, sV s1.vl]) (.agg #[.int .i64 s2.k, sV s2.nm, .int .i64 s2.ix, sV s2.vl])).run Tryz.prog w' = .ok (.bool (!decide (s1 = s2))) w' := neq_S s1 s2
    have heq : ∀ w', (Op.equalIn 10000 52 (.agg #[.int .i64 s1.k, sV s1.nm, .int .i64 s1.ix, sV s1.vl]) (.agg #[.int .i64 s2.k, sV s2.nm, .int .i64 s2.ix, sV s2.vl])).run Tryz.prog w' = .ok (decide (s1 = s2)) w' := equalIn_S s1 s2
    obtain ⟨r, hr⟩ : ∃ r, decide (s1 = s2) = r := ⟨_, rfl⟩
    rw [hr] at hneq heq
    have a0 := cell_regrown a0
    have a1 := cell_regrown a1
    have a2 := cell_regrown a2
    have a3 := cell_regrown a3
    have d0 := cell_regrown d0
    have d1 := cell_regrown d1
    have d2 := cell_regrown d2
    have d3 := cell_regrown d3
    have HB := Lib.hid (And.intro hb hr)
    clear hx1 hx2 hb hr
    go_upto_region 6 with (fail)
    refine wp_region_quiet_below (by kernel_rfl) (by kernel_rfl) ?_
    repeat (first | go_big_quiet_step (fail) | quiet_step (fail))
    refine wpQuiet_nil ?_
    intro _ hw'
    obtain ⟨⟨dq, osq⟩, hw''⟩ := hw'
    subst hw''
    have hbW := below_all HB.out.1 (below_regrown wr dq osq)
    generalize grow (redrawn wr dq) osq = W at *
    clear a0 a1 a2 a3 d0 d1 d2 d3 hneq heq
    have HW := Lib.hid hbW
    clear hbW
    cases r with
    | false =>
      obtain rfl : R = false := by
        rw [← HR.out]
        have h1 := HT.out.1; have h2 := HT.out.2.1; have h3 := HB.out.2
        simp only [decide_eq_false_iff_not] at h3 ⊢
        intro h; rw [h, h2] at h1; exact h3 (Option.some.inj h1).symm
      go_wp2
      go_ret
      exact ⟨rfl, HW.out⟩
    | true =>
      go_wp2
      go_roundg (n1 - (k + 1))
      case measure => have := HG.out.1; omega
      case rel =>
        refine ⟨k + 1, by omega, rfl, by go_num, HW.out, ?_⟩
        have h3 := HB.out.2
        simp only [decide_eq_true_eq] at h3
        rw [HT.out.2.2.1, HT.out.2.2.2, HG.out.2, h3]

theorem flatS_take {w : World} {ao : Option Addr} {cp n m : Nat} {p : List S} (h : Stps w (.slice ao n cp) p) (hm : m ≤ p.length) : Stps w (.slice ao m cp) (p.take m) := by
  obtain ⟨a, c, h1, h2, h3, h4⟩ := Flat.out h
  simp only [Value.slice.injEq] at h1
  obtain ⟨rfl, rfl, rfl⟩ := h1
  have hl : (p.take m).length = m := by simp; omega
  refine Flat.mk ⟨ao, cp, by rw [hl], by omega, h3, fun hq => ?_⟩
  obtain ⟨b, off, k1, k2, k3⟩ := h4 (by omega)
  refine ⟨b, off, k1, k2, fun j x hx => k3 j x ?_⟩
  have : p.flatMap S.cells = (p.take m).flatMap S.cells ++ (p.drop m).flatMap S.cells := by rw [← List.flatMap_append, List.take_append_drop]
  rw [this, List.getElem?_append_left (List.getElem?_eq_some_iff.1 hx).1]
  exact hx
/-- does the one begin with the other -/
def hasPre (p1 p2 : List S) : Bool := decide (p2.length ≤ p1.length ∧ p1.take p2.length = p2)

set_option maxHeartbeats 4000000 in
set_option maxRecDepth 4000 in
theorem hasPrefix_any (v1 v2 : Value) (p1 p2 : List S) (w : World) (h1 : Stps w v1 p1) (h2 : Stps w v2 p2) (hn1 : p1.length ≤ 10000) (hn2 : p2.length ≤ 10000) :
    Calls Tryz.prog 26 #[v1, v2] w fun e w' => e = .returned (.bool (hasPre p1 p2)) ∧ Below w.heap.size w w' := by
  obtain ⟨ao, c1, rfl, hc1, hm1⟩ := Stps.form h1
  obtain ⟨bo, c2, rfl, hc2, hm2⟩ := Stps.form h2
  unfold maxLen at hm1 hm2
  obtain ⟨R, hR⟩ : ∃ R, hasPre p1 p2 = R := ⟨_, rfl⟩
  rw [hR]
  by_cases hl : p2.length ≤ p1.length
  · have C0 := equalS_any (.slice ao p2.length c1) (.slice bo p2.length c2) (p1.take p2.length) p2 w (flatS_take h1 hl) h2 (by simp; omega) hn2
    have hR2 : decide (p1.take p2.length = p2) = R := by rw [← hR]; unfold hasPre; simp [hl]
    rw [hR2] at C0
    have C := Lib.hid C0
    have hle : p2.length ≤ c1 := by omega
    clear C0 hR hR2 h1 h2
    go_enter Tryz.func26, Tryz.ntmps26
    go_wp2_with fail
    refine C.out.mono ?_
    rintro e w1 ⟨rfl, hb⟩
    clear C
    have HB := Lib.hid hb
    clear hb
    go_wp2
    go_ret
    exact ⟨rfl, HB.out⟩
  · obtain rfl : R = false := by rw [← hR]; unfold hasPre; simp [hl]
    clear hR h1 h2
    go_enter Tryz.func26, Tryz.ntmps26
    go_wp2
    go_ret
    exact ⟨rfl, Below.refl _ _⟩
end Go.Proofs.YtjpmnlefjmdelaaGreatDoor
namespace Go.Proofs.YtjpmnlefjmdelaaGreatDoor
open Go.RowKit Go.Sort Go.Proofs.LawFrame

def fewOk (l : List S) : Bool := decide (l.length ≤ 20) && l.all (fun s => decide (s.nm.length ≤ 300) && decide (s.vl.length ≤ 300))
theorem fewOk_iff {l : List S} (h : fewOk l = true) : l.length ≤ 20 ∧ ∀ s ∈ l, s.nm.length ≤ 300 ∧ s.vl.length ≤ 300 := by
  unfold fewOk at h
  simpa using h
set_option maxHeartbeats 4000000 in
set_option maxRecDepth 4000 in
theorem few_any (v : Value) (l : List S) (w : World) (hv : Stps w v l) : Calls Tryz.prog 22 #[v] w fun e w' => e = .returned (.bool (fewOk l)) ∧ Below w.heap.size w w' := by
  obtain ⟨ao, cp, rfl, hlc, hlm⟩ := hv.form
  unfold maxLen at hlm
  by_cases h20 : 20 < l.length
  · go_enter Tryz.func22, Tryz.ntmps22
    go_wp2
    go_ret
    exact ⟨ret_bool (by unfold fewOk; rw [decide_eq_false (by omega)]; rfl), Below.refl _ _⟩
  have hE : fewOk l = l.all (fun s => decide (s.nm.length ≤ 300) && decide (s.vl.length ≤ 300)) := by unfold fewOk; rw [decide_eq_true (by omega)]; rfl
  have HE := Lib.hid hE
  clear hE
  go_enter Tryz.func22, Tryz.ntmps22
  go_wp2
  go_loopg [10] l.length (fun g i wr => ∃ k : Nat, k ≤ l.length ∧ g = l.length - k ∧ i = .int .i64 k ∧ Below w.heap.size w wr ∧ Hid (AllTo (fun s => decide (s.nm.length ≤ 300) && decide (s.vl.length ≤ 300)) l k))
  case atStart => exact ⟨0, Nat.zero_le _, rfl, rfl, Below.refl _ _, Lib.hid (AllTo_zero _ _)⟩
  case round =>
    obtain ⟨k, hk, hg, rfl, hb, HN⟩ := hrel
    have HG := Lib.hid hg
    clear hg
    by_cases hlt : k < l.length
    · have hx := get_some hlt
      obtain ⟨x, hxx⟩ : ∃ x, l[k] = x := ⟨_, rfl⟩
      rw [hxx] at hx
      obtain ⟨b, off, rfl, hbl, q0, q1, q2, q3⟩ := hv.at hb hx
      have HX := Lib.hid hxx
      obtain ⟨sk, sn, si, sv⟩ := x
      simp only at q0 q1 q2 q3
      have oN := Own.new wr [.int .i64 sk, sV sn, .int .i64 si, sV sv] 52
      have hbN := below_all hb (below_alloc wr (.cells #[.int .i64 sk, sV sn, .int .i64 si, sV sv] 52))
      clear hx hb hxx
      go_upto_region 6 with (fail)
      change Code.wp Tryz.prog _ _ _ (wr.alloc (.cells #[.int .i64 sk, sV sn, .int .i64 si, sV sv] 52))
      generalize wr.alloc (.cells #[.int .i64 sk, sV sn, .int .i64 si, sV sv] 52) = V at *
      generalize wr.heap.size = nb at *
      have HB := Lib.hid hbN
      have a1 := oN.cell (i := 1) rfl
      have a3 := oN.cell (i := 3) rfl
      clear q0 q1 q2 q3 oN hbN
      by_cases c1 : 300 < sn.length
      · go_wp2
        go_ret
        exact ⟨ret_bool (by rw [HE.out, all_not hlt (by rw [HX.out]; simp; omega)]), HB.out⟩
      by_cases c2 : 300 < sv.length
      · go_wp2
        go_ret
        exact ⟨ret_bool (by rw [HE.out, all_not hlt (by rw [HX.out]; simp; omega)]), HB.out⟩
      go_wp2
      go_roundg (l.length - (k + 1))
      case measure => have := HG.out; omega
      case rel => exact ⟨k + 1, by omega, rfl, by go_num, HB.out, Lib.hid (AllTo_succ HN.out hlt (by rw [HX.out]; simp; omega))⟩
    · obtain rfl : k = l.length := by omega
      have HB := Lib.hid hb
      clear hb
      go_wp2
      go_ret
      exact ⟨ret_bool (by rw [HE.out, all_of HN.out]), HB.out⟩
end Go.Proofs.YtjpmnlefjmdelaaGreatDoor
