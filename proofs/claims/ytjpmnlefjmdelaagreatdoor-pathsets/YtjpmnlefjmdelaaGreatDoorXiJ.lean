/- The program's texts of steps and paths: Print. The program's Print of paths. -/
import Derived.Test.YtjpmnlefjmdelaaGreatDoorXcJ
import Derived.Test.YtjpmnlefjmdelaaGreatDoorXaJ
import Derived.Test.YtjpmnlefjmdelaaGreatDoorShelf
import Derived.Test.YtjpmnlefjmdelaaGreatDoorNaJ
import Derived.Test.YtjpmnlefjmdelaaGreatDoorXeJ
import Derived.Laws.IdiomStrings
set_option linter.unusedSimpArgs false
set_option linter.unusedVariables false
namespace Go.Proofs.YtjpmnlefjmdelaaGreatDoor
open Go.RowKit Go.Sort Go.Proofs.LawFrame

theorem row_new {w : World} {b : Nat} {l : Str} (o : Own w b (bC l) 5) {base : Nat} (hb : base ≤ b) (hl : l.length ≤ maxLen) : w.ownsRow base 5 1 (.slice (some ⟨b, 0, none⟩) l.length l.length) l.length (bC l) :=
  ⟨by simp [bC], Or.inr ⟨b, l.length, (bC l).toArray, rfl, hb, o, Nat.le_refl _, hl, by simp [bC], by rw [Nat.mul_one]; exact List.take_of_length_le (by simp [bC])⟩⟩
theorem bC_app' (l m : Str) : bC (l ++ m) = bC l ++ bC m := by simp [bC]
theorem strs_add (l m : Str) : (⟨l.toArray⟩ : ByteArray) ++ ⟨m.toArray⟩ = ⟨(l ++ m).toArray⟩ := by
  apply ByteArray.ext; rw [ByteArray.data_append]; simp
set_option maxHeartbeats 4000000 in
set_option maxRecDepth 4000 in
theorem quoteP_any (x : Str) (w : World) (hx : x.length ≤ 10000) : Calls Tryz.prog 113 #[sV x] w fun e w' => e = .returned (sV (quoteR x)) ∧ Below w.heap.size w w' := by
  obtain ⟨i5, hi5, hz5, hs5, hy5⟩ := info_parts info5
  have hb0 := below_alloc w (.cells #[.int .u8 34] 5)
  have hr0 := row_new (l := [34]) (w := w.alloc (.cells #[.int .u8 34] 5)) (b := w.heap.size) (Own.new w [.int .u8 34] 5) (Nat.le_refl _) (by decide)
  have HS := Lib.hid (And.intro hb0 hr0)
  clear hb0 hr0
  go_enter Tryz.func113, Tryz.ntmps113
  go_wp2
  change Code.wp Tryz.prog _ _ _ (w.alloc (.cells #[.int .u8 34] 5))
  generalize w.alloc (.cells #[.int .u8 34] 5) = W at *
  go_loopg [3, 8] x.length (fun g v i wr => ∃ (k : Nat) (acc : Str), k ≤ x.length ∧ g = x.length - k ∧ i = .int .i64 k ∧ Hid (acc = 34 :: (x.take k).flatMap esc) ∧ Below w.heap.size w wr ∧ wr.ownsRow w.heap.size 5 1 v acc.length (bC acc))
  case atStart => exact ⟨0, [34], Nat.zero_le _, rfl, rfl, Lib.hid (by simp), HS.out.1, HS.out.2⟩
  case round =>
    obtain ⟨k, acc, hk, hg, rfl, HA, hb, hown⟩ := hrel
    have HG := Lib.hid hg
    clear hg HS
    obtain ⟨ao, cap, hu, -, -, -⟩ := (Flat.of_own hown).out
    subst hu
    have hal : acc.length ≤ 20001 := by
      have := escs_len (x.take k)
      rw [List.length_take] at this
      rw [HA.out, List.length_cons]; omega
    generalize hN : acc.length = N at *
    have HN := Lib.hid hN
    clear hN
    have hbsz := hb.size
    by_cases hlt : k < x.length
    · have hm : ((⟨x.toArray⟩ : ByteArray)[k]'hlt).toNat = x[k].toNat := rfl
      have HT : Hid (x.take (k + 1) = x.take k ++ [x[k]]) := Lib.hid (List.take_succ_eq_append_getElem hlt)
      generalize x[k] = c at hm HT
      by_cases h34 : c.toNat = 34
      · have HC := Lib.hid h34
        have e34 : (c.toNat : Int) = 34 := by have := HC.out; omega
        clear h34
        go_wp2_with (first | (at_builtin; refine wpList_append_own _ rfl (.tmp 23) (.tmp 27) 61 rfl w.heap.size 5 i5 (.int .u8 0) 1 1 Tryz.underlying61 hi5 hz5 hs5 hy5 rfl (by decide) _ _ _ rfl (hown.alloc _) ⟨wr.heap.size, 0, none⟩ 2 2 [.int .u8 92, .int .u8 (34 : Int)] rfl rfl (own_src (Own.new _ _ _)) (fun u hu => by simp at hu; rcases hu with hu | hu <;> subst hu <;> rfl) (by unfold maxLen; omega) (by omega) (by simp <;> omega) ?_; intro v2 w2 hown2 hgrow2 hnil2))
        have HBel := Lib.hid (below_row (hb.alloc hb.size _) hgrow2 (fun k hk => own_row hown k hk))
        go_roundg (x.length - (k + 1))
        case measure => have := HG.out; omega
        case rel => exact ⟨k + 1, acc ++ [92, 34], by omega, rfl, by go_num, Lib.hid (by rw [HA.out, HT.out]; simp [esc, HC.out]), HBel.out, by rw [bC_app', List.length_append, HN.out]; exact hown2⟩
      have e34 : ¬ (c.toNat : Int) = 34 := by omega
      have e34' : ((c.toNat : Int) == 34) = false := by rw [beq_eq_false_iff_ne]; exact e34
      have H34 := Lib.hid h34
      clear h34
      by_cases h92 : c.toNat = 92
      · have HC := Lib.hid h92
        have e92 : (c.toNat : Int) = 92 := by have := HC.out; omega
        clear h92
        go_wp2_with (first | (at_builtin; refine wpList_append_own _ rfl (.tmp 23) (.tmp 27) 61 rfl w.heap.size 5 i5 (.int .u8 0) 1 1 Tryz.underlying61 hi5 hz5 hs5 hy5 rfl (by decide) _ _ _ rfl (hown.alloc _) ⟨wr.heap.size, 0, none⟩ 2 2 [.int .u8 92, .int .u8 (92 : Int)] rfl rfl (own_src (Own.new _ _ _)) (fun u hu => by simp at hu; subst hu; rfl) (by unfold maxLen; omega) (by omega) (by simp <;> omega) ?_; intro v2 w2 hown2 hgrow2 hnil2))
        have HBel := Lib.hid (below_row (hb.alloc hb.size _) hgrow2 (fun k hk => own_row hown k hk))
        go_roundg (x.length - (k + 1))
        case measure => have := HG.out; omega
        case rel => exact ⟨k + 1, acc ++ [92, 92], by omega, rfl, by go_num, Lib.hid (by rw [HA.out, HT.out]; simp [esc, HC.out]), HBel.out, by rw [bC_app', List.length_append, HN.out]; exact hown2⟩
      have e92 : ¬ (c.toNat : Int) = 92 := by omega
      have e92' : ((c.toNat : Int) == 92) = false := by rw [beq_eq_false_iff_ne]; exact e92
      have H92 := Lib.hid h92
      clear h92
      by_cases h10 : c.toNat = 10
      · have HC := Lib.hid h10
        have e10 : (c.toNat : Int) = 10 := by have := HC.out; omega
        clear h10
        go_wp2_with (first | (at_builtin; refine wpList_append_own _ rfl (.tmp 31) (.tmp 32) 61 rfl w.heap.size 5 i5 (.int .u8 0) 1 1 Tryz.underlying61 hi5 hz5 hs5 hy5 rfl (by decide) _ _ _ rfl (hown.alloc _) ⟨wr.heap.size, 0, none⟩ 2 2 [.int .u8 92, .int .u8 110] rfl rfl (own_src (Own.new _ _ _)) (fun u hu => by simp at hu; rcases hu with hu | hu <;> subst hu <;> rfl) (by unfold maxLen; omega) (by omega) (by simp <;> omega) ?_; intro v2 w2 hown2 hgrow2 hnil2))
        have HBel := Lib.hid (below_row (hb.alloc hb.size _) hgrow2 (fun k hk => own_row hown k hk))
        go_roundg (x.length - (k + 1))
        case measure => have := HG.out; omega
        case rel => exact ⟨k + 1, acc ++ [92, 110], by omega, rfl, by go_num, Lib.hid (by rw [HA.out, HT.out]; simp [esc, HC.out]), HBel.out, by rw [bC_app', List.length_append, HN.out]; exact hown2⟩
      have e10 : ¬ (c.toNat : Int) = 10 := by omega
      have e10' : ((c.toNat : Int) == 10) = false := by rw [beq_eq_false_iff_ne]; exact e10
      have H10 := Lib.hid h10
      clear h10
      go_wp2_with (first | (at_builtin; refine wpList_append_own _ rfl (.tmp 14) (.tmp 18) 61 rfl w.heap.size 5 i5 (.int .u8 0) 1 1 Tryz.underlying61 hi5 hz5 hs5 hy5 rfl (by decide) _ _ _ rfl (hown.alloc _) ⟨wr.heap.size, 0, none⟩ 1 1 [.int .u8 (c.toNat : Int)] rfl rfl (own_src (Own.new _ _ _)) (fun u hu => by simp at hu; subst hu; rfl) (by unfold maxLen; omega) (by omega) (by simp <;> omega) ?_; intro v2 w2 hown2 hgrow2 hnil2))
      have HBel := Lib.hid (below_row (hb.alloc hb.size _) hgrow2 (fun k hk => own_row hown k hk))
      go_roundg (x.length - (k + 1))
      case measure => have := HG.out; omega
      case rel => exact ⟨k + 1, acc ++ [c], by omega, rfl, by go_num, Lib.hid (by rw [HA.out, HT.out]; simp [esc, H34.out, H92.out, H10.out]), HBel.out, by rw [bC_app', List.length_append, HN.out]; exact hown2⟩
    · obtain rfl : k = x.length := by omega
      have HQ : Hid (acc ++ [34] = quoteR x) := Lib.hid (by rw [HA.out, List.take_length]; rfl)
      go_wp2_with (first | (at_builtin; refine wpList_append_own _ rfl (.tmp 35) (.tmp 36) 61 rfl w.heap.size 5 i5 (.int .u8 0) 1 1 Tryz.underlying61 hi5 hz5 hs5 hy5 rfl (by decide) _ _ _ rfl (hown.alloc _) ⟨wr.heap.size, 0, none⟩ 1 1 [.int .u8 34] rfl rfl (own_src (Own.new _ _ _)) (fun u hu => by simp at hu; subst hu; rfl) (by unfold maxLen; omega) (by omega) (by simp <;> omega) ?_; intro v2 w2 hown2 hgrow2 hnil2); have hcv := conv_own (l := quoteR x) (w := w2) (base := w.heap.size) (v := v2) (by rw [← HQ.out, bC_app', List.length_append, HN.out]; exact hown2); obtain ⟨ao2, cap2, hu2, -, -, -⟩ := (Flat.of_own hown2).out; subst hu2)
      have HBel := Lib.hid (below_row (hb.alloc hb.size _) hgrow2 (fun k hk => own_row hown k hk))
      go_ret
      exact ⟨rfl, HBel.out⟩

theorem dd_two {u : Nat} (h : u < 100) : (Lib.decDigits u).length ≤ 2 := by
  by_cases h1 : u < 10
  · rw [Lib.decDigits, dif_pos h1]; simp
  · rw [Lib.decDigits, dif_neg h1, Lib.decDigits, dif_pos (by omega)]; simp
theorem quoteR_len' (x : Str) : (quoteR x).length ≤ 2 * x.length + 2 := by
  have := escs_len x
  unfold quoteR; rw [List.length_append, List.length_cons]; simp only [List.length_singleton]; omega
theorem stpT_len {s : S} (h : stepOk s = true) : 0 < (stpT s).length ∧ (stpT s).length ≤ 1000 := by
  unfold stepOk at h
  unfold stpT
  by_cases h1 : s.k = 1
  · simp only [h1, if_true] at h
    simp only [h1]
    simp only [Bool.and_eq_true, decide_eq_true_eq] at h
    have hn := h.1.1
    unfold nameOk at hn
    simp only [Bool.and_eq_true, decide_eq_true_eq] at hn
    simp; omega
  · simp only [h1, if_false] at h
    by_cases h2 : s.k = 2
    · simp only [h2, if_true, Bool.and_eq_true, decide_eq_true_eq] at h
      have := dd_two (u := s.ix.toNat) (by omega)
      simp [h2]; omega
    · simp only [h2, if_false] at h
      by_cases h3 : s.k = 3
      · simp only [h3, if_true, Bool.and_eq_true, decide_eq_true_eq] at h
        have hn := h.1.1
        unfold nameOk at hn
        simp only [Bool.and_eq_true, decide_eq_true_eq] at hn
        have hs := h.1.2
        unfold strOk at hs
        simp only [Bool.and_eq_true, decide_eq_true_eq] at hs
        have := quoteR_len' s.vl
        simp [h3]; omega
      · simp [h3] at h
theorem pathT_len : ∀ (l : List S) (first : Bool), (∀ s ∈ l, stepOk s = true) → (pathT first l).length ≤ 1001 * l.length
  | [], _, _ => by simp [pathT]
  | s :: l, first, h => by
    have h1 := (stpT_len (h s (by simp))).2
    have h2 := pathT_len l false (fun x hx => h x (by simp [hx]))
    unfold pathT dotT
    split <;> simp <;> omega

set_option maxHeartbeats 4000000 in
set_option maxRecDepth 4000 in
theorem stepText_any (s : S) (w : World) (hs : stepOk s = true) : Calls Tryz.prog 69 #[s.val] w fun e w' => e = .returned (sV (stpT s)) ∧ Below w.heap.size w w' := by
  obtain ⟨k, nm, ix, vl⟩ := s
  show Calls Tryz.prog 69 #[.agg #[.int .i64 k, sV nm, .int .i64 ix, sV vl]] w _
  have hw0 := below_alloc w (.cells #[.int .i64 k, sV nm, .int .i64 ix, sV vl] 52)
  have o0 := Own.new w [.int .i64 k, sV nm, .int .i64 ix, sV vl] 52
  go_enter Tryz.func69, Tryz.ntmps69
  go_upto_region 1 with (fail)
  change Code.wp Tryz.prog _ _ _ (w.alloc (.cells #[.int .i64 k, sV nm, .int .i64 ix, sV vl] 52))
  generalize w.alloc (.cells #[.int .i64 k, sV nm, .int .i64 ix, sV vl] 52) = V at *
  have a0 := o0.cell (i := 0) rfl
  have a1 := o0.cell (i := 1) rfl
  have a2 := o0.cell (i := 2) rfl
  have a3 := o0.cell (i := 3) rfl
  have HO := Lib.hid (And.intro hw0 o0)
  clear hw0 o0
  unfold stepOk at hs
  simp only at hs
  by_cases h2 : k = 2
  · subst h2
    have hix : 0 ≤ ix ∧ ix ≤ 64 := by simp at hs; omega
    obtain ⟨u, rfl⟩ : ∃ u : Nat, ix = (u : Int) := ⟨ix.toNat, by omega⟩
    have hdl := dd_two (u := u) (by omega)
    have C := Lib.hid (Tryz.strconv_Itoa_small u (by omega) V)
    have HT : Hid (stpT ⟨2, nm, (u : Int), vl⟩ = [91] ++ Lib.decDigits u ++ [93]) := Lib.hid (by unfold stpT; simp)
    clear hs
    go_wp2_with fail
    refine C.out.mono ?_
    rintro e w1 ⟨rfl, rfl⟩
    clear C
    go_wp2
    go_ret
    exact ⟨by rw [HT.out]; show Ending.returned (.string _) = _; rw [show (⟨#[91]⟩ : ByteArray) = ⟨([91] : Str).toArray⟩ from rfl, show (⟨#[93]⟩ : ByteArray) = ⟨([93] : Str).toArray⟩ from rfl, strs_add, strs_add], HO.out.1⟩
  by_cases h3 : k = 3
  · subst h3
    have hvl : vl.length ≤ 10000 := by
      have : strOk vl = true := by simp at hs; exact hs.1.2
      unfold strOk at this; simp only [Bool.and_eq_true, decide_eq_true_eq] at this; omega
    have hnl : nm.length ≤ 40 := by
      have : nameOk nm = true := by simp at hs; exact hs.1.1
      unfold nameOk at this; simp only [Bool.and_eq_true, decide_eq_true_eq] at this; omega
    have hql := quoteR_len' vl
    have HT : Hid (stpT ⟨3, nm, ix, vl⟩ = [91] ++ nm ++ [61] ++ quoteR vl ++ [93]) := Lib.hid (by unfold stpT; simp)
    have cQ : ∀ dd os, Calls Tryz.prog 113 #[sV vl] (grow (redrawn V dd) os) fun e w'' => e = .returned (sV (quoteR vl)) ∧ ∃ p : Regrown, w'' = grow (redrawn V p.d) p.os := fun dd os => Calls.regrown_of (quoteP_any vl _ hvl)
    have z1 := cell_regrown (HO.out.2.cell (i := 1) rfl)
    have z3 := cell_regrown (HO.out.2.cell (i := 3) rfl)
    clear hs a2
    go_upto_region 5 with (fail)
    refine wp_region_quiet_below (by kernel_rfl) (by kernel_rfl) ?_
    repeat (first | go_big_quiet_step ((first | with_reducible exact cQ _ _)) | quiet_step (first | with_reducible exact cQ _ _))
    refine wpQuiet_nil ?_
    intro _ hw'
    obtain ⟨⟨dq, osq⟩, hw''⟩ := hw'
    subst hw''
    go_wp2
    go_ret
    exact ⟨by rw [HT.out]; show Ending.returned (.string _) = _; rw [show (⟨#[91]⟩ : ByteArray) = ⟨([91] : Str).toArray⟩ from rfl, show (⟨#[61]⟩ : ByteArray) = ⟨([61] : Str).toArray⟩ from rfl, show (⟨#[93]⟩ : ByteArray) = ⟨([93] : Str).toArray⟩ from rfl, strs_add, strs_add, strs_add, strs_add], below_all HO.out.1 (below_regrown V dq osq)⟩
  · have h1 : k = 1 := by
      by_cases h : k = 1
      · exact h
      · simp [h, h2, h3] at hs
    subst h1
    have HT : Hid (stpT ⟨1, nm, ix, vl⟩ = nm) := Lib.hid (by unfold stpT; simp)
    clear hs
    go_wp2
    go_ret
    exact ⟨by rw [HT.out]; rfl, HO.out.1⟩

end Go.Proofs.YtjpmnlefjmdelaaGreatDoor
namespace Go.Proofs.YtjpmnlefjmdelaaGreatDoor
open Go.RowKit Go.Sort Go.Proofs.LawFrame
theorem bd_isB {bb : Nat} {l : Str} {w : World} (h : Bd bb l w) : Lib.IsBuilder 63 5 bb bb (Lib.byteCells l) w := by
  obtain ⟨p, v, hp, o, hown⟩ := h.out
  have hb : Lib.byteCells l = bC l := rfl
  have : Lib.BuilderAt 63 5 bb bb p (Lib.byteCells l) w := by
    refine ⟨Nat.le_refl _, v, o, ?_, fun e => by have := own_row hown bb e; omega⟩
    rw [hb, bC_len]
    refine ⟨hown.1, ?_⟩
    rcases hown.2 with h | ⟨g, cap, cur, h1, h2, h3⟩
    · exact Or.inl h
    · exact Or.inr ⟨g, cap, cur, h1, by omega, h3⟩
  rcases hp with rfl | rfl
  · exact Or.inl this
  · exact Or.inr this
/-- a builder above the world w -/
structure Pr2 (w : World) (bb : Nat) (l : Str) (w' : World) : Prop where
  low : Below w.heap.size w w'
  le : w.heap.size ≤ bb
  bd : Bd bb l w'
theorem Pr2.next {w : World} {bb : Nat} {l l' : Str} {w1 w2 : World} (h : Pr2 w bb l w1) (hw : Wr bb w1 w2) (hd : Bd bb l' w2) : Pr2 w bb l' w2 := ⟨h.low.trans (hw.low.mono h.le), h.le, hd⟩
theorem Pr2.all {w : World} {bb : Nat} {l : Str} {w1 w2 : World} (h : Pr2 w bb l w1) (hb : Below w1.heap.size w1 w2) : Pr2 w bb l w2 := ⟨h.low.trans (hb.mono (Nat.le_trans h.le (Nat.le_of_lt h.bd.lt))), h.le, h.bd.all hb⟩

set_option maxHeartbeats 8000000 in
set_option maxRecDepth 4000 in
theorem printPath_any (v : Value) (l : List S) (w : World) (hv : Stps w v l) (hn : l.length ≤ 100000) :
    Calls Tryz.prog 31 #[v] w fun e w' => e = .returned (.tuple #[sV (prP l).1, .int .i64 (prP l).2]) ∧ Below w.heap.size w w' := by
  have C := Lib.hid (pathValid_any v l w hv hn)
  obtain ⟨ao, cp, rfl, hlc, hlm⟩ := hv.form
  unfold maxLen at hlm
  have HV := Lib.hid hv
  clear hv
  go_enter Tryz.func31, Tryz.ntmps31
  go_wp2_with fail
  refine C.out.mono ?_
  rintro e w1 ⟨rfl, hb1⟩
  clear C
  cases hok : pathOk l
  · have HF : Hid (prP l = ([], 1)) := Lib.hid (by unfold prP; rw [hok]; rfl)
    go_wp2
    exact bodyPost_ret (v := .tuple #[.string ⟨#[]⟩, .int .i64 1]) (by simp [results, Tryz.results31, go_sem]) rfl ⟨by rw [HF.out], hb1⟩
  have HF : Hid (prP l = (pathT true l, 0)) := Lib.hid (by unfold prP; rw [hok]; rfl)
  have hok2 : l.length ≤ 16 ∧ ∀ s ∈ l, stepOk s = true := by
    unfold pathOk at hok
    simp only [Bool.and_eq_true, decide_eq_true_eq, List.all_eq_true] at hok
    exact hok
  have hl16 := hok2.1
  have HOK := Lib.hid hok2.2
  clear hok hok2
  have hbB := below_alloc w1 (.cells #[.pointer none, .slice none 0 0] 63)
  have oB := Own.new w1 [.pointer none, .slice none 0 0] 63
  have hs1 := hb1.size
  have HSB := Lib.hid (show Pr2 w w1.heap.size [] (w1.alloc (.cells #[.pointer none, .slice none 0 0] 63)) from ⟨below_all hb1 hbB, hs1, ⟨_, _, Or.inl rfl, oB, own_nil _ _ _ _⟩⟩)
  clear hbB oB hb1
  go_upto_region 4 with (fail)
  change Code.wp Tryz.prog _ _ _ (w1.alloc (.cells #[.pointer none, .slice none 0 0] 63))
  generalize w1.alloc (.cells #[.pointer none, .slice none 0 0] 63) = V1 at *
  generalize w1.heap.size = bb at *
  go_wp2
  go_loopg [12] l.length (fun g i wr => ∃ k : Nat, k ≤ l.length ∧ g = l.length - k ∧ i = .int .i64 k ∧ Pr2 w bb (pathT true (l.take k)) wr)
  case atStart => exact ⟨0, Nat.zero_le _, rfl, rfl, HSB.out⟩
  case round =>
    obtain ⟨k, hk, hg, rfl, hP⟩ := hrel
    have HG := Lib.hid hg
    clear hg HSB
    by_cases hlt : k < l.length
    case neg =>
      obtain rfl : k = l.length := by omega
      rw [List.take_length] at hP
      have HP := Lib.hid hP
      have C := Lib.hid (Tryz.Builder_String_any bb bb (pathT true l) wr (bd_isB hP.bd) (Nat.le_of_lt hP.bd.lt))
      clear hP
      go_wp2_with fail
      refine C.out.mono ?_
      rintro e w4 ⟨rfl, hb4⟩
      have HB := Lib.hid (HP.out.low.trans (hb4.mono HP.out.le))
      clear C hb4
      go_wp2
      exact bodyPost_ret (v := .tuple #[sV (pathT true l), .int .i64 0]) (by simp [results, Tryz.results31, go_sem]) rfl ⟨by rw [HF.out], HB.out⟩
    have hx := get_some hlt
    generalize l[k] = s at hx
    obtain ⟨b, off, rfl, hbl, q0, q1, q2, q3⟩ := Stps.at HV.out hP.low hx
    have hsok := HOK.out s (List.mem_of_getElem? hx)
    have hlen := pathT_len (l.take k) true (fun x hx => HOK.out x (List.mem_of_mem_take hx))
    rw [List.length_take] at hlen
    have hlen2 : (pathT true (l.take k)).length ≤ 20000 := by omega
    have HT : Hid (pathT true (l.take (k + 1)) = pathT true (l.take k) ++ dotT (true && (l.take k).isEmpty) s) := Lib.hid (by rw [take_snoc hx, pathT_snoc])
    have HE : Hid ((l.take k).isEmpty = decide (k = 0)) := Lib.hid (by
      cases k with
      | zero => simp
      | succ k => cases l with
        | nil => simp at hlt
        | cons a l => rfl)
    have HSOK := Lib.hid (And.intro hsok (stpT_len hsok))
    clear hx hlen hsok
    generalize pathT true (l.take k) = acc at *
    obtain ⟨sk, sn, si, sv⟩ := s
    simp only at q0 q1 q2 q3
    have oN := Own.new wr [.int .i64 sk, sV sn, .int .i64 si, sV sv] 52
    have hbN := below_alloc wr (.cells #[.int .i64 sk, sV sn, .int .i64 si, sV sv] 52)
    have hPA := hP.all hbN
    have hOff : Off bb wr.heap.size (wr.alloc (.cells #[.int .i64 sk, sV sn, .int .i64 si, sV sv] 52)) := (off_new hP.bd (Nat.le_refl _)).all hP.bd hbN
    go_upto_region 7 with (fail)
    clear q0 q1 q2 q3
    change Code.wp Tryz.prog _ _ _ (wr.alloc (.cells #[.int .i64 sk, sV sn, .int .i64 si, sV sv] 52))
    generalize wr.alloc (.cells #[.int .i64 sk, sV sn, .int .i64 si, sV sv] 52) = V at *
    generalize wr.heap.size = nb at *
    have HS := Lib.hid (And.intro hPA (And.intro oN hOff))
    clear hP hbN hPA hOff
    have a0 := oN.cell (i := 0) rfl
    clear oN
    have KEY : ∀ (acc2 : Str) (V2 : World), acc2.length ≤ 20001 → Pr2 w bb acc2 V2 → Own V2 nb [.int .i64 sk, sV sn, .int .i64 si, sV sv] 52 → pathT true (l.take (k + 1)) = acc2 ++ stpT ⟨sk, sn, si, sv⟩ → True := fun _ _ _ _ _ _ => trivial
    clear KEY
    by_cases hdot : sk = 1 ∧ 0 < k
    · obtain ⟨h1, h0⟩ := hdot
      subst h1
      have HT2 : Hid (pathT true (l.take (k + 1)) = acc ++ [46] ++ stpT ⟨1, sn, si, sv⟩) := Lib.hid (by rw [HT.out, HE.out, decide_eq_false (by omega)]; simp [dotT])
      have C := Lib.hid (writeByte_any HS.out.1.bd (by omega) (c := 46) (ci := 46) rfl)
      go_wp2_with fail
      refine C.out.mono ?_
      rintro e w3 ⟨rfl, hw3, hd3⟩
      have hO3 := (hw3.own nb _ _ HS.out.2.1 HS.out.2.2)
      have HS3 := Lib.hid (And.intro (HS.out.1.next hw3 hd3) hO3)
      clear C a0 hw3 hd3 hO3 HS
      have a0 := HS3.out.2.1.cell (i := 0) rfl
      have a1 := HS3.out.2.1.cell (i := 1) rfl
      have a2 := HS3.out.2.1.cell (i := 2) rfl
      have a3 := HS3.out.2.1.cell (i := 3) rfl
      have CT := Lib.hid (stepText_any ⟨1, sn, si, sv⟩ w3 HSOK.out.1)
      go_wp2_with fail
      refine CT.out.mono ?_
      rintro e w4 ⟨rfl, hb4⟩
      have HS4 := Lib.hid (HS3.out.1.all hb4)
      clear CT a0 a1 a2 a3 hb4 HS3
      have CW := Lib.hid (writeString_any HS4.out.bd (by simp; omega) (x := stpT ⟨1, sn, si, sv⟩) (by have := HSOK.out.2.2; omega) HSOK.out.2.1)
      go_wp2_with fail
      refine CW.out.mono ?_
      rintro e w5 ⟨rfl, hw5, hd5⟩
      have HS5 := Lib.hid (HS4.out.next hw5 hd5)
      clear CW hw5 hd5 HS4
      go_wp2
      go_roundg (l.length - (k + 1))
      case measure => have := HG.out; omega
      case rel => exact ⟨k + 1, by omega, rfl, by go_num, by rw [HT2.out]; exact HS5.out⟩
    by_cases h1 : sk = 1
    · subst h1
      have h0 : k = 0 := by omega
      subst h0
      have HT2 : Hid (pathT true (l.take (0 + 1)) = acc ++ stpT ⟨1, sn, si, sv⟩) := Lib.hid (by rw [HT.out, HE.out]; simp [dotT])
      clear hdot
      have CT := Lib.hid (stepText_any ⟨1, sn, si, sv⟩ V HSOK.out.1)
      have a1 := HS.out.2.1.cell (i := 1) rfl
      have a2 := HS.out.2.1.cell (i := 2) rfl
      have a3 := HS.out.2.1.cell (i := 3) rfl
      go_wp2_with fail
      refine CT.out.mono ?_
      rintro e w4 ⟨rfl, hb4⟩
      have HS4 := Lib.hid (HS.out.1.all hb4)
      clear CT a0 a1 a2 a3 hb4 HS
      have CW := Lib.hid (writeString_any HS4.out.bd (by omega) (x := stpT ⟨1, sn, si, sv⟩) (by have := HSOK.out.2.2; omega) HSOK.out.2.1)
      go_wp2_with fail
      refine CW.out.mono ?_
      rintro e w5 ⟨rfl, hw5, hd5⟩
      have HS5 := Lib.hid (HS4.out.next hw5 hd5)
      clear CW hw5 hd5 HS4
      go_wp2
      go_roundg (l.length - (0 + 1))
      case measure => have := HG.out; omega
      case rel => exact ⟨0 + 1, by omega, rfl, by go_num, by rw [HT2.out]; exact HS5.out⟩
    · have HT2 : Hid (pathT true (l.take (k + 1)) = acc ++ stpT ⟨sk, sn, si, sv⟩) := Lib.hid (by rw [HT.out, HE.out]; simp [dotT, h1])
      clear hdot
      have CT := Lib.hid (stepText_any ⟨sk, sn, si, sv⟩ V HSOK.out.1)
      have a1 := HS.out.2.1.cell (i := 1) rfl
      have a2 := HS.out.2.1.cell (i := 2) rfl
      have a3 := HS.out.2.1.cell (i := 3) rfl
      go_wp2_with fail
      refine CT.out.mono ?_
      rintro e w4 ⟨rfl, hb4⟩
      have HS4 := Lib.hid (HS.out.1.all hb4)
      clear CT a0 a1 a2 a3 hb4 HS
      have CW := Lib.hid (writeString_any HS4.out.bd (by omega) (x := stpT ⟨sk, sn, si, sv⟩) (by have := HSOK.out.2.2; omega) HSOK.out.2.1)
      go_wp2_with fail
      refine CW.out.mono ?_
      rintro e w5 ⟨rfl, hw5, hd5⟩
      have HS5 := Lib.hid (HS4.out.next hw5 hd5)
      clear CW hw5 hd5 HS4
      go_wp2
      go_roundg (l.length - (k + 1))
      case measure => have := HG.out; omega
      case rel => exact ⟨k + 1, by omega, rfl, by go_num, by rw [HT2.out]; exact HS5.out⟩
end Go.Proofs.YtjpmnlefjmdelaaGreatDoor
