/- .. the second part being one field. The merge in general. The contract of the stable sort of fields. -/
import Derived.Test.YtjpmnlefjmdelaaGreatDoorMtJ
set_option linter.unusedSimpArgs false
set_option linter.unusedVariables false
namespace Go.Proofs.YtjpmnlefjmdelaaGreatDoor
open Go.RowKit Go.Sort Go.Proofs.LawFrame

set_option maxHeartbeats 8000000 in
set_option maxRecDepth 4000 in
theorem merge_two (b cap pa pm pb N : Nat) (rest : List Value) (P A S L : List FC) (z : FC) (w : World) (ho : Own w b (L.flatMap FC.cells ++ rest) 58) (hL : L = P ++ (A ++ z :: S)) (hN : L.length = N) (hn : N ≤ 4000)
    (hpa : P.length = pa) (hpm : pa + A.length = pm) (hpb : pm + 1 = pb) (hA : Srt ltF A) (hA1 : 1 < A.length) (hcap : N ≤ cap) (hcm : cap ≤ maxLen) :
    Calls Tryz.prog 212 #[.slice (some ⟨b, 0, none⟩) N cap, .int .i64 (pa : Int), .int .i64 (pm : Int), .int .i64 (pb : Int), .func (.func 183) #[] #[]] w fun en w' => en = .returned (.tuple #[]) ∧ But b w w' ∧ Merged b rest P A [z] S w' := by
  unfold maxLen at hcm
  have hle : pb ≤ N := by rw [hL] at hN; simp at hN; omega
  have hg1 : ((pm : Int) - pa == 1) = false := by rw [beq_eq_false_iff_ne]; omega
  have hg2 : ((pb : Int) - pm == 1) = true := by rw [beq_iff_eq]; omega
  have hy0 : L[pm]? = some z := by rw [hL, ← List.append_assoc]; exact get_mid _ _ _ (by simp; omega)
  have hAL : ∀ j, pa ≤ j → j < pm → L[j]? = A[j - pa]? := fun j h1 h2 => by
    rw [hL, List.getElem?_append_right (by omega), hpa, List.getElem?_append_left (by omega)]
  have HN := Lib.hid (And.intro hN (And.intro hL (And.intro hpa (And.intro hpm (And.intro hA (And.intro hy0 hAL))))))
  have hmb : pa ≤ pm := by omega
  clear hN hL hpa hpm hA hy0 hAL hA1
  go_enter Tryz.func212, Tryz.ntmps212
  go_wp2
  have R0 := Lib.hid ho
  clear ho
  go_loopg [14, 15] (pm - pa) (fun g s s' wr => ∃ (i j : Nat), pa ≤ i ∧ i ≤ j ∧ j ≤ pm ∧ g = j - i ∧ s = .int .i64 (i : Int) ∧ s' = .int .i64 (j : Int) ∧ But b w wr ∧ Own wr b (L.flatMap FC.cells ++ rest) 58 ∧
    Hid ((i = pa ∨ ∃ u, A[i - pa - 1]? = some u ∧ ltF z u = false) ∧ (j = pm ∨ ∃ u, A[j - pa]? = some u ∧ ltF z u = true)))
  case atStart => exact ⟨pa, pm, Nat.le_refl _, hmb, Nat.le_refl _, rfl, by go_num, by go_num, But.refl _ _, R0.out, Lib.hid ⟨Or.inl rfl, Or.inl rfl⟩⟩
  case round =>
    obtain ⟨i, j, hi, hij, hj, hg, rfl, rfl, hbt, o, HI⟩ := hrel
    have HG := Lib.hid hg
    clear hg R0
    by_cases hlt : i < j
    · obtain ⟨h, hh⟩ : ∃ h, h = (i + j) / 2 := ⟨_, rfl⟩
      have hh1 : i ≤ h ∧ h < j := by omega
      obtain ⟨hh1, hh2⟩ := hh1
      have hhi : ((i : Int) + j) / 2 = (h : Int) := by omega
      clear hh
      obtain ⟨y, hy⟩ : ∃ y, L[h]? = some y := ⟨_, List.getElem?_eq_getElem (by rw [HN.out.1]; omega)⟩
      have hyA : A[h - pa]? = some y := by rw [← HN.out.2.2.2.2.2.2 h (by omega) (by omega)]; exact hy
      have hx := HN.out.2.2.2.2.2.1
      have HX := Lib.hid hyA
      clear hyA
      generalize z = x at *
      obtain ⟨x0, x1, x2, x3, x4, x5⟩ := Own.fieldAt o hx
      obtain ⟨y0, y1, y2, y3, y4, y5⟩ := Own.fieldAt o hy
      have gx0 := cell_regrown x0
      have gx1 := cell_regrown x1
      have gx2 := cell_regrown x2
      have gx3 := cell_regrown x3
      have gx4 := cell_regrown x4
      have gx5 := cell_regrown x5
      have gy0 := cell_regrown y0
      have gy1 := cell_regrown y1
      have gy2 := cell_regrown y2
      have gy3 := cell_regrown y3
      have gy4 := cell_regrown y4
      have gy5 := cell_regrown y5
      have cB : ∀ dd os, Calls Tryz.prog 183 #[.agg #[sV x.x, .int .i64 x.v.k, .int .i64 x.v.n, sV x.v.s, .slice x.v.la x.v.ln x.v.lc, .slice x.v.fa x.v.fn x.v.fc], .agg #[sV y.x, .int .i64 y.v.k, .int .i64 y.v.n, sV y.v.s, .slice y.v.la y.v.ln y.v.lc, .slice y.v.fa y.v.fn y.v.fc]] (grow (redrawn wr dd) os) fun e w'' => e = .returned (.int .i64 (cmpS x.x y.x)) ∧ ∃ p : Regrown, w'' = grow (redrawn wr p.d) p.os := fun dd os => Calls.regrown_of (byName_any x y _)
      by_cases hc : cmpS x.x y.x < 0
      · have HC := Lib.hid (ltF_true hc)
        go_wp2
        refine wp_region_quiet_below (by kernel_rfl) (by kernel_rfl) ?_
        repeat (first | go_big_quiet_step ((with_reducible exact cB _ _)) | quiet_step (with_reducible exact cB _ _))
        refine wpQuiet_nil ?_
        intro _ hw'
        obtain ⟨⟨dq, osq⟩, hw''⟩ := hw'
        subst hw''
        have hb1 := hbt.all (below_regrown wr dq osq)
        have o1 := o.all (below_regrown wr dq osq)
        clear hbt o hx hy x0 x1 x2 x3 x4 x5 y0 y1 y2 y3 y4 y5 gx0 gx1 gx2 gx3 gx4 gx5 gy0 gy1 gy2 gy3 gy4 gy5 cB
        go_wp2
        go_roundg (h - i)
        case measure => have := HG.out; omega
        case rel => exact ⟨i, h, by omega, by omega, by omega, rfl, rfl, by go_num, hb1, o1, Lib.hid ⟨HI.out.1, Or.inr ⟨y, HX.out, HC.out⟩⟩⟩
      · have HC := Lib.hid (ltF_false hc)
        have HNN : Hid ((!decide (cmpS x.x y.x < 0)) = true) := Lib.hid (by simp; omega)
        go_wp2
        refine wp_region_quiet_below (by kernel_rfl) (by kernel_rfl) ?_
        repeat (first | go_big_quiet_step ((with_reducible exact cB _ _)) | quiet_step (with_reducible exact cB _ _))
        refine wpQuiet_nil ?_
        intro _ hw'
        obtain ⟨⟨dq, osq⟩, hw''⟩ := hw'
        subst hw''
        have hb1 := hbt.all (below_regrown wr dq osq)
        have o1 := o.all (below_regrown wr dq osq)
        clear hbt o hx hy x0 x1 x2 x3 x4 x5 y0 y1 y2 y3 y4 y5 gx0 gx1 gx2 gx3 gx4 gx5 gy0 gy1 gy2 gy3 gy4 gy5 cB
        rw [HNN.out]
        go_wp2
        go_roundg (j - (h + 1))
        case measure => have := HG.out; omega
        case rel => exact ⟨h + 1, j, by omega, by omega, hj, rfl, by go_num, rfl, hb1, o1, Lib.hid ⟨Or.inr ⟨y, by rw [show h + 1 - pa - 1 = h - pa by omega]; exact HX.out, HC.out⟩, HI.out.2⟩⟩
    · obtain rfl : i = j := by omega
      obtain ⟨t, ht⟩ : ∃ t, t = i - pa := ⟨_, rfl⟩
      have HM := Lib.hid (merge_last weak_field (y := z) (s := t) HN.out.2.2.2.2.1 (by
          rcases HI.out.1 with h | ⟨v, h1, h2⟩
          · exact Or.inl (by omega)
          · exact Or.inr ⟨v, by rw [ht]; exact h1, h2⟩) (by
          rcases HI.out.2 with h | ⟨v, h1, h2⟩
          · exact Or.inl (by have := HN.out.2.2.2.1; omega)
          · exact Or.inr ⟨v, by rw [ht]; exact h1, h2⟩))
      have HT : Hid (t ≤ A.length) := Lib.hid (by have := HN.out.2.2.2.1; omega)
      have HTi := Lib.hid ht
      clear ht HI HG
      go_wp2
      generalize wr = W1 at *
      have R1 := Lib.hid (And.intro hbt o)
      clear hbt o
      go_loopg [17] (pm - i) (fun g s wr => ∃ (k : Nat) (C D l' : List FC), i ≤ k ∧ k ≤ pm ∧ g = k - i ∧ s = .int .i64 (k : Int) ∧ But b w wr ∧ Own wr b (l'.flatMap FC.cells ++ rest) 58 ∧
        Hid (l'.length = N ∧ C ++ D = A.drop t ∧ k = i + C.length ∧ l' = P ++ (A.take t ++ (C ++ z :: (D ++ S)))))
      case atStart =>
        refine ⟨pm, A.drop t, [], L, hj, Nat.le_refl _, rfl, by go_num, R1.out.1, R1.out.2, Lib.hid ⟨HN.out.1, by simp, ?_, ?_⟩⟩
        · have := HN.out.2.2.2.1; have := HTi.out; simp; omega
        · rw [HN.out.2.1, ← List.append_assoc (A.take t), List.take_append_drop]; rfl
      case round =>
        obtain ⟨k, C, D, l', hk, hki, hg, rfl, hbt, o, HI⟩ := hrel
        have HG := Lib.hid hg
        clear hg R1
        by_cases hlt2 : i < k
        · obtain ⟨C', d, rfl⟩ : ∃ C' d, C = C' ++ [d] := snoc_of (by have := HI.out.2.2.1; omega)
          have hl : l' = (P ++ (A.take t ++ C')) ++ d :: ([] ++ z :: (D ++ S)) := by rw [HI.out.2.2.2]; simp
          have hkl : k - 1 = (P ++ (A.take t ++ C')).length := by
            have h1 := HI.out.2.2.1; have h2 := HTi.out; have h3 := HT.out; have h4 := HN.out.2.2.1
            simp at h1 ⊢; omega
          have hy : l'[k - 1]? = some d := by rw [hl]; exact get_mid _ _ _ hkl
          have hx : l'[k]? = some z := by rw [hl]; exact get_two _ [] _ _ _ (by simp at hkl ⊢; omega)
          have HSW : Hid ((l'.set k d).set (k - 1) z = P ++ (A.take t ++ (C' ++ z :: (d :: D ++ S)))) := Lib.hid (by
            rw [hl, swap_two' (P ++ (A.take t ++ C')) [] (D ++ S) d z hkl (by simp at hkl ⊢; omega)]; simp)
          have HL : Hid (l'.length = N) := Lib.hid HI.out.1
          have hki2 : (i : Int) < (k : Int) := by omega
          clear hl hkl
          obtain ⟨x0, x1, x2, x3, x4, x5⟩ := Own.fieldAt o hx
          obtain ⟨y0, y1, y2, y3, y4, y5⟩ := Own.fieldAt o hy
          have fx0 := o.frozen (k * 6)
          have fy0 := o.frozen ((k - 1) * 6)
          have fx1 := o.frozen (k * 6 + 1)
          have fy1 := o.frozen ((k - 1) * 6 + 1)
          have fx2 := o.frozen (k * 6 + 2)
          have fy2 := o.frozen ((k - 1) * 6 + 2)
          have fx3 := o.frozen (k * 6 + 3)
          have fy3 := o.frozen ((k - 1) * 6 + 3)
          have fx4 := o.frozen (k * 6 + 4)
          have fy4 := o.frozen ((k - 1) * 6 + 4)
          have fx5 := o.frozen (k * 6 + 5)
          have fy5 := o.frozen ((k - 1) * 6 + 5)
          have HO := Lib.hid (And.intro hbt o)
          clear hbt o hx hy
          go_wp2
          go_region
          go_wp2
          obtain ⟨hb1, o1⟩ := HO.out
          have o2 := Own.setFR (Own.setFR o1 (k := k) (by rw [HL.out]; omega) d) (k := (k - 1)) (by rw [List.length_set, HL.out]; omega) z
          have h12 := ((((((((((((hb1.set (k * 6) (sV d.x)).set (k * 6 + 1) (.int .i64 d.v.k)).set (k * 6 + 2) (.int .i64 d.v.n)).set (k * 6 + 3) (sV d.v.s)).set (k * 6 + 4) (.slice d.v.la d.v.ln d.v.lc)).set (k * 6 + 5) (.slice d.v.fa d.v.fn d.v.fc)).set ((k - 1) * 6) (sV z.x)).set ((k - 1) * 6 + 1) (.int .i64 z.v.k)).set ((k - 1) * 6 + 2) (.int .i64 z.v.n)).set ((k - 1) * 6 + 3) (sV z.v.s)).set ((k - 1) * 6 + 4) (.slice z.v.la z.v.ln z.v.lc)).set ((k - 1) * 6 + 5) (.slice z.v.fa z.v.fn z.v.fc)).drew
          go_roundg (k - 1 - i)
          case measure => have := HG.out; omega
          case rel =>
            refine ⟨k - 1, C', d :: D, (l'.set k d).set (k - 1) z, by omega, by omega, rfl, by go_num, h12, o2.drew, Lib.hid ?_⟩
            obtain ⟨h1, h2, h3, h4⟩ := HI.out
            exact ⟨by simp; exact h1, by simpa using h2, by simp at h3; omega, HSW.out⟩
        · have hge : ¬ (i : Int) < (k : Int) := by omega
          have HD : Hid (l' = P ++ ((A.take t ++ z :: A.drop t) ++ S)) := Lib.hid (by
            obtain ⟨-, h2, h3, h4⟩ := HI.out
            have e : C = [] := List.eq_nil_of_length_eq_zero (by omega)
            subst e
            rw [h4, ← h2]; simp)
          go_wp2
          refine bodyPost_ret (results_none rfl _ _ _) rfl ?_
          exact ⟨rfl, hbt, ⟨A.take t ++ z :: A.drop t, l', HD.out, by have := HT.out; simp; omega, HM.out.1, HM.out.2, o⟩⟩
end Go.Proofs.YtjpmnlefjmdelaaGreatDoor
namespace Go.Proofs.YtjpmnlefjmdelaaGreatDoor
open Go.RowKit Go.Sort Go.Proofs.LawFrame

set_option maxHeartbeats 16000000 in
set_option maxRecDepth 4000 in
theorem symMerge_any : ∀ (G b cap pa pm pb N : Nat) (rest : List Value) (P A B S L : List FC) (w : World), pb - pa ≤ G → Own w b (L.flatMap FC.cells ++ rest) 58 → L = P ++ (A ++ (B ++ S)) → L.length = N → N ≤ 4000 →
    P.length = pa → pa + A.length = pm → pm + B.length = pb → 0 < A.length → 0 < B.length → Srt ltF A → Srt ltF B → N ≤ cap → cap ≤ maxLen →
    Calls Tryz.prog 212 #[.slice (some ⟨b, 0, none⟩) N cap, .int .i64 (pa : Int), .int .i64 (pm : Int), .int .i64 (pb : Int), .func (.func 183) #[] #[]] w fun en w' => en = .returned (.tuple #[]) ∧ But b w w' ∧ Merged b rest P A B S w' := by
  intro G
  induction G with
  | zero => intro b cap pa pm pb N rest P A B S L w hG ho hL hN hn hpa hpm hpb hA0 hB0; omega
  | succ G ih =>
    intro b cap pa pm pb N rest P A B S L w hG ho hL hN hn hpa hpm hpb hA0 hB0 hA hB hcap hcm
    by_cases hA1 : A.length = 1
    · obtain ⟨z, rfl⟩ := List.length_eq_one_iff.1 hA1
      exact merge_one b cap pa pm pb N rest P B S L z w ho (by simpa using hL) hN hn hpa hpm hpb hB hcap hcm
    by_cases hB1 : B.length = 1
    · obtain ⟨z, rfl⟩ := List.length_eq_one_iff.1 hB1
      exact merge_two b cap pa pm pb N rest P A S L z w ho (by simpa using hL) hN hn hpa hpm hpb hA (by omega) hcap hcm
    have hcm' := hcm
    unfold maxLen at hcm
    have hle : pb ≤ N := by rw [hL] at hN; simp at hN; omega
    have hg1 : ((pm : Int) - pa == 1) = false := by rw [beq_eq_false_iff_ne]; omega
    have hg2 : ((pb : Int) - pm == 1) = false := by rw [beq_eq_false_iff_ne]; omega
    have hab : pa + 2 ≤ pm ∧ pm + 2 ≤ pb := by omega
    obtain ⟨hab1, hab2⟩ := hab
    have hAL : ∀ j, pa ≤ j → j < pm → L[j]? = A[j - pa]? := fun j h1 h2 => by
      rw [hL, List.getElem?_append_right (by omega), hpa, List.getElem?_append_left (by omega)]
    have hBL : ∀ j, pm ≤ j → j < pb → L[j]? = B[j - pm]? := fun j h1 h2 => by
      rw [hL, List.getElem?_append_right (by omega), hpa, List.getElem?_append_right (by omega), List.getElem?_append_left (by omega), show j - pa - A.length = j - pm by omega]
    obtain ⟨mid, hmid⟩ : ∃ mid, mid = (pa + pb) / 2 := ⟨_, rfl⟩
    have hmi : ((pa : Int) + pb) / 2 = (mid : Int) := by omega
    have hmb : pa < mid ∧ mid < pb ∧ 2 * mid ≤ pa + pb ∧ pa + pb ≤ 2 * mid + 1 := by omega
    obtain ⟨hm1, hm2, hm3, hm4⟩ := hmb
    have HN := Lib.hid (And.intro hN (And.intro hL (And.intro hpa (And.intro hpm (And.intro hpb (And.intro hA (And.intro hB (And.intro hAL (And.intro hBL hcm')))))))))
    have IH := Lib.hid ih
    have R0 := Lib.hid ho
    clear hN hL hpa hpm hpb hA hB hAL hBL hcm' hA0 hB0 hA1 hB1 ih ho hmid
    go_enter Tryz.func212, Tryz.ntmps212
    go_upto_if 140 with fail
    go_cut [20, 21] (fun s20 s21 wx => ∃ (st0 r0 : Nat), s20 = .int .i64 (st0 : Int) ∧ s21 = .int .i64 (r0 : Int) ∧ pa ≤ st0 ∧ st0 ≤ r0 ∧ r0 ≤ pm ∧ r0 ≤ mid ∧ mid + pm ≤ st0 + pb ∧ Hid ((st0 = pa ∨ st0 + pb = mid + pm) ∧ (r0 = mid ∨ r0 = pm)) ∧ wx = w)
    case first => as_aux_lemma =>
      by_cases hmm : mid < pm
      · go_wp2_with fail
        go_meet
        exact ⟨mid + pm - pb, mid, by go_num, by go_num, by omega, by omega, by omega, by omega, by omega, Lib.hid ⟨Or.inr (by omega), Or.inl rfl⟩, rfl⟩
      · go_wp2_with fail
        go_meet
        exact ⟨pa, pm, by go_num, by go_num, by omega, by omega, by omega, by omega, by omega, Lib.hid ⟨Or.inl rfl, Or.inr rfl⟩, rfl⟩
    case rest => as_aux_lemma =>
    obtain ⟨st0, r0, rfl, rfl, h1, h2, h3, h4, h5, HSR, hwc⟩ := hcut
    have hwc2 := hwc.symm
    clear hwc
    subst hwc2
    go_wp2
    go_loopg [20, 21] (r0 - st0) (fun g s20 s21 wr => ∃ (s r : Nat), st0 ≤ s ∧ s ≤ r ∧ r ≤ r0 ∧ g = r - s ∧ s20 = .int .i64 (s : Int) ∧ s21 = .int .i64 (r : Int) ∧ But b w wr ∧ Own wr b (L.flatMap FC.cells ++ rest) 58 ∧
      Hid ((s = st0 ∨ ∃ u v, A[s - pa - 1]? = some u ∧ B[mid + pm - s - pm]? = some v ∧ ltF v u = false) ∧ (r = r0 ∨ ∃ u v, A[r - pa]? = some u ∧ B[mid + pm - r - pm - 1]? = some v ∧ ltF v u = true)))
    case atStart => exact ⟨st0, r0, Nat.le_refl _, h2, Nat.le_refl _, rfl, by go_num, by go_num, But.refl _ _, R0.out, Lib.hid ⟨Or.inl rfl, Or.inl rfl⟩⟩
    case round =>
      obtain ⟨s, r, hs, hsr, hr, hg, rfl, rfl, hbt, o, HI⟩ := hrel
      have HG := Lib.hid hg
      clear hg R0
      by_cases hlt : s < r
      · as_aux_lemma =>
        obtain ⟨c, hh⟩ : ∃ c, c = (s + r) / 2 := ⟨_, rfl⟩
        have hh1 : s ≤ c ∧ c < r := by omega
        obtain ⟨hh1, hh2⟩ := hh1
        have hhi : ((s : Int) + r) / 2 = (c : Int) := by omega
        clear hh
        obtain ⟨q, hq⟩ : ∃ q, q = mid + pm - 1 - c := ⟨_, rfl⟩
        have hqi : (mid : Int) + pm - 1 - c = (q : Int) := by omega
        have hq1 : pm ≤ q ∧ q < pb := by omega
        obtain ⟨hq1, hq2⟩ := hq1
        have HQ := Lib.hid hq
        clear hq
        obtain ⟨y, hy⟩ : ∃ y, L[c]? = some y := ⟨_, List.getElem?_eq_getElem (by rw [HN.out.1]; omega)⟩
        obtain ⟨x, hx⟩ : ∃ x, L[q]? = some x := ⟨_, List.getElem?_eq_getElem (by rw [HN.out.1]; omega)⟩
        have hyA : A[c - pa]? = some y := by rw [← HN.out.2.2.2.2.2.2.2.1 c (by omega) (by omega)]; exact hy
        have hxB : B[q - pm]? = some x := by rw [← HN.out.2.2.2.2.2.2.2.2.1 q (by omega) (by omega)]; exact hx
        have HX := Lib.hid (And.intro hyA hxB)
        clear hyA hxB
        obtain ⟨x0, x1, x2, x3, x4, x5⟩ := Own.fieldAt o hx
        obtain ⟨y0, y1, y2, y3, y4, y5⟩ := Own.fieldAt o hy
        have gx0 := cell_regrown x0
        have gx1 := cell_regrown x1
        have gx2 := cell_regrown x2
        have gx3 := cell_regrown x3
        have gx4 := cell_regrown x4
        have gx5 := cell_regrown x5
        have gy0 := cell_regrown y0
        have gy1 := cell_regrown y1
        have gy2 := cell_regrown y2
        have gy3 := cell_regrown y3
        have gy4 := cell_regrown y4
        have gy5 := cell_regrown y5
        have cB : ∀ dd os, Calls Tryz.prog 183 #[.agg #[sV x.x, .int .i64 x.v.k, .int .i64 x.v.n, sV x.v.s, .slice x.v.la x.v.ln x.v.lc, .slice x.v.fa x.v.fn x.v.fc], .agg #[sV y.x, .int .i64 y.v.k, .int .i64 y.v.n, sV y.v.s, .slice y.v.la y.v.ln y.v.lc, .slice y.v.fa y.v.fn y.v.fc]] (grow (redrawn wr dd) os) fun e w'' => e = .returned (.int .i64 (cmpS x.x y.x)) ∧ ∃ p : Regrown, w'' = grow (redrawn wr p.d) p.os := fun dd os => Calls.regrown_of (byName_any x y _)
        by_cases hc : cmpS x.x y.x < 0
        · have HC := Lib.hid (ltF_true hc)
          go_wp2
          refine wp_region_quiet_below (by kernel_rfl) (by kernel_rfl) ?_
          repeat (first | go_big_quiet_step ((with_reducible exact cB _ _)) | quiet_step (with_reducible exact cB _ _))
          refine wpQuiet_nil ?_
          intro _ hw'
          obtain ⟨⟨dq, osq⟩, hw''⟩ := hw'
          subst hw''
          have hb1 := hbt.all (below_regrown wr dq osq)
          have o1 := o.all (below_regrown wr dq osq)
          clear hbt o hx hy x0 x1 x2 x3 x4 x5 y0 y1 y2 y3 y4 y5 gx0 gx1 gx2 gx3 gx4 gx5 gy0 gy1 gy2 gy3 gy4 gy5 cB
          go_wp2
          go_roundg (c - s)
          case measure => have := HG.out; omega
          case rel => exact ⟨s, c, by omega, by omega, by omega, rfl, rfl, by go_num, hb1, o1, Lib.hid ⟨HI.out.1, Or.inr ⟨y, x, HX.out.1, by have := HQ.out; rw [show mid + pm - c - pm - 1 = q - pm by omega]; exact HX.out.2, HC.out⟩⟩⟩
        · have HC := Lib.hid (ltF_false hc)
          have HNN : Hid ((!decide (cmpS x.x y.x < 0)) = true) := Lib.hid (by simp; omega)
          go_wp2
          refine wp_region_quiet_below (by kernel_rfl) (by kernel_rfl) ?_
          repeat (first | go_big_quiet_step ((with_reducible exact cB _ _)) | quiet_step (with_reducible exact cB _ _))
          refine wpQuiet_nil ?_
          intro _ hw'
          obtain ⟨⟨dq, osq⟩, hw''⟩ := hw'
          subst hw''
          have hb1 := hbt.all (below_regrown wr dq osq)
          have o1 := o.all (below_regrown wr dq osq)
          clear hbt o hx hy x0 x1 x2 x3 x4 x5 y0 y1 y2 y3 y4 y5 gx0 gx1 gx2 gx3 gx4 gx5 gy0 gy1 gy2 gy3 gy4 gy5 cB
          rw [HNN.out]
          go_wp2
          go_roundg (r - (c + 1))
          case measure => have := HG.out; omega
          case rel => exact ⟨c + 1, r, by omega, by omega, by omega, rfl, by go_num, rfl, hb1, o1, Lib.hid ⟨Or.inr ⟨y, x, by rw [show c + 1 - pa - 1 = c - pa by omega]; exact HX.out.1, by have := HQ.out; rw [show mid + pm - (c + 1) - pm = q - pm by omega]; exact HX.out.2, HC.out⟩, HI.out.2⟩⟩
      · as_aux_lemma =>
        obtain rfl : s = r := by omega
        obtain ⟨e, he⟩ : ∃ e, e = mid + pm - s := ⟨_, rfl⟩
        have hei : (mid : Int) + pm - s = (e : Int) := by omega
        have he1 : pm ≤ e ∧ e ≤ pb ∧ mid ≤ e ∧ s + e = mid + pm := by omega
        obtain ⟨he1, he2, he3, he4⟩ := he1
        -- the four parts
        obtain ⟨A1, hA1⟩ : ∃ A1, A1 = A.take (s - pa) := ⟨_, rfl⟩
        obtain ⟨A2, hA2⟩ : ∃ A2, A2 = A.drop (s - pa) := ⟨_, rfl⟩
        obtain ⟨B1, hB1⟩ : ∃ B1, B1 = B.take (e - pm) := ⟨_, rfl⟩
        obtain ⟨B2, hB2⟩ : ∃ B2, B2 = B.drop (e - pm) := ⟨_, rfl⟩
        have hlens : pa + A1.length = s ∧ A2.length = pm - s ∧ B1.length = e - pm ∧ B2.length = pb - e := by
          have q1 := HN.out.2.2.2.1; have q2 := HN.out.2.2.2.2.1
          rw [hA1, hA2, hB1, hB2]; simp; omega
        have hAA : A1 ++ A2 = A := by rw [hA1, hA2, List.take_append_drop]
        have hBB : B1 ++ B2 = B := by rw [hB1, hB2, List.take_append_drop]
        have hL : L = P ++ (A1 ++ (A2 ++ (B1 ++ (B2 ++ S)))) := by rw [HN.out.2.1, ← hAA, ← hBB]; simp
        obtain ⟨L1, hL1⟩ : ∃ L1, L1 = P ++ (A1 ++ (B1 ++ (A2 ++ (B2 ++ S)))) := ⟨_, rfl⟩
        have hS1 : Srt ltF A1 ∧ Srt ltF A2 ∧ Srt ltF B1 ∧ Srt ltF B2 := by
          rw [hA1, hA2, hB1, hB2]
          exact ⟨HN.out.2.2.2.2.2.1.take _, HN.out.2.2.2.2.2.1.drop _, HN.out.2.2.2.2.2.2.1.take _, HN.out.2.2.2.2.2.2.1.drop _⟩
        have HM := Lib.hid (fun R1 R2 s1 s2 e1 e2 => merge_halves weak_field (A := A) (B := B) (R1 := R1) (R2 := R2) (s := s - pa) (t := e - pm) HN.out.2.2.2.2.2.1 HN.out.2.2.2.2.2.2.1 (by
            rcases HI.out.1 with h | ⟨u, v, a1, a2, a3⟩
            · rcases HSR.out.1 with h' | h'
              · exact Or.inl (by omega)
              · exact Or.inr (Or.inl (by have := HN.out.2.2.2.2.1; omega))
            · exact Or.inr (Or.inr ⟨u, v, a1, by rw [he]; exact a2, a3⟩)) (by
            rcases HI.out.2 with h | ⟨u, v, a1, a2, a3⟩
            · rcases HSR.out.2 with h' | h'
              · exact Or.inr (Or.inl (by omega))
              · exact Or.inl (by have := HN.out.2.2.2.1; omega)
            · exact Or.inr (Or.inr ⟨u, v, a1, by rw [he]; exact a2, a3⟩)) s1 s2 e1 e2)
        rw [← hA1, ← hA2, ← hB1, ← hB2] at HM
        have HP := Lib.hid (And.intro hlens (And.intro hAA (And.intro hBB (And.intro hL (And.intro hL1 hS1)))))
        clear hlens hAA hBB hL hL1 hS1 hA1 hA2 hB1 hB2 he HI HG HSR
        have hsm : s ≤ pm ∧ s ≤ mid ∧ pa ≤ s := by omega
        obtain ⟨hsm1, hsm2, hsm3⟩ := hsm
        have R1 := Lib.hid (And.intro hbt o)
        clear hbt o
        obtain ⟨gR, hgR⟩ : ∃ gR : Bool, gR = (decide (s < pm) && decide (pm < e)) := ⟨_, rfl⟩
        have HgR := Lib.hid hgR
        clear hgR
        go_upto_region 39 with fail
        go_cut [185] (fun sg wx => sg = .bool gR ∧ wx = wr)
        case first => as_aux_lemma =>
          by_cases k1 : s < pm
          · by_cases k2 : pm < e
            · have K := Lib.hid (And.intro k1 k2)
              go_wp2_with fail
              go_meet
              exact ⟨by rw [HgR.out, decide_eq_true K.out.1, decide_eq_true K.out.2]; rfl, rfl⟩
            · have K := Lib.hid (And.intro k1 k2)
              go_wp2_with fail
              go_meet
              exact ⟨by rw [HgR.out, decide_eq_true K.out.1, decide_eq_false K.out.2]; rfl, rfl⟩
          · have K := Lib.hid k1
            go_wp2_with fail
            go_meet
            exact ⟨by rw [HgR.out, decide_eq_false K.out]; rfl, rfl⟩
        case rest => as_aux_lemma =>
        obtain ⟨rfl, hwc⟩ := hcut
        have hwc2 := hwc.symm
        clear hwc
        subst hwc2
        go_upto_if 185 with fail
        go_cut [20] (fun s20 wx => s20 = .int .i64 (s : Int) ∧ But b w wx ∧ Own wx b (L1.flatMap FC.cells ++ rest) 58)
        case first => as_aux_lemma =>
          cases hgR : gR
          · have HE : Hid (L = L1) := Lib.hid (by
              have h := HgR.out
              rw [hgR] at h
              obtain ⟨⟨a1, a2, a3, a4⟩, -, -, hL, hL1, -⟩ := HP.out
              rw [hL, hL1]
              by_cases k1 : s < pm
              · have k2 : ¬ pm < e := fun k2 => by rw [decide_eq_true k1, decide_eq_true k2] at h; cases h
                have : B1 = [] := List.eq_nil_of_length_eq_zero (by omega)
                subst this; simp
              · have : A2 = [] := List.eq_nil_of_length_eq_zero (by omega)
                subst this; simp)
            clear hgR
            go_wp2_with fail
            go_meet
            exact ⟨rfl, R1.out.1, by rw [← HE.out]; exact R1.out.2⟩
          · have hk : s < pm ∧ pm < e := by have h := HgR.out; rw [hgR] at h; simpa using h.symm
            obtain ⟨⟨a1, a2, a3, a4⟩, -, -, hL, hL1, -⟩ := HP.out
            have C := Lib.hid (rotate_any b cap s pm e N rest (P ++ A1) A2 B1 (B2 ++ S) L L1 wr R1.out.2 (by rw [hL]; simp) (by rw [hL1]; simp) HN.out.1 hn (by have := HN.out.2.2.1; simp; omega) (by have := HN.out.2.2.1; simp; omega) (by have := HN.out.2.2.1; simp; omega) (by omega) (by omega) hcap HN.out.2.2.2.2.2.2.2.2.2)
            clear hgR hk a1 a2 a3 a4 hL hL1
            go_wp2_with fail
            refine C.out.mono ?_
            rintro en w2 ⟨rfl, c1, c2⟩
            have HH := Lib.hid (And.intro c1 c2)
            clear c1 c2 C
            go_wp2_with fail
            go_meet
            exact ⟨rfl, R1.out.1.trans HH.out.1, HH.out.2⟩
        case rest => as_aux_lemma =>
        obtain ⟨rfl, hcb, hco⟩ := hcut
        have R2 := Lib.hid (And.intro hcb hco)
        clear hcb hco R1
        generalize wc = W2 at *
        obtain ⟨g1, hg1⟩ : ∃ g1 : Bool, g1 = (decide (pa < s) && decide (s < mid)) := ⟨_, rfl⟩
        have Hg1 := Lib.hid hg1
        clear hg1
        go_upto_region 41 with fail
        go_cut [199] (fun sg wx => sg = .bool g1 ∧ wx = W2)
        case first => as_aux_lemma =>
          by_cases k1 : pa < s
          · by_cases k2 : s < mid
            · have K := Lib.hid (And.intro k1 k2)
              go_wp2_with fail
              go_meet
              exact ⟨by rw [Hg1.out, decide_eq_true K.out.1, decide_eq_true K.out.2]; rfl, rfl⟩
            · have K := Lib.hid (And.intro k1 k2)
              go_wp2_with fail
              go_meet
              exact ⟨by rw [Hg1.out, decide_eq_true K.out.1, decide_eq_false K.out.2]; rfl, rfl⟩
          · have K := Lib.hid k1
            go_wp2_with fail
            go_meet
            exact ⟨by rw [Hg1.out, decide_eq_false K.out]; rfl, rfl⟩
        case rest => as_aux_lemma =>
        obtain ⟨rfl, hwc⟩ := hcut
        have hwc2 := hwc.symm
        clear hwc
        subst hwc2
        go_upto_if 199 with fail
        go_cut [20] (fun s20 wx => s20 = .int .i64 (s : Int) ∧ But b w wx ∧ ∃ R1 L2, Own wx b (L2.flatMap FC.cells ++ rest) 58 ∧ Hid (L2 = P ++ (R1 ++ (A2 ++ (B2 ++ S))) ∧ R1.length = A1.length + B1.length ∧ Srt ltF R1 ∧ Same FC.x (A1 ++ B1) R1))
        case first => as_aux_lemma =>
          cases hg1 : g1
          · have HE : Hid (Srt ltF (A1 ++ B1)) := Lib.hid (by
              have h := Hg1.out
              rw [hg1] at h
              obtain ⟨⟨a1, a2, a3, a4⟩, -, -, -, -, s1, s2, s3, s4⟩ := HP.out
              by_cases k1 : pa < s
              · have k2 : ¬ s < mid := fun k2 => by rw [decide_eq_true k1, decide_eq_true k2] at h; cases h
                have : B1 = [] := List.eq_nil_of_length_eq_zero (by omega)
                subst this; simpa using s1
              · have : A1 = [] := List.eq_nil_of_length_eq_zero (by omega)
                subst this; simpa using s3)
            clear hg1
            go_wp2_with fail
            go_meet
            exact ⟨rfl, R2.out.1, A1 ++ B1, L1, R2.out.2, Lib.hid ⟨by rw [HP.out.2.2.2.2.1]; simp, by simp, HE.out, Same.refl _⟩⟩
          · have hk : pa < s ∧ s < mid := by have h := Hg1.out; rw [hg1] at h; simpa using h.symm
            obtain ⟨⟨a1, a2, a3, a4⟩, -, -, hL, hL1, s1, s2, s3, s4⟩ := HP.out
            have hlen : L1.length = N := by
              have h := HN.out.1
              rw [hL] at h; rw [hL1]; simp at h ⊢; omega
            have C := Lib.hid (IH.out b cap pa s mid N rest P A1 B1 (A2 ++ (B2 ++ S)) L1 W2 (by omega) R2.out.2 hL1 hlen hn HN.out.2.2.1 (by omega) (by omega) (by omega) (by omega) s1 s3 hcap HN.out.2.2.2.2.2.2.2.2.2)
            clear hg1 hk a1 a2 a3 a4 hL hL1 s1 s2 s3 s4 hlen
            go_wp2_with fail
            refine C.out.mono ?_
            rintro en w2 ⟨rfl, c1, c2⟩
            obtain ⟨R1', L2, m1, m2, m3, m4, m5⟩ := c2.out
            have HH := Lib.hid (And.intro c1 (And.intro m5 (And.intro m1 (And.intro m2 (And.intro m3 m4)))))
            clear c1 c2 C m1 m2 m3 m4 m5
            go_wp2_with fail
            go_meet
            exact ⟨rfl, R2.out.1.trans HH.out.1, R1', L2, HH.out.2.1, Lib.hid HH.out.2.2⟩
        case rest => as_aux_lemma =>
        obtain ⟨rfl, hcb, R1', L2, hco, HR1⟩ := hcut
        have R3 := Lib.hid (And.intro hcb hco)
        clear hcb hco R2
        generalize wc = W3 at *
        obtain ⟨g2, hg2⟩ : ∃ g2 : Bool, g2 = (decide (mid < e) && decide (e < pb)) := ⟨_, rfl⟩
        have Hg2 := Lib.hid hg2
        clear hg2
        go_upto_region 43 with fail
        go_cut [213] (fun sg wx => sg = .bool g2 ∧ wx = W3)
        case first => as_aux_lemma =>
          by_cases k1 : mid < e
          · by_cases k2 : e < pb
            · have K := Lib.hid (And.intro k1 k2)
              go_wp2_with fail
              go_meet
              exact ⟨by rw [Hg2.out, decide_eq_true K.out.1, decide_eq_true K.out.2]; rfl, rfl⟩
            · have K := Lib.hid (And.intro k1 k2)
              go_wp2_with fail
              go_meet
              exact ⟨by rw [Hg2.out, decide_eq_true K.out.1, decide_eq_false K.out.2]; rfl, rfl⟩
          · have K := Lib.hid k1
            go_wp2_with fail
            go_meet
            exact ⟨by rw [Hg2.out, decide_eq_false K.out]; rfl, rfl⟩
        case rest => as_aux_lemma =>
        obtain ⟨rfl, hwc⟩ := hcut
        have hwc2 := hwc.symm
        clear hwc
        subst hwc2
        cases hg2' : g2
        · have HE : Hid (Srt ltF (A2 ++ B2)) := Lib.hid (by
            have h := Hg2.out
            rw [hg2'] at h
            obtain ⟨⟨a1, a2, a3, a4⟩, -, -, -, -, s1, s2, s3, s4⟩ := HP.out
            by_cases k1 : mid < e
            · have k2 : ¬ e < pb := fun k2 => by rw [decide_eq_true k1, decide_eq_true k2] at h; cases h
              have : B2 = [] := List.eq_nil_of_length_eq_zero (by omega)
              subst this; simpa using s2
            · have : A2 = [] := List.eq_nil_of_length_eq_zero (by omega)
              subst this; simpa using s4)
          clear hg2'
          go_wp2
          go_end0
          obtain ⟨m1, m2, m3, m4⟩ := HR1.out
          obtain ⟨⟨a1, a2, a3, a4⟩, hAA, hBB, -⟩ := HP.out
          have hM := HM.out R1' (A2 ++ B2) m3 HE.out m4 (Same.refl _)
          refine ⟨rfl, R3.out.1, ⟨R1' ++ (A2 ++ B2), L2, by rw [m1]; simp, ?_, hM.1, hM.2, R3.out.2⟩⟩
          rw [← hAA, ← hBB]; simp; omega
        · have hk : mid < e ∧ e < pb := by have h := Hg2.out; rw [hg2'] at h; simpa using h.symm
          obtain ⟨m1, m2, m3, m4⟩ := HR1.out
          obtain ⟨⟨a1, a2, a3, a4⟩, hAA, hBB, hL, hL1, s1, s2, s3, s4⟩ := HP.out
          have hlen : L2.length = N := by
            have h := HN.out.1
            rw [hL] at h; rw [m1]; simp at h ⊢; omega
          have C := Lib.hid (IH.out b cap mid e pb N rest (P ++ R1') A2 B2 S L2 W3 (by omega) R3.out.2 (by rw [m1]; simp) hlen hn (by have := HN.out.2.2.1; simp; omega) (by omega) (by omega) (by omega) (by omega) s2 s4 hcap HN.out.2.2.2.2.2.2.2.2.2)
          clear hg2' hk a1 a2 a3 a4 hL hL1 s1 s2 s3 s4 hlen m1 m2 m3 m4 hAA hBB
          go_wp2_with fail
          refine C.out.mono ?_
          rintro en w2 ⟨rfl, c1, c2⟩
          have HH := Lib.hid (And.intro c1 c2)
          clear c1 c2 C
          go_wp2
          go_end0
          obtain ⟨R2', L3, n1, n2, n3, n4, n5⟩ := HH.out.2.out
          obtain ⟨m1, m2, m3, m4⟩ := HR1.out
          obtain ⟨⟨a1, a2, a3, a4⟩, hAA, hBB, -⟩ := HP.out
          have hM := HM.out R1' R2' m3 n3 m4 n4
          refine ⟨rfl, R3.out.1.trans HH.out.1, ⟨R1' ++ R2', L3, by rw [n1]; simp, ?_, hM.1, hM.2, n5⟩⟩
          rw [← hAA, ← hBB]; simp; omega
end Go.Proofs.YtjpmnlefjmdelaaGreatDoor
namespace Go.Proofs.YtjpmnlefjmdelaaGreatDoor
open Go.RowKit Go.Sort Go.Proofs.LawFrame

structure Inserted (b : Nat) (rest : List Value) (P X S : List FC) (w' : World) : Prop where
  out : ∃ R L', L' = P ++ (R ++ S) ∧ R.length = X.length ∧ Srt ltF R ∧ Same FC.x X R ∧ Own w' b (L'.flatMap FC.cells ++ rest) 58
theorem insert_part (b cap a e N : Nat) (rest : List Value) (P X S L : List FC) (w : World) (ho : Own w b (L.flatMap FC.cells ++ rest) 58) (hL : L = P ++ (X ++ S)) (hN : L.length = N) (hn : N ≤ 4000) (ha : P.length = a) (he : a + X.length = e) (hcap : N ≤ cap) (hcm : cap ≤ maxLen) :
    Calls Tryz.prog 211 #[.slice (some ⟨b, 0, none⟩) N cap, .int .i64 (a : Int), .int .i64 (e : Int), .func (.func 183) #[] #[]] w fun en w' => en = .returned (.tuple #[]) ∧ But b w w' ∧ Inserted b rest P X S w' := by
  subst hN
  have hle : a ≤ 4000 ∧ e ≤ L.length := by rw [hL] at hn ⊢; simp at hn ⊢; omega
  refine (insertion_any b cap a e rest L w ho hn hle.1 hle.2 hcap hcm).mono ?_
  rintro en w' ⟨h1, h2, h3, -⟩
  obtain ⟨R, r1, r2, r3, r4⟩ := isort_part weak_field P X S (a := a) (e := e) ha.symm (by omega)
  rw [← hL] at r1
  exact ⟨h1, h2, ⟨R, _, r1, r2, r3, r4, h3⟩⟩

structure SortedTo (b : Nat) (rest : List Value) (L0 : List FC) (w' : World) : Prop where
  out : ∃ L', Srt ltF L' ∧ Same FC.x L0 L' ∧ L'.length = L0.length ∧ Own w' b (L'.flatMap FC.cells ++ rest) 58

set_option maxHeartbeats 8000000 in
set_option maxRecDepth 4000 in
theorem stable_any (b cap N : Nat) (rest : List Value) (L0 : List FC) (w : World) (ho : Own w b (L0.flatMap FC.cells ++ rest) 58) (hN : L0.length = N) (hn : N ≤ 4000) (hcap : N ≤ cap) (hcm : cap ≤ maxLen) :
    Calls Tryz.prog 200 #[.slice (some ⟨b, 0, none⟩) N cap, .int .i64 (N : Int), .func (.func 183) #[] #[]] w fun en w' => en = .returned (.tuple #[]) ∧ But b w w' ∧ SortedTo b rest L0 w' := by
  have HC := Lib.hid hcm
  unfold maxLen at hcm
  have HN := Lib.hid hN
  have R0 := Lib.hid ho
  clear hN ho
  go_enter Tryz.func200, Tryz.ntmps200
  go_wp2
  go_loopg [7, 8] N (fun g s s' wr => ∃ (a : Nat) (D E l' : List FC), a ≤ N ∧ g = N - a ∧ s = .int .i64 (a : Int) ∧ s' = .int .i64 ((a : Int) + 20) ∧ But b w wr ∧ Own wr b (l'.flatMap FC.cells ++ rest) 58 ∧
    Hid (l' = D ++ E ∧ D.length = a ∧ RunsE ltF 20 D ∧ Same FC.x L0 l' ∧ l'.length = N))
  case atStart => exact ⟨0, [], L0, L0, Nat.zero_le _, rfl, rfl, by go_num, But.refl _ _, R0.out, Lib.hid ⟨rfl, rfl, .nil, Same.refl _, HN.out⟩⟩
  case round =>
    obtain ⟨a, D, E, l', haN, hg, rfl, rfl, hbt, o, HI⟩ := hrel
    have HG := Lib.hid hg
    clear hg R0
    by_cases hlt : a + 20 ≤ N
    · have C := Lib.hid (insert_part b cap a (a + 20) N rest D (E.take 20) (E.drop 20) l' wr o (by rw [List.take_append_drop]; exact HI.out.1) HI.out.2.2.2.2 hn HI.out.2.1 (by
          obtain ⟨h1, h2, -, -, h5⟩ := HI.out
          rw [h1] at h5; simp at h5 ⊢; omega) hcap HC.out)
      rw [show ((a + 20 : Nat) : Int) = (a : Int) + 20 by omega] at C
      have HB := Lib.hid hbt
      have hlt2 : (a : Int) + 20 ≤ N := by omega
      clear hbt o
      go_wp2_with fail
      refine C.out.mono ?_
      rintro en w2 ⟨rfl, c1, c2⟩
      have HH := Lib.hid (And.intro c1 c2)
      clear c1 c2 C
      go_wp2
      go_roundg (N - (a + 20))
      case measure => have := HG.out; omega
      case rel =>
        obtain ⟨R, L', r1, r2, r3, r4, r5⟩ := HH.out.2.out
        obtain ⟨h1, h2, h3, h4, h5⟩ := HI.out
        have hE : 20 ≤ E.length := by rw [h1] at h5; simp at h5; omega
        have hR : R.length = 20 := by rw [r2]; simp; omega
        refine ⟨a + 20, D ++ R, E.drop 20, L', by omega, rfl, by go_num, by go_num, HB.out.trans HH.out.1, r5, Lib.hid ⟨by rw [r1]; simp, by simp; omega, .snoc h3 hR r3, ?_, ?_⟩⟩
        · refine h4.trans ?_
          rw [h1, r1]
          refine (Same.refl D).append ?_
          have : Same FC.x (E.take 20 ++ E.drop 20) (R ++ E.drop 20) := r4.append (Same.refl _)
          rwa [List.take_append_drop] at this
        · rw [r1]; rw [h1] at h5; simp at h5 ⊢; omega
    · have C := Lib.hid (insert_part b cap a N N rest D E [] l' wr o (by rw [HI.out.1]; simp) HI.out.2.2.2.2 hn HI.out.2.1 (by
          obtain ⟨h1, h2, -, -, h5⟩ := HI.out
          rw [h1] at h5; simp at h5; omega) hcap HC.out)
      have HB := Lib.hid hbt
      have hge : ¬ (a : Int) + 20 ≤ N := by omega
      clear hbt o
      go_wp2_with fail
      refine C.out.mono ?_
      rintro en w2 ⟨rfl, c1, c2⟩
      obtain ⟨R, l2, r1, r2, r3, r4, r5⟩ := c2.out
      have HJ : Hid (Runs ltF 20 l2 ∧ Same FC.x L0 l2 ∧ l2.length = N) := Lib.hid (by
        obtain ⟨h1, h2, h3, h4, h5⟩ := HI.out
        have hR : R.length ≤ 20 := by rw [h1] at h5; simp at h5; omega
        rw [r1]
        refine ⟨h3.runs (by rw [List.append_nil]; exact .last hR r3), ?_, ?_⟩
        · refine h4.trans ?_
          rw [h1, List.append_nil]
          exact (Same.refl D).append r4
        · rw [h1] at h5; simp at h5 ⊢; omega)
      have R1 := Lib.hid (And.intro (HB.out.trans c1) r5)
      clear c1 c2 C r1 r2 r3 r4 r5 HI HB
      go_wp2
      go_loopg [6] (N - 20) (fun g s wr => ∃ (bs : Nat) (l' : List FC), 20 ≤ bs ∧ bs ≤ 8000 ∧ g = N - bs ∧ s = .int .i64 (bs : Int) ∧ But b w wr ∧ Own wr b (l'.flatMap FC.cells ++ rest) 58 ∧ Hid (Runs ltF bs l' ∧ Same FC.x L0 l' ∧ l'.length = N))
      case atStart => exact ⟨20, l2, by omega, by omega, rfl, by go_num, R1.out.1, R1.out.2, HJ⟩
      case round =>
        obtain ⟨bs, l3, hb20, hb2, hg, rfl, hbt, o, HI⟩ := hrel
        have HG2 := Lib.hid hg
        clear hg R1 HJ
        by_cases hlt2 : bs < N
        case neg =>
          have hge2 : ¬ (bs : Int) < N := by omega
          go_wp2
          go_end0
          exact ⟨rfl, hbt, ⟨l3, HI.out.1.one (by have := HI.out.2.2; omega), HI.out.2.1, by rw [HI.out.2.2, HN.out], o⟩⟩
        generalize wr = W1 at *
        have R2 := Lib.hid (And.intro hbt o)
        clear hbt o
        go_wp2
        go_loopg [7, 8] N (fun g s s' wr => ∃ (a : Nat) (D E l' : List FC), a ≤ N ∧ g = N - a ∧ s = .int .i64 (a : Int) ∧ s' = .int .i64 ((a : Int) + 2 * (bs : Int)) ∧ But b w wr ∧ Own wr b (l'.flatMap FC.cells ++ rest) 58 ∧
          Hid (l' = D ++ E ∧ D.length = a ∧ RunsE ltF (2 * bs) D ∧ Runs ltF bs E ∧ Same FC.x L0 l' ∧ l'.length = N))
        case atStart => exact ⟨0, [], l3, l3, Nat.zero_le _, rfl, rfl, by go_num, R2.out.1, R2.out.2, Lib.hid ⟨rfl, rfl, .nil, HI.out.1, HI.out.2.1, HI.out.2.2⟩⟩
        case round =>
          obtain ⟨a, D, E, l', haN, hg, rfl, rfl, hbt, o, HJ⟩ := hrel
          have HG3 := Lib.hid hg
          clear hg R2 HI
          have HB := Lib.hid hbt
          by_cases hle : a + 2 * bs ≤ N
          · obtain ⟨X, Y, r, hE, hX, hY, sX, sY, hr⟩ := HJ.out.2.2.2.1.two (by
              obtain ⟨h1, h2, -, -, -, h6⟩ := HJ.out
              rw [h1] at h6; simp at h6; omega)
            have C := Lib.hid (symMerge_any _ b cap a (a + bs) (a + 2 * bs) N rest D X Y r l' wr (Nat.le_refl _) o (by rw [HJ.out.1, hE]) HJ.out.2.2.2.2.2 hn HJ.out.2.1 (by omega) (by omega) (by omega) (by omega) sX sY hcap HC.out)
            rw [show ((a + bs : Nat) : Int) = (a : Int) + bs by omega, show ((a + 2 * bs : Nat) : Int) = (a : Int) + 2 * bs by omega] at C
            have HE := Lib.hid (And.intro hE (And.intro hX (And.intro hY hr)))
            have hle2 : (a : Int) + 2 * bs ≤ N := by omega
            clear hbt o hE hX hY sX sY hr
            go_wp2_with fail
            refine C.out.mono ?_
            rintro en w2 ⟨rfl, c1, c2⟩
            have HH := Lib.hid (And.intro c1 c2)
            clear c1 c2 C
            go_wp2
            go_roundg (N - (a + 2 * bs))
            case measure => have := HG3.out; omega
            case rel =>
              obtain ⟨R, L', r1, r2, r3, r4, r5⟩ := HH.out.2.out
              obtain ⟨h1, h2, h3, h4, h5, h6⟩ := HJ.out
              obtain ⟨e1, e2, e3, e4⟩ := HE.out
              refine ⟨a + 2 * bs, D ++ R, r, L', by omega, rfl, by go_num, by go_num, HB.out.trans HH.out.1, r5, Lib.hid ⟨by rw [r1]; simp, by simp; omega, .snoc h3 (by omega) r3, e4, ?_, ?_⟩⟩
              · refine h5.trans ?_
                rw [h1, r1, e1]
                refine (Same.refl D).append ?_
                rw [← List.append_assoc]
                exact r4.append (Same.refl r)
              · rw [r1]; rw [h1, e1] at h6; simp at h6 ⊢; omega
          · have hge3 : ¬ (a : Int) + 2 * bs ≤ N := by omega
            by_cases hm : a + bs < N
            · obtain ⟨X, Y, hE, hX, sX, sY⟩ := HJ.out.2.2.2.1.rest (by
                obtain ⟨h1, h2, -, -, -, h6⟩ := HJ.out
                rw [h1] at h6; simp at h6; omega) (by
                obtain ⟨h1, h2, -, -, -, h6⟩ := HJ.out
                rw [h1] at h6; simp at h6; omega)
              have hYl : a + bs + Y.length = N := by
                obtain ⟨h1, h2, -, -, -, h6⟩ := HJ.out
                rw [h1, hE] at h6; simp at h6; omega
              have C := Lib.hid (symMerge_any _ b cap a (a + bs) N N rest D X Y [] l' wr (Nat.le_refl _) o (by rw [HJ.out.1, hE]; simp) HJ.out.2.2.2.2.2 hn HJ.out.2.1 (by omega) (by omega) (by omega) (by omega) sX sY hcap HC.out)
              rw [show ((a + bs : Nat) : Int) = (a : Int) + bs by omega] at C
              have HE := Lib.hid (And.intro hE (And.intro hX hYl))
              have hm2 : (a : Int) + bs < N := by omega
              clear hbt o hE hX sX sY hYl
              go_wp2_with fail
              refine C.out.mono ?_
              rintro en w2 ⟨rfl, c1, c2⟩
              have HH := Lib.hid (And.intro c1 c2)
              clear c1 c2 C
              go_wp2
              go_roundg (N - 2 * bs)
              case measure => have := HG2.out; omega
              case rel =>
                obtain ⟨R, L', r1, r2, r3, r4, r5⟩ := HH.out.2.out
                obtain ⟨h1, h2, h3, h4, h5, h6⟩ := HJ.out
                obtain ⟨e1, e2, e3⟩ := HE.out
                refine ⟨2 * bs, L', by omega, by omega, rfl, by go_num, HB.out.trans HH.out.1, r5, Lib.hid ⟨?_, ?_, ?_⟩⟩
                · rw [r1, List.append_nil]; exact h3.runs (.last (by omega) r3)
                · refine h5.trans ?_
                  rw [h1, r1, e1, List.append_nil]
                  exact (Same.refl D).append r4
                · rw [r1]; rw [h1, e1] at h6; simp at h6 ⊢; omega
            · have hm2 : ¬ (a : Int) + bs < N := by omega
              have R3 := Lib.hid (And.intro hbt o)
              clear hbt o
              go_wp2
              go_roundg (N - 2 * bs)
              case measure => have := HG2.out; omega
              case rel =>
                obtain ⟨h1, h2, h3, h4, h5, h6⟩ := HJ.out
                have hEl : E.length ≤ bs := by rw [h1] at h6; simp at h6; omega
                refine ⟨2 * bs, l', by omega, by omega, rfl, by go_num, R3.out.1, R3.out.2, Lib.hid ⟨?_, h5, h6⟩⟩
                rw [h1]; exact h3.runs (.last (by omega) (h4.one hEl))

set_option maxHeartbeats 400000 in
theorem sort_any (b cap N : Nat) (rest : List Value) (L0 : List FC) (w : World) (ho : Own w b (L0.flatMap FC.cells ++ rest) 58) (hN : L0.length = N) (hn : N ≤ 4000) (hcap : N ≤ cap) (hcm : cap ≤ maxLen) :
    Calls Tryz.prog 182 #[.slice (some ⟨b, 0, none⟩) N cap, .func (.func 183) #[] #[]] w fun en w' => en = .returned (.tuple #[]) ∧ But b w w' ∧ SortedTo b rest L0 w' := by
  have C := Lib.hid (stable_any b cap N rest L0 w ho hN hn hcap hcm)
  clear ho hN
  go_enter Tryz.func182, Tryz.ntmps182
  go_wp2_with fail
  refine C.out.mono ?_
  rintro e w1 ⟨rfl, h1, h2⟩
  have HH := Lib.hid (And.intro h1 h2)
  clear h1 h2 C
  go_wp2
  go_end0
  exact ⟨rfl, HH.out.1, HH.out.2⟩
end Go.Proofs.YtjpmnlefjmdelaaGreatDoor
