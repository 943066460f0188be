/- .. the second part being one field. -/
import Derived.Test.YtmmembmohkideaaSc
namespace Go.Proofs.Ytmmembmohkideaa
open Go.RowKit Go.Sort Go.Proofs.LawFrame

set_option maxHeartbeats 8000000 in
set_option maxRecDepth 4000 in
theorem merge_two (b cap pa pm pb N : Nat) (rest : List Value) (P A S L : List FC) (z : FC) (w : World) (ho : Own w b (L.flatMap FC.cells ++ rest) 35) (hL : L = P ++ (A ++ z :: S)) (hN : L.length = N) (hn : N ≤ 1000)
    (hpa : P.length = pa) (hpm : pa + A.length = pm) (hpb : pm + 1 = pb) (hA : Srt ltF A) (hA1 : 1 < A.length) (hcap : N ≤ cap) (hcm : cap ≤ maxLen) :
    Calls Try.prog 70 #[.slice (some ⟨b, 0, none⟩) N cap, .int .i64 (pa : Int), .int .i64 (pm : Int), .int .i64 (pb : Int), .func (.func 50) #[] #[]] w fun en w' => en = .returned (.tuple #[]) ∧ But b w w' ∧ Merged b rest P A [z] S w' := by
  unfold maxLen at hcm
  have hle : pb ≤ N := by rw [hL] at hN; simp at hN; omega
  have hg1 : ((pm : Int) - pa == 1) = false := by rw [beq_eq_false_iff_ne]; omega
  have hg2 : ((pb : Int) - pm == 1) = true := by rw [beq_iff_eq]; omega
  have hy0 : L[pm]? = some z := by rw [hL, ← List.append_assoc]; exact get_mid _ _ _ (by simp; omega)
  have hAL : ∀ j, pa ≤ j → j < pm → L[j]? = A[j - pa]? := fun j h1 h2 => by
    rw [hL, List.getElem?_append_right (by omega), hpa, List.getElem?_append_left (by omega)]
  have HN := Lib.hid (And.intro hN (And.intro hL (And.intro hpa (And.intro hpm (And.intro hA (And.intro hy0 hAL))))))
  have hmb : pa ≤ pm := by omega
  clear hN hL hpa hpm hA hy0 hAL hA1
  go_enter Try.func70, Try.ntmps70
  go_wp2
  have R0 := Lib.hid ho
  clear ho
  go_loopg [14, 15] (pm - pa) (fun g s s' wr => ∃ (i j : Nat), pa ≤ i ∧ i ≤ j ∧ j ≤ pm ∧ g = j - i ∧ s = .int .i64 (i : Int) ∧ s' = .int .i64 (j : Int) ∧ But b w wr ∧ Own wr b (L.flatMap FC.cells ++ rest) 35 ∧
    Hid ((i = pa ∨ ∃ u, A[i - pa - 1]? = some u ∧ ltF z u = false) ∧ (j = pm ∨ ∃ u, A[j - pa]? = some u ∧ ltF z u = true)))
  case atStart => exact ⟨pa, pm, Nat.le_refl _, hmb, Nat.le_refl _, rfl, by go_num, by go_num, But.refl _ _, R0.out, Lib.hid ⟨Or.inl rfl, Or.inl rfl⟩⟩
  case round =>
    obtain ⟨i, j, hi, hij, hj, hg, rfl, rfl, hbt, o, HI⟩ := hrel
    have HG := Lib.hid hg
    clear hg R0
    by_cases hlt : i < j
    · obtain ⟨h, hh⟩ : ∃ h, h = (i + j) / 2 := ⟨_, rfl⟩
      have hh1 : i ≤ h ∧ h < j := by omega
      obtain ⟨hh1, hh2⟩ := hh1
      have hhi : ((i : Int) + j) / 2 = (h : Int) := by omega
      clear hh
      obtain ⟨y, hy⟩ : ∃ y, L[h]? = some y := ⟨_, List.getElem?_eq_getElem (by rw [HN.out.1]; omega)⟩
      have hyA : A[h - pa]? = some y := by rw [← HN.out.2.2.2.2.2.2 h (by omega) (by omega)]; exact hy
      have hx := HN.out.2.2.2.2.2.1
      have HX := Lib.hid hyA
      clear hyA
      generalize z = x at *
      obtain ⟨x0, x1, x2, x3, x4, x5⟩ := Own.fieldAt o hx
      obtain ⟨y0, y1, y2, y3, y4, y5⟩ := Own.fieldAt o hy
      have gx0 := cell_regrown x0
      have gx1 := cell_regrown x1
      have gx2 := cell_regrown x2
      have gx3 := cell_regrown x3
      have gx4 := cell_regrown x4
      have gx5 := cell_regrown x5
      have gy0 := cell_regrown y0
      have gy1 := cell_regrown y1
      have gy2 := cell_regrown y2
      have gy3 := cell_regrown y3
      have gy4 := cell_regrown y4
      have gy5 := cell_regrown y5
      have cB : ∀ dd os, Calls Try.prog 50 #[.agg #[sV x.x, .int .i64 x.v.k, .int .i64 x.v.n, sV x.v.s, .slice x.v.la x.v.ln x.v.lc, .slice x.v.fa x.v.fn x.v.fc], .agg #[sV y.x, .int .i64 y.v.k, .int .i64 y.v.n, sV y.v.s, .slice y.v.la y.v.ln y.v.lc, .slice y.v.fa y.v.fn y.v.fc]] (grow (redrawn wr dd) os) fun e w'' => e = .returned (.int .i64 (cmpS x.x y.x)) ∧ ∃ p : Regrown, w'' = grow (redrawn wr p.d) p.os := fun dd os => Calls.regrown_of (byName_any x y _)
      by_cases hc : cmpS x.x y.x < 0
      · have HC := Lib.hid (ltF_true hc)
        go_wp2
        refine wp_region_quiet_below (by kernel_rfl) (by kernel_rfl) ?_
        repeat (first | go_big_quiet_step ((with_reducible exact cB _ _)) | quiet_step (with_reducible exact cB _ _))
        refine wpQuiet_nil ?_
        intro _ hw'
        obtain ⟨⟨dq, osq⟩, hw''⟩ := hw'
        subst hw''
        have hb1 := hbt.all (below_regrown wr dq osq)
        have o1 := o.all (below_regrown wr dq osq)
        clear hbt o hx hy x0 x1 x2 x3 x4 x5 y0 y1 y2 y3 y4 y5 gx0 gx1 gx2 gx3 gx4 gx5 gy0 gy1 gy2 gy3 gy4 gy5 cB
        go_wp2
        go_roundg (h - i)
        case measure => have := HG.out; omega
        case rel => exact ⟨i, h, by omega, by omega, by omega, rfl, rfl, by go_num, hb1, o1, Lib.hid ⟨HI.out.1, Or.inr ⟨y, HX.out, HC.out⟩⟩⟩
      · have HC := Lib.hid (ltF_false hc)
        have HNN : Hid ((!decide (cmpS x.x y.x < 0)) = true) := Lib.hid (by simp; omega)
        go_wp2
        refine wp_region_quiet_below (by kernel_rfl) (by kernel_rfl) ?_
        repeat (first | go_big_quiet_step ((with_reducible exact cB _ _)) | quiet_step (with_reducible exact cB _ _))
        refine wpQuiet_nil ?_
        intro _ hw'
        obtain ⟨⟨dq, osq⟩, hw''⟩ := hw'
        subst hw''
        have hb1 := hbt.all (below_regrown wr dq osq)
        have o1 := o.all (below_regrown wr dq osq)
        clear hbt o hx hy x0 x1 x2 x3 x4 x5 y0 y1 y2 y3 y4 y5 gx0 gx1 gx2 gx3 gx4 gx5 gy0 gy1 gy2 gy3 gy4 gy5 cB
        rw [HNN.out]
        go_wp2
        go_roundg (j - (h + 1))
        case measure => have := HG.out; omega
        case rel => exact ⟨h + 1, j, by omega, by omega, hj, rfl, by go_num, rfl, hb1, o1, Lib.hid ⟨Or.inr ⟨y, by rw [show h + 1 - pa - 1 = h - pa by omega]; exact HX.out, HC.out⟩, HI.out.2⟩⟩
    · obtain rfl : i = j := by omega
      obtain ⟨t, ht⟩ : ∃ t, t = i - pa := ⟨_, rfl⟩
      have HM := Lib.hid (merge_last weak_field (y := z) (s := t) HN.out.2.2.2.2.1 (by
          rcases HI.out.1 with h | ⟨v, h1, h2⟩
          · exact Or.inl (by omega)
          · exact Or.inr ⟨v, by rw [ht]; exact h1, h2⟩) (by
          rcases HI.out.2 with h | ⟨v, h1, h2⟩
          · exact Or.inl (by have := HN.out.2.2.2.1; omega)
          · exact Or.inr ⟨v, by rw [ht]; exact h1, h2⟩))
      have HT : Hid (t ≤ A.length) := Lib.hid (by have := HN.out.2.2.2.1; omega)
      have HTi := Lib.hid ht
      clear ht HI HG
      go_wp2
      generalize wr = W1 at *
      have R1 := Lib.hid (And.intro hbt o)
      clear hbt o
      go_loopg [17] (pm - i) (fun g s wr => ∃ (k : Nat) (C D l' : List FC), i ≤ k ∧ k ≤ pm ∧ g = k - i ∧ s = .int .i64 (k : Int) ∧ But b w wr ∧ Own wr b (l'.flatMap FC.cells ++ rest) 35 ∧
        Hid (l'.length = N ∧ C ++ D = A.drop t ∧ k = i + C.length ∧ l' = P ++ (A.take t ++ (C ++ z :: (D ++ S)))))
      case atStart =>
        refine ⟨pm, A.drop t, [], L, hj, Nat.le_refl _, rfl, by go_num, R1.out.1, R1.out.2, Lib.hid ⟨HN.out.1, by simp, ?_, ?_⟩⟩
        · have := HN.out.2.2.2.1; have := HTi.out; simp; omega
        · rw [HN.out.2.1, ← List.append_assoc (A.take t), List.take_append_drop]; rfl
      case round =>
        obtain ⟨k, C, D, l', hk, hki, hg, rfl, hbt, o, HI⟩ := hrel
        have HG := Lib.hid hg
        clear hg R1
        by_cases hlt2 : i < k
        · obtain ⟨C', d, rfl⟩ : ∃ C' d, C = C' ++ [d] := snoc_of (by have := HI.out.2.2.1; omega)
          have hl : l' = (P ++ (A.take t ++ C')) ++ d :: ([] ++ z :: (D ++ S)) := by rw [HI.out.2.2.2]; simp
          have hkl : k - 1 = (P ++ (A.take t ++ C')).length := by
            have h1 := HI.out.2.2.1; have h2 := HTi.out; have h3 := HT.out; have h4 := HN.out.2.2.1
            simp at h1 ⊢; omega
          have hy : l'[k - 1]? = some d := by rw [hl]; exact get_mid _ _ _ hkl
          have hx : l'[k]? = some z := by rw [hl]; exact get_two _ [] _ _ _ (by simp at hkl ⊢; omega)
          have HSW : Hid ((l'.set k d).set (k - 1) z = P ++ (A.take t ++ (C' ++ z :: (d :: D ++ S)))) := Lib.hid (by
            rw [hl, swap_two' (P ++ (A.take t ++ C')) [] (D ++ S) d z hkl (by simp at hkl ⊢; omega)]; simp)
          have HL : Hid (l'.length = N) := Lib.hid HI.out.1
          have hki2 : (i : Int) < (k : Int) := by omega
          clear hl hkl
          obtain ⟨x0, x1, x2, x3, x4, x5⟩ := Own.fieldAt o hx
          obtain ⟨y0, y1, y2, y3, y4, y5⟩ := Own.fieldAt o hy
          have fx0 := o.frozen (k * 6)
          have fy0 := o.frozen ((k - 1) * 6)
          have fx1 := o.frozen (k * 6 + 1)
          have fy1 := o.frozen ((k - 1) * 6 + 1)
          have fx2 := o.frozen (k * 6 + 2)
          have fy2 := o.frozen ((k - 1) * 6 + 2)
          have fx3 := o.frozen (k * 6 + 3)
          have fy3 := o.frozen ((k - 1) * 6 + 3)
          have fx4 := o.frozen (k * 6 + 4)
          have fy4 := o.frozen ((k - 1) * 6 + 4)
          have fx5 := o.frozen (k * 6 + 5)
          have fy5 := o.frozen ((k - 1) * 6 + 5)
          have HO := Lib.hid (And.intro hbt o)
          clear hbt o hx hy
          go_wp2
          go_region
          go_wp2
          obtain ⟨hb1, o1⟩ := HO.out
          have o2 := Own.setFR (Own.setFR o1 (k := k) (by rw [HL.out]; omega) d) (k := (k - 1)) (by rw [List.length_set, HL.out]; omega) z
          have h12 := ((((((((((((hb1.set (k * 6) (sV d.x)).set (k * 6 + 1) (.int .i64 d.v.k)).set (k * 6 + 2) (.int .i64 d.v.n)).set (k * 6 + 3) (sV d.v.s)).set (k * 6 + 4) (.slice d.v.la d.v.ln d.v.lc)).set (k * 6 + 5) (.slice d.v.fa d.v.fn d.v.fc)).set ((k - 1) * 6) (sV z.x)).set ((k - 1) * 6 + 1) (.int .i64 z.v.k)).set ((k - 1) * 6 + 2) (.int .i64 z.v.n)).set ((k - 1) * 6 + 3) (sV z.v.s)).set ((k - 1) * 6 + 4) (.slice z.v.la z.v.ln z.v.lc)).set ((k - 1) * 6 + 5) (.slice z.v.fa z.v.fn z.v.fc)).drew
          go_roundg (k - 1 - i)
          case measure => have := HG.out; omega
          case rel =>
            refine ⟨k - 1, C', d :: D, (l'.set k d).set (k - 1) z, by omega, by omega, rfl, by go_num, h12, o2.drew, Lib.hid ?_⟩
            obtain ⟨h1, h2, h3, h4⟩ := HI.out
            exact ⟨by simp; exact h1, by simpa using h2, by simp at h3; omega, HSW.out⟩
        · have hge : ¬ (i : Int) < (k : Int) := by omega
          have HD : Hid (l' = P ++ ((A.take t ++ z :: A.drop t) ++ S)) := Lib.hid (by
            obtain ⟨-, h2, h3, h4⟩ := HI.out
            have e : C = [] := List.eq_nil_of_length_eq_zero (by omega)
            subst e
            rw [h4, ← h2]; simp)
          go_wp2
          refine bodyPost_ret (results_none rfl _ _ _) rfl ?_
          exact ⟨rfl, hbt, ⟨A.take t ++ z :: A.drop t, l', HD.out, by have := HT.out; simp; omega, HM.out.1, HM.out.2, o⟩⟩
end Go.Proofs.Ytmmembmohkideaa
