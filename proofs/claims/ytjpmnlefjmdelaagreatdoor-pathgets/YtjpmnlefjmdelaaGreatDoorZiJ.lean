/- The reference's cut. The reference's Remove. The law PathGets. -/
import Derived.Test.YtjpmnlefjmdelaaGreatDoorZhJ
import Derived.Test.YtjpmnlefjmdelaaGreatDoorZaJ
import Derived.Test.YtjpmnlefjmdelaaGreatDoorYrJ
import Derived.Test.YtjpmnlefjmdelaaGreatDoorCcJ
import Derived.Test.YtjpmnlefjmdelaaGreatDoorYt
import Derived.Test.YtjpmnlefjmdelaaGreatDoorXvJ
import Derived.Test.YtjpmnlefjmdelaaGreatDoorYo
import Derived.Test.YtjpmnlefjmdelaaGreatDoorYe
import Derived.Test.YtjpmnlefjmdelaaGreatDoorXzJ
import Derived.Test.YtjpmnlefjmdelaaGreatDoorYb
set_option linter.unusedSimpArgs false
set_option linter.unusedVariables false
namespace Go.Proofs.YtjpmnlefjmdelaaGreatDoor
open Go.RowKit Go.Sort Go.Proofs.LawFrame

set_option maxHeartbeats 32000000 in
set_option maxRecDepth 4000 in
theorem pcut_any : ∀ (p : List S) (v : Value) (w : World), Stps w v p → ∀ (A : Nat → Prop), (∀ b, A b → b < w.heap.size) → ∀ (c : VC) (t t' : T), IsA w A c t → remT p t = some t' → t.size ≤ 4000 → (∀ s ∈ p, stepOk s = true) →
    Calls Tryz.prog 79 #[c.val, v] w fun e w' => ∃ c' : VC, e = .returned c'.val ∧ Below w.heap.size w w' ∧ IsA w' (fun b => A b ∨ w.heap.size ≤ b) c' t' := by
  intro p
  induction p with
  | nil => intro v w hp A hA c t t' hI hr; simp [remT] at hr
  | cons s p ih =>
    intro v w hp A hA c t t' hI hr hz hall
    have IH := Lib.hid ih
    clear ih
    obtain ⟨i25, hi25, hz25, hs25, hy25⟩ := info_parts info25
    obtain ⟨i35, hi35, hz35, hs35, hy35⟩ := info_parts info35
    obtain ⟨ap, cp, rfl, hcp, hcm⟩ := Stps.form hp
    unfold maxLen at hcm
    simp only [List.length_cons] at hcp
    obtain ⟨pb, po, rfl⟩ : ∃ pb off, ap = some ⟨pb, off, none⟩ := by
      obtain ⟨ao', cap', h1, h2, h3, h4⟩ := hp.out
      cases h1
      obtain ⟨b', off', h5, -⟩ := h4 (by simp)
      exact ⟨b', off', h5⟩
    have hsz : s ∈ s :: p := by simp
    obtain ⟨i, HPL, HX⟩ : ∃ i, Hid (place s t = some i) ∧ Hid ((p = [] ∧ t' = cutAt s i t) ∨ (¬ p = [] ∧ ∃ u u', kidAt s i t = some u ∧ remT p u = some u' ∧ t' = putAt s i u' t)) := by
      cases p with
      | nil =>
        obtain ⟨i, h1, h2⟩ := remT_lone hr
        exact ⟨i, Lib.hid h1, Lib.hid (Or.inl ⟨rfl, h2⟩)⟩
      | cons s' p' =>
        obtain ⟨i, u, u', h1, h2, h3, h4⟩ := remT_more hr
        exact ⟨i, Lib.hid h1, Lib.hid (Or.inr ⟨by simp, u, u', h2, h3, h4⟩)⟩
    have HSOK := Lib.hid (hall s hsz)
    have HSI := Lib.hid (stepOk_ix (hall s hsz))
    have HALL := Lib.hid (fun q (hq : q ∈ p) => hall q (by simp [hq]))
    have HTL := Lib.hid hp.tail
    have HAA := Lib.hid hA
    have HPP := Lib.hid hp
    clear hr hall hsz hA
    obtain ⟨k, n, y, l, f⟩ := t
    have hls := size_lens (M := 4000) hz
    obtain ⟨hll, hlf⟩ := hls
    have HZ := Lib.hid hz
    clear hz
    obtain ⟨sk, sn, si, sv⟩ := s
    obtain ⟨k', n', y', la, ln, lc, fa, fn, fc⟩ := c
    obtain ⟨rfl, rfl, rfl⟩ : k = k' ∧ n = n' ∧ y = y' := ⟨hI.same.1.symm, hI.same.2.1.symm, hI.same.2.2.symm⟩
    have HC5F := Lib.hid hI.flds
    have HC5V := Lib.hid hI.vals
    show Calls Tryz.prog 79 #[.agg #[.int .i64 k, .int .i64 n, sV y, .slice la ln lc, .slice fa fn fc], .slice (some ⟨pb, po, none⟩) (p.length + 1) cp] w _
    have hb0 : Below w.heap.size w ((w.alloc (.cells #[.int .i64 k, .int .i64 n, sV y, .slice la ln lc, .slice fa fn fc] 25)).alloc (.cells #[.int .i64 0, .int .i64 0, .string ⟨#[]⟩, .slice none 0 0, .slice none 0 0] 25)) := ((Below.refl _ _).alloc (Nat.le_refl _) _).alloc (by simp) _
    have HA0 := Lib.hid (show Below w.heap.size w ((w.alloc (.cells #[.int .i64 k, .int .i64 n, sV y, .slice la ln lc, .slice fa fn fc] 25)).alloc (.cells #[.int .i64 0, .int .i64 0, .string ⟨#[]⟩, .slice none 0 0, .slice none 0 0] 25)) ∧ Own ((w.alloc (.cells #[.int .i64 k, .int .i64 n, sV y, .slice la ln lc, .slice fa fn fc] 25)).alloc (.cells #[.int .i64 0, .int .i64 0, .string ⟨#[]⟩, .slice none 0 0, .slice none 0 0] 25)) w.heap.size [.int .i64 k, .int .i64 n, sV y, .slice la ln lc, .slice fa fn fc] 25 ∧ Own ((w.alloc (.cells #[.int .i64 k, .int .i64 n, sV y, .slice la ln lc, .slice fa fn fc] 25)).alloc (.cells #[.int .i64 0, .int .i64 0, .string ⟨#[]⟩, .slice none 0 0, .slice none 0 0] 25)) (w.heap.size + 1) [.int .i64 0, .int .i64 0, .string ⟨#[]⟩, .slice none 0 0, .slice none 0 0] 25 from ⟨hb0, (Own.new _ _ _).alloc _, Own.new_at (by rw [size_alloc]) _ _⟩)
    clear hb0
    go_enter Tryz.func79, Tryz.ntmps79
    go_upto_region 1 with (fail)
    change Code.wp Tryz.prog _ _ _ ((w.alloc (.cells #[.int .i64 k, .int .i64 n, sV y, .slice la ln lc, .slice fa fn fc] 25)).alloc (.cells #[.int .i64 0, .int .i64 0, .string ⟨#[]⟩, .slice none 0 0, .slice none 0 0] 25))
    generalize ((w.alloc (.cells #[.int .i64 k, .int .i64 n, sV y, .slice la ln lc, .slice fa fn fc] 25)).alloc (.cells #[.int .i64 0, .int .i64 0, .string ⟨#[]⟩, .slice none 0 0, .slice none 0 0] 25)) = V at *
    obtain ⟨pb', po', hao', hpbl, q0, q1, q2, q3⟩ := Stps.at HPP.out HA0.out.1 (i := 0) (s := ⟨sk, sn, si, sv⟩) rfl
    cases hao'
    simp only [Nat.zero_mul, Nat.add_zero] at q0 q1 q2 q3
    have y0 := cell_regrown q0
    have y1 := cell_regrown q1
    have y2 := cell_regrown q2
    have y3 := cell_regrown q3
    have z0 := cell_regrown (HA0.out.2.1.cell (i := 0) rfl)
    have z1 := cell_regrown (HA0.out.2.1.cell (i := 1) rfl)
    have z2 := cell_regrown (HA0.out.2.1.cell (i := 2) rfl)
    have z3 := cell_regrown (HA0.out.2.1.cell (i := 3) rfl)
    have z4 := cell_regrown (HA0.out.2.1.cell (i := 4) rfl)
    have cC : ∀ dd os, Calls Tryz.prog 75 #[.agg #[.int .i64 k, .int .i64 n, sV y, .slice la ln lc, .slice fa fn fc], .agg #[.int .i64 sk, sV sn, .int .i64 si, sV sv]] (grow (redrawn V dd) os) fun e w'' => e = .returned (.int .i64 i) ∧ ∃ p : Regrown, w'' = grow (redrawn V p.d) p.os := fun dd os => by
      have h := pfind_any ⟨k, n, y, la, ln, lc, fa, fn, fc⟩ (.mk k n y l f) ⟨sk, sn, si, sv⟩ _ ((hI.is.all HA0.out.1).all (below_regrown V dd os)) HSOK.out
      rw [HPL.out] at h
      exact Calls.regrown_of h
    clear q0 q1 q2 q3
    refine wp_region_quiet_below (by kernel_rfl) (by kernel_rfl) ?_
    repeat (first | go_big_quiet_step ((with_reducible exact cC _ _)) | quiet_step (with_reducible exact cC _ _))
    refine wpQuiet_nil ?_
    intro _ hw'
    obtain ⟨⟨dq, osq⟩, hw''⟩ := hw'
    subst hw''
    have hbq := below_regrown V dq osq
    have HA := Lib.hid (And.intro (below_all HA0.out.1 hbq) (And.intro (HA0.out.2.1.all hbq) (HA0.out.2.2.all hbq)))
    clear z0 z1 z2 z3 z4 y0 y1 y2 y3 cC HA0 hbq
    generalize grow (redrawn V dq) osq = Wa at *
    obtain ⟨pb', po', hao', -, q0, -, -, -⟩ := Stps.at HPP.out HA.out.1 (i := 0) (s := ⟨sk, sn, si, sv⟩) rfl
    cases hao'
    simp only [Nat.zero_mul, Nat.add_zero] at q0
    by_cases h1 : sk = 1
    · subst h1
      have HC5 := HC5F
      have hfl := hI.flds
      have hoth := hI.vals
      obtain ⟨cs, hcl, hfa, hnm, hki⟩ := hfl.out
      obtain ⟨ao, cap, he0, hle, hlm, hat⟩ := hfa.out
      have hlm2 := hlm
      unfold maxLen at hlm2
      simp only [Value.slice.injEq] at he0
      obtain ⟨rfl, rfl, rfl⟩ := he0
      have hlt : i < f.length := by have := place_lt HSI.out.1 HPL.out; simpa only [if_true] using this
      obtain ⟨b, off, rfl, hbl, -, hcell⟩ := hat (by omega)
      have HLT := Lib.hid hlt
      have HC := Lib.hid (And.intro hcell (And.intro trivial (And.intro hki (And.intro hcl (And.intro hoth hnm)))))
      have hbA := below_alloc Wa (.cells #[] 58)
      have HB := Lib.hid (And.intro (below_all HA.out.1 hbA) (And.intro (HA.out.2.1.all hbA) (HA.out.2.2.all hbA)))
      have hWs := HA.out.2.2.lt
      have hrow := row_lit0 (base := w.heap.size + 2) (e := 58) (size := 6) (Own.new Wa [] 58) (by omega)
      have hbs : (Wa.alloc (.cells #[] 58)).heap.size = Wa.heap.size + 1 := size_alloc _ _
      have hsrc := cells_part FC.cells (m := 6) (fun _ => rfl) HC.out.1 HB.out.1 hbl 0 i
      rw [Nat.zero_mul, Nat.add_zero, List.drop_zero] at hsrc
      have z4 := HB.out.2.1.cell (i := 4) rfl
      have za4 := HA.out.2.1.cell (i := 4) rfl
      have hic : i ≤ fc := by omega
      clear hfl hoth hcl hfa hki hat hcell hnm hI
      go_upto_region 4 with (first | (at_builtin; refine wpList_append_own _ rfl (.tmp 18) (.tmp 22) 23 rfl (w.heap.size + 2) 58 i35 (.agg #[.string ⟨#[]⟩, .int .i64 0, .int .i64 0, .string ⟨#[]⟩, .slice none 0 0, .slice none 0 0]) 6 96 Tryz.underlying23 hi35 hz35 hs35 hy35 rfl (by decide) _ _ _ rfl hrow ⟨b, off, none⟩ i fc ((cs.take i).flatMap FC.cells) rfl (by rw [cells_len FC.cells (m := 6) (fun _ => rfl), List.length_take]; congr 1; have := HC.out.2.2.2.1; have := HLT.out; omega) hsrc (one_all FC.cells six_one' _) (by unfold maxLen; omega) (by omega) (by omega) ?_; intro v1 w1 hown1 hgrow1 hnil1))
      rw [Nat.zero_add, List.nil_append] at hown1
      have hb1 := below_rowq HB.out.1 hgrow1 (fun k hk => by have := own_row hrow k hk; omega)
      have HB1 := Lib.hid (And.intro hb1 (And.intro (own_kept' HB.out.2.1 hgrow1 (fun e => by have := own_row hrow _ e; omega)) (own_kept' HB.out.2.2 hgrow1 (fun e => by have := own_row hrow _ e; omega))))
      obtain ⟨ao1, cap1, hu1, -, -, -⟩ := (Flat.of_own hown1).out
      subst hu1
      have hs1 := HB1.out.2.2.lt
      clear hgrow1 hnil1 hsrc hbA hrow HB z4 za4 hb1 HA hbs q0
      rcases HX.out with ⟨hp0, hT⟩ | ⟨hp0, u, uN, hku, hru, hT⟩
      · subst hp0
        have HT : Hid (t' = .mk k n y l (f.eraseIdx i)) := Lib.hid (by rw [hT]; simp only [cutAt, if_true])
        have HPT := Lib.hid (show cs.take i ++ (cs.drop (i + 1)).take (f.length - (i + 1)) = cs.eraseIdx i from by have h := erase_parts (l := cs) (i := i) (by have := HC.out.2.2.2.1; have := HLT.out; omega); rw [HC.out.2.2.2.1] at h; exact h)
        have HB2 := HB1
        clear hT HB1 IH
        simp only [List.length_nil, Nat.zero_add] at *
        have z4 := HB2.out.2.1.cell (i := 4) rfl
        have hsrc3 := cells_part FC.cells (m := 6) (fun _ => rfl) HC.out.1 HB2.out.1 hbl (i + 1) (f.length - (i + 1))
        have hnl3 : (((cs.drop (i + 1)).take (f.length - (i + 1))).flatMap FC.cells).length = (f.length - (i + 1)) * 6 := by
          rw [cells_len FC.cells (m := 6) (fun _ => rfl), List.length_take, List.length_drop]; congr 1; have := HC.out.2.2.2.1; omega
        have hs2 := HB2.out.2.2.lt
        by_cases hcap : fc = i + 1
        · have hm0 : f.length - (i + 1) = 0 := by have := HLT.out; omega
          subst hcap
          go_upto_region 7 with (first | (at_builtin; refine wpList_append_own _ rfl (.tmp 46) (.tmp 51) 23 rfl (w.heap.size + 2) 58 i35 (.agg #[.string ⟨#[]⟩, .int .i64 0, .int .i64 0, .string ⟨#[]⟩, .slice none 0 0, .slice none 0 0]) 6 96 Tryz.underlying23 hi35 hz35 hs35 hy35 rfl (by decide) _ _ _ rfl hown1 ⟨b, off, none⟩ 0 0 [] rfl rfl (fun j u h => by simp at h) (fun u h => by cases h) (by unfold maxLen; omega) (by omega) (by omega) ?_; intro v3 w3 hown3 hgrow3 hnil3))
          rw [List.append_nil] at hown3
          have hb3 := below_rowq HB2.out.1 hgrow3 (fun k hk => by have := own_row hown1 k hk; omega)
          have HB3 := Lib.hid (And.intro hb3 (And.intro (own_kept' HB2.out.2.1 hgrow3 (fun e => by have := own_row hown1 _ e; omega)) (own_kept' HB2.out.2.2 hgrow3 (fun e => by have := own_row hown1 _ e; omega))))
          obtain ⟨ao3, cap3, hu3, -, -, -⟩ := (Flat.of_own hown3).out
          subst hu3
          obtain ⟨n3, hn3⟩ : ∃ q, i + 0 = q := ⟨_, rfl⟩
          rw [hn3] at hown3
          have hpt := HPT.out
          rw [hm0, List.take_zero, List.append_nil] at hpt
          rw [hpt] at hown3
          have hnew := fldsA_erase (i := i) (FlatA.of_own (A := (fun b => A b ∨ w.heap.size + 2 ≤ b)) hown3 (fun b h => Or.inr h)) (by rw [List.length_eraseIdx, if_pos HLT.out]; omega) HC.out.2.2.2.1 (fun j x u h1 h2 => HC.out.2.2.2.2.2 j x u h1 h2) (fun j x u h1 h2 => (HC.out.2.2.1 j x u h1 h2).keep hb3.size (fun b h => Or.inl h) (fun b _ hlt => hb3.block b hlt))
          have HI3 := Lib.hid (show IsA w3 (fun b => A b ∨ w.heap.size + 2 ≤ b) _ t' from HT.out ▸ IsA.of (c := ⟨k, n, y, la, ln, lc, ao3, n3, cap3⟩) (HC.out.2.2.2.2.1.all hb3 (fun b h => Or.inl h)) hnew)
          clear hnew hb3 hown3 hgrow3 hnil3 HB2 hsrc3 hnl3 z4 hown1 HC
          have HS := Lib.hid (show Below w.heap.size w (w3.setCell ⟨w.heap.size, 4, none⟩ (.slice ao3 n3 cap3)) ∧ Own (w3.setCell ⟨w.heap.size, 4, none⟩ (.slice ao3 n3 cap3)) w.heap.size [.int .i64 k, .int .i64 n, sV y, .slice la ln lc, .slice ao3 n3 cap3] 25 ∧ Own (w3.setCell ⟨w.heap.size, 4, none⟩ (.slice ao3 n3 cap3)) (w.heap.size + 1) [.int .i64 0, .int .i64 0, .string ⟨#[]⟩, .slice none 0 0, .slice none 0 0] 25 ∧ IsA (w3.setCell ⟨w.heap.size, 4, none⟩ (.slice ao3 n3 cap3)) (fun b => A b ∨ w.heap.size + 2 ≤ b) ⟨k, n, y, la, ln, lc, ao3, n3, cap3⟩ t' from ⟨below_set HB3.out.1 (Nat.le_refl _) _, HB3.out.2.1.set 4 _, HB3.out.2.2.set_ne (by omega) 4 _, IsA.set HI3.out (fun h => by rcases h with h | h; have := HAA.out _ h; omega; omega) _ _⟩)
          have z4 := HB3.out.2.1.cell (i := 4) rfl
          have y0 := HB3.out.2.1.frozen 4
          clear HI3
          go_upto_region 8 with (fail)
          change Code.wp Tryz.prog _ _ _ (w3.setCell ⟨w.heap.size, 4, none⟩ (.slice ao3 n3 cap3))
          clear y0 z4 HB3
          generalize w3.setCell ⟨w.heap.size, 4, none⟩ (.slice ao3 n3 cap3) = W4 at *
          have x0 := HS.out.2.1.cell (i := 0) rfl
          have x1 := HS.out.2.1.cell (i := 1) rfl
          have x2 := HS.out.2.1.cell (i := 2) rfl
          have x3 := HS.out.2.1.cell (i := 3) rfl
          have x4 := HS.out.2.1.cell (i := 4) rfl
          have oFin := HS.out.2.2.1
          have q0 := oFin.cell (i := 0) rfl
          have q1 := oFin.cell (i := 1) rfl
          have q2 := oFin.cell (i := 2) rfl
          have q3 := oFin.cell (i := 3) rfl
          have q4 := oFin.cell (i := 4) rfl
          have g0 := oFin.frozen 0
          have g1 := oFin.frozen 1
          have g2 := oFin.frozen 2
          have g3 := oFin.frozen 3
          have g4 := oFin.frozen 4
          have HU := Lib.hid (And.intro (own_put5 oFin (.int .i64 k) (.int .i64 n) (sV y) (.slice la ln lc) (.slice ao3 n3 cap3)) (And.intro (below_put5 (b := w.heap.size + 1) HS.out.1 (by omega) (.int .i64 k) (.int .i64 n) (sV y) (.slice la ln lc) (.slice ao3 n3 cap3)) (HS.out.2.2.2.put5 (b := w.heap.size + 1) (fun h => by rcases h with h | h; have := HAA.out _ h; omega; omega) (.int .i64 k) (.int .i64 n) (sV y) (.slice la ln lc) (.slice ao3 n3 cap3))))
          clear oFin
          go_wp2
          clear q0 q1 q2 q3 q4 g0 g1 g2 g3 g4
          change bodyPost Tryz.prog Tryz.f79 _ _ _ (put5 W4 (w.heap.size + 1) (.int .i64 k) (.int .i64 n) (sV y) (.slice la ln lc) (.slice ao3 n3 cap3))
          generalize put5 W4 (w.heap.size + 1) (.int .i64 k) (.int .i64 n) (sV y) (.slice la ln lc) (.slice ao3 n3 cap3) = U at *
          have c0 := HU.out.1.cell (i := 0) rfl
          have c1 := HU.out.1.cell (i := 1) rfl
          have c2 := HU.out.1.cell (i := 2) rfl
          have c3 := HU.out.1.cell (i := 3) rfl
          have c4 := HU.out.1.cell (i := 4) rfl
          exact bodyPost_ret (v := .agg #[.int .i64 k, .int .i64 n, sV y, .slice la ln lc, .slice ao3 n3 cap3]) (by simp [results, Tryz.results79, go_sem, c0, c1, c2, c3, c4]) rfl ⟨⟨k, n, y, la, ln, lc, ao3, n3, cap3⟩, rfl, HU.out.2.1, HU.out.2.2.mono (fun b hb => by rcases hb with h | h; exact Or.inl h; exact Or.inr (by omega))⟩
        · go_upto_region 7 with (first | (at_builtin; refine wpList_append_own _ rfl (.tmp 46) (.tmp 51) 23 rfl (w.heap.size + 2) 58 i35 (.agg #[.string ⟨#[]⟩, .int .i64 0, .int .i64 0, .string ⟨#[]⟩, .slice none 0 0, .slice none 0 0]) 6 96 Tryz.underlying23 hi35 hz35 hs35 hy35 rfl (by decide) _ _ _ rfl hown1 ⟨b, off + (i + 1) * 6, none⟩ (f.length - (i + 1)) (fc - (i + 1)) (((cs.drop (i + 1)).take (f.length - (i + 1))).flatMap FC.cells) rfl hnl3 hsrc3 (one_all FC.cells six_one' _) (by unfold maxLen; omega) (by omega) (by omega) ?_; intro v3 w3 hown3 hgrow3 hnil3))
          rw [← List.flatMap_append] at hown3
          have hb3 := below_rowq HB2.out.1 hgrow3 (fun k hk => by have := own_row hown1 k hk; omega)
          have HB3 := Lib.hid (And.intro hb3 (And.intro (own_kept' HB2.out.2.1 hgrow3 (fun e => by have := own_row hown1 _ e; omega)) (own_kept' HB2.out.2.2 hgrow3 (fun e => by have := own_row hown1 _ e; omega))))
          obtain ⟨ao3, cap3, hu3, -, -, -⟩ := (Flat.of_own hown3).out
          subst hu3
          obtain ⟨n3, hn3⟩ : ∃ q, i + (f.length - (i + 1)) = q := ⟨_, rfl⟩
          rw [hn3] at hown3
          rw [HPT.out] at hown3
          have hnew := fldsA_erase (i := i) (FlatA.of_own (A := (fun b => A b ∨ w.heap.size + 2 ≤ b)) hown3 (fun b h => Or.inr h)) (by rw [List.length_eraseIdx, if_pos HLT.out]; omega) HC.out.2.2.2.1 (fun j x u h1 h2 => HC.out.2.2.2.2.2 j x u h1 h2) (fun j x u h1 h2 => (HC.out.2.2.1 j x u h1 h2).keep hb3.size (fun b h => Or.inl h) (fun b _ hlt => hb3.block b hlt))
          have HI3 := Lib.hid (show IsA w3 (fun b => A b ∨ w.heap.size + 2 ≤ b) _ t' from HT.out ▸ IsA.of (c := ⟨k, n, y, la, ln, lc, ao3, n3, cap3⟩) (HC.out.2.2.2.2.1.all hb3 (fun b h => Or.inl h)) hnew)
          clear hnew hb3 hown3 hgrow3 hnil3 HB2 hsrc3 hnl3 z4 hown1 HC
          have HS := Lib.hid (show Below w.heap.size w (w3.setCell ⟨w.heap.size, 4, none⟩ (.slice ao3 n3 cap3)) ∧ Own (w3.setCell ⟨w.heap.size, 4, none⟩ (.slice ao3 n3 cap3)) w.heap.size [.int .i64 k, .int .i64 n, sV y, .slice la ln lc, .slice ao3 n3 cap3] 25 ∧ Own (w3.setCell ⟨w.heap.size, 4, none⟩ (.slice ao3 n3 cap3)) (w.heap.size + 1) [.int .i64 0, .int .i64 0, .string ⟨#[]⟩, .slice none 0 0, .slice none 0 0] 25 ∧ IsA (w3.setCell ⟨w.heap.size, 4, none⟩ (.slice ao3 n3 cap3)) (fun b => A b ∨ w.heap.size + 2 ≤ b) ⟨k, n, y, la, ln, lc, ao3, n3, cap3⟩ t' from ⟨below_set HB3.out.1 (Nat.le_refl _) _, HB3.out.2.1.set 4 _, HB3.out.2.2.set_ne (by omega) 4 _, IsA.set HI3.out (fun h => by rcases h with h | h; have := HAA.out _ h; omega; omega) _ _⟩)
          have z4 := HB3.out.2.1.cell (i := 4) rfl
          have y0 := HB3.out.2.1.frozen 4
          clear HI3
          go_upto_region 8 with (fail)
          change Code.wp Tryz.prog _ _ _ (w3.setCell ⟨w.heap.size, 4, none⟩ (.slice ao3 n3 cap3))
          clear y0 z4 HB3
          generalize w3.setCell ⟨w.heap.size, 4, none⟩ (.slice ao3 n3 cap3) = W4 at *
          have x0 := HS.out.2.1.cell (i := 0) rfl
          have x1 := HS.out.2.1.cell (i := 1) rfl
          have x2 := HS.out.2.1.cell (i := 2) rfl
          have x3 := HS.out.2.1.cell (i := 3) rfl
          have x4 := HS.out.2.1.cell (i := 4) rfl
          have oFin := HS.out.2.2.1
          have q0 := oFin.cell (i := 0) rfl
          have q1 := oFin.cell (i := 1) rfl
          have q2 := oFin.cell (i := 2) rfl
          have q3 := oFin.cell (i := 3) rfl
          have q4 := oFin.cell (i := 4) rfl
          have g0 := oFin.frozen 0
          have g1 := oFin.frozen 1
          have g2 := oFin.frozen 2
          have g3 := oFin.frozen 3
          have g4 := oFin.frozen 4
          have HU := Lib.hid (And.intro (own_put5 oFin (.int .i64 k) (.int .i64 n) (sV y) (.slice la ln lc) (.slice ao3 n3 cap3)) (And.intro (below_put5 (b := w.heap.size + 1) HS.out.1 (by omega) (.int .i64 k) (.int .i64 n) (sV y) (.slice la ln lc) (.slice ao3 n3 cap3)) (HS.out.2.2.2.put5 (b := w.heap.size + 1) (fun h => by rcases h with h | h; have := HAA.out _ h; omega; omega) (.int .i64 k) (.int .i64 n) (sV y) (.slice la ln lc) (.slice ao3 n3 cap3))))
          clear oFin
          go_wp2
          clear q0 q1 q2 q3 q4 g0 g1 g2 g3 g4
          change bodyPost Tryz.prog Tryz.f79 _ _ _ (put5 W4 (w.heap.size + 1) (.int .i64 k) (.int .i64 n) (sV y) (.slice la ln lc) (.slice ao3 n3 cap3))
          generalize put5 W4 (w.heap.size + 1) (.int .i64 k) (.int .i64 n) (sV y) (.slice la ln lc) (.slice ao3 n3 cap3) = U at *
          have c0 := HU.out.1.cell (i := 0) rfl
          have c1 := HU.out.1.cell (i := 1) rfl
          have c2 := HU.out.1.cell (i := 2) rfl
          have c3 := HU.out.1.cell (i := 3) rfl
          have c4 := HU.out.1.cell (i := 4) rfl
          exact bodyPost_ret (v := .agg #[.int .i64 k, .int .i64 n, sV y, .slice la ln lc, .slice ao3 n3 cap3]) (by simp [results, Tryz.results79, go_sem, c0, c1, c2, c3, c4]) rfl ⟨⟨k, n, y, la, ln, lc, ao3, n3, cap3⟩, rfl, HU.out.2.1, HU.out.2.2.mono (fun b hb => by rcases hb with h | h; exact Or.inl h; exact Or.inr (by omega))⟩
      have hpos : 0 < p.length := by
        rcases p with _ | ⟨s', p'⟩
        · exact absurd rfl hp0
        · simp
      obtain ⟨pr, hpr⟩ : ∃ pr, f[i]? = some pr := ⟨_, List.getElem?_eq_getElem HLT.out⟩
      have HT : Hid (t' = .mk k n y l (f.set i (pr.1, uN))) := Lib.hid (by rw [hT]; simp only [putAt, if_true, hpr])
      obtain rfl : pr.2 = u := by simp only [kidAt, if_true, hpr, Option.map_some] at hku; exact Option.some.inj hku
      obtain ⟨b', off', ⟨ek, en, es, ela, eln, elc, efa, efn, efc⟩, hao', -, hIe, q5, q0, q1, q2, q3, q4⟩ := (show FldsA w A (.slice (some ⟨b, off, none⟩) f.length fc) f from HC5.out).at HB1.out.1 hpr
      cases hao'
      have HIE := Lib.hid (And.intro hIe (And.intro hru (show (pr.2).size ≤ 4000 from Int.le_trans (size_in_f (k := k) (n := n) (s := y) (l := l) (List.mem_of_getElem? hpr)) HZ.out)))

      have z := HB1.out.2.1.cell (i := 4) rfl
      clear hT hku hru hpr hIe
      go_upto_region 5 with (fail)
      have zg := cell_regrown z
      have q5g := cell_regrown q5
      have q0g := cell_regrown q0
      have q1g := cell_regrown q1
      have q2g := cell_regrown q2
      have q3g := cell_regrown q3
      have q4g := cell_regrown q4
      clear z q5 q0 q1 q2 q3 q4
      refine wp_region_multi 18 (fun i => i == 15 || i == 17) (fun i' xs u w' => (i' = 15 → ∃ c' : VC, u = c'.val ∧ IsA w' (fun b => A b ∨ w1.heap.size ≤ b) c' uN) ∧ (i' = 17 → ∃ (c2 : VC) (b : Nat), xs = [.agg #[sV pr.1, .int .i64 c2.k, .int .i64 c2.n, sV c2.s, .slice c2.la c2.ln c2.lc, .slice c2.fa c2.fn c2.fc]] ∧ u = .slice (some ⟨b, 0, none⟩) 1 1 ∧ w1.heap.size ≤ b ∧ Own w' b (FC.cells ⟨pr.1, c2⟩) 58))
        (fun i u => (i = 15 → ∃ c' : VC, u = c'.val) ∧ (i = 17 → ∃ b, u = .slice (some ⟨b, 0, none⟩) 1 1)) (by kernel_rfl) (by kernel_rfl)
        (fun i xs u w1 w2 h hb => ⟨fun e => by obtain ⟨c', a1, a2⟩ := h.1 e; exact ⟨c', a1, a2.all hb⟩, fun e => by obtain ⟨c2, b, a1, a2, a3, a4⟩ := h.2 e; exact ⟨c2, b, a1, a2, a3, a4.all hb⟩⟩)
        (fun i => by
          by_cases e : i = 15
          · exact ⟨VC0.val, fun _ => ⟨VC0, rfl⟩, fun e' => by omega⟩
          · exact ⟨.slice (some ⟨0, 0, none⟩) 1 1, fun e' => absurd e' e, fun _ => ⟨0, rfl⟩⟩) ?_
      simp only [List.take_succ_cons, List.take_zero, List.drop_succ_cons, List.drop_zero]
      refine wpM_stretch 15 rfl rfl rfl rfl ?_
      simp only [List.take_succ_cons, List.take_zero, List.drop_succ_cons, List.drop_zero]
      repeat (first | go_big_quiet_step (fail) | quiet_step (fail))
      refine wpQuiet_nil ?_
      refine wpM_dem rfl rfl rfl ?_ ?_
      · rintro _ ⟨pp, rfl⟩
        go_simp
        simp only [demUpon]
        have hbp := below_all HB1.out.1 (below_regrown w1 pp.d pp.os)
        have hsz := (below_regrown w1 pp.d pp.os).size
        refine ⟨trivial, (IH.out _ _ (Flat.all HTL.out hbp) A (fun b hb => by have := HAA.out b hb; omega) ⟨ek, en, es, ela, eln, elc, efa, efn, efc⟩ pr.2 uN (HIE.out.1.all (below_regrown w1 pp.d pp.os)) HIE.out.2.1 HIE.out.2.2 HALL.out).mono ?_⟩
        rintro e w2 ⟨c', rfl, hb2, hN⟩
        exact ⟨_, rfl, ⟨c', rfl⟩, hb2, c', rfl, hN.mono (fun b hb => by rcases hb with h | h; exact Or.inl h; exact Or.inr (by omega))⟩
      rintro u hu
      obtain ⟨cN, rfl⟩ := hu.1 rfl
      clear hu
      refine wpM_stretch 1 rfl rfl rfl rfl ?_
      simp only [List.take_succ_cons, List.take_zero, List.drop_succ_cons, List.drop_zero]
      repeat (first | go_big_quiet_step (fail) | quiet_step (fail))
      refine wpQuiet_nil ?_
      refine wpM_dem rfl rfl rfl ?_ ?_
      · rintro _ ⟨pp, rfl⟩
        have hsz := (below_regrown w1 pp.d pp.os).size
        go_simp
        simp only [demUpon]
        exact ⟨⟨_, rfl⟩, below_alloc _ _, cN, rfl, _, rfl, by first | omega | (simp [redrawn]; done) | (simp [redrawn, grow]; omega), Own.new_at (by simp [grow]) _ _⟩
      rintro u hu
      obtain ⟨b8, rfl⟩ := hu.2 rfl
      clear hu
      refine wpM_end ?_
      rintro U hbU ⟨⟨-, hV7⟩, hV8⟩
      obtain ⟨c2, he2, hN⟩ := hV7.1 (by first | rfl | trivial)
      obtain ⟨c3, b', hx3, hu3, hlo, oS⟩ := hV8.2 (by first | rfl | trivial)
      obtain rfl := VC.val_inj he2
      have hx4 : ([.agg #[sV pr.1, .int .i64 cN.k, .int .i64 cN.n, sV cN.s, .slice cN.la cN.ln cN.lc, .slice cN.fa cN.fn cN.fc]] : List Value) = [.agg #[sV pr.1, .int .i64 c3.k, .int .i64 c3.n, sV c3.s, .slice c3.la c3.ln c3.lc, .slice c3.fa c3.fn c3.fc]] := hx3
      obtain rfl : cN = c3 := aggF_inj hx4
      obtain rfl : b8 = b' := by simpa using hu3
      clear hV7 hV8 he2 hx3 hx4 hu3 zg q5g q0g q1g q2g q3g q4g
      have hUs := hbU.size
      have hrowU := own_below hown1 hbU
      have hrlt : ∀ k, (Value.slice ao1 i cap1).ownBlock = some k → w.heap.size + 2 ≤ k ∧ k < w1.heap.size := fun k h => ⟨own_row hown1 k h, (hown1.lt k h).2⟩
      have hbU2 := below_all HB1.out.1 hbU
      have HBU := Lib.hid (And.intro hbU2 (And.intro (HB1.out.2.1.all hbU) (HB1.out.2.2.all hbU)))
      have HN := Lib.hid hN.lt
      clear hN hbU hown1 HB1 hbU2
      go_upto_region 6 with (at_builtin; refine wpList_append_lies _ rfl (.tmp 27) (.tmp 44) 23 rfl (w.heap.size + 2) 58 i35 (.agg #[.string ⟨#[]⟩, .int .i64 0, .int .i64 0, .string ⟨#[]⟩, .slice none 0 0, .slice none 0 0]) 6 96 Tryz.underlying23 hi35 hz35 hs35 hy35 rfl (by decide) _ _ _ rfl hrowU ⟨b8, 0, none⟩ 1 1 (FC.cells ⟨pr.1, cN⟩) rfl rfl (own_src oS) (six_one' ⟨pr.1, cN⟩) (by decide) (by unfold maxLen; omega) (by omega) (by omega) _ rfl ?_; intro gg gcap w2 hown2 hgrow2 hlies hglt)
      have hK2 : IsA w2 (fun b => (A b ∨ w1.heap.size ≤ b) ∧ b < U.heap.size) cN uN := HN.out.keep hgrow2.size (fun b h => h) (fun b h hb => hgrow2.block b hb (fun e => by have := hrlt b e.symm; rcases h.1 with h' | h'; have := HAA.out b h'; omega; omega))
      have hK3 : ∀ w3, w2.grownBy w3 (some gg) → IsA w3 (fun b => A b ∨ w.heap.size + 2 ≤ b) cN uN := fun w3 hg => hK2.keep hg.size (fun b h => by rcases h.1 with h' | h'; exact Or.inl h'; exact Or.inr (by omega)) (fun b h hb => hg.block b hb (fun e => by
        have e2 : b = gg := by simpa using e
        subst e2
        rcases hlies with h' | h'
        · have := hrlt b h'; rcases h.1 with h2 | h2; have := HAA.out b h2; omega; omega
        · have := h.2; omega))
      have hb2 := below_rowq HBU.out.1 hgrow2 (fun k hk => by have := hrlt k hk; omega)
      have HB2 := Lib.hid (And.intro hb2 (And.intro (own_kept' HBU.out.2.1 hgrow2 (fun e => by have := hrlt _ e; omega)) (own_kept' HBU.out.2.2 hgrow2 (fun e => by have := hrlt _ e; omega))))
      have e2 : (cs.take i).flatMap FC.cells ++ FC.cells ⟨pr.1, cN⟩ = (cs.take i ++ ([⟨pr.1, cN⟩] : List FC)).flatMap FC.cells := by simp
      rw [e2] at hown2
      have HPT := Lib.hid (show cs.take i ++ ([⟨pr.1, cN⟩] : List FC) ++ (cs.drop (i + 1)).take (f.length - (i + 1)) = cs.set i ⟨pr.1, cN⟩ from by have h := set_parts (l := cs) (i := i) (⟨pr.1, cN⟩) (by have := HC.out.2.2.2.1; have := HLT.out; omega); rw [HC.out.2.2.2.1] at h; exact h)
      clear e2 hb2 hK2 hgrow2 hlies hrowU oS HBU HN IH hrlt
      have z4 := HB2.out.2.1.cell (i := 4) rfl
      have hsrc3 := cells_part FC.cells (m := 6) (fun _ => rfl) HC.out.1 HB2.out.1 hbl (i + 1) (f.length - (i + 1))
      have hnl3 : (((cs.drop (i + 1)).take (f.length - (i + 1))).flatMap FC.cells).length = (f.length - (i + 1)) * 6 := by
        rw [cells_len FC.cells (m := 6) (fun _ => rfl), List.length_take, List.length_drop]; congr 1; have := HC.out.2.2.2.1; omega
      have hs2 := HB2.out.2.2.lt
      by_cases hcap : fc = i + 1
      · have hm0 : f.length - (i + 1) = 0 := by have := HLT.out; omega
        subst hcap
        go_upto_region 7 with (first | (at_builtin; refine wpList_append_own _ rfl (.tmp 46) (.tmp 51) 23 rfl (w.heap.size + 2) 58 i35 (.agg #[.string ⟨#[]⟩, .int .i64 0, .int .i64 0, .string ⟨#[]⟩, .slice none 0 0, .slice none 0 0]) 6 96 Tryz.underlying23 hi35 hz35 hs35 hy35 rfl (by decide) _ _ _ rfl hown2 ⟨b, off, none⟩ 0 0 [] rfl rfl (fun j u h => by simp at h) (fun u h => by cases h) (by unfold maxLen; omega) (by omega) (by omega) ?_; intro v3 w3 hown3 hgrow3 hnil3))
        rw [List.append_nil] at hown3
        have hb3 := below_rowq HB2.out.1 hgrow3 (fun k hk => by have := own_row hown2 k hk; omega)
        have HB3 := Lib.hid (And.intro hb3 (And.intro (own_kept' HB2.out.2.1 hgrow3 (fun e => by have := own_row hown2 _ e; omega)) (own_kept' HB2.out.2.2 hgrow3 (fun e => by have := own_row hown2 _ e; omega))))
        obtain ⟨ao3, cap3, hu3, -, -, -⟩ := (Flat.of_own hown3).out
        subst hu3
        obtain ⟨n3, hn3⟩ : ∃ q, (i + 1) + 0 = q := ⟨_, rfl⟩
        rw [hn3] at hown3
        have hpt := HPT.out
        rw [hm0, List.take_zero, List.append_nil] at hpt
        rw [hpt] at hown3
        have hnew := fldsA_set (i := i) (t := (pr.1, uN)) (FlatA.of_own (A := (fun b => A b ∨ w.heap.size + 2 ≤ b)) hown3 (fun b h => Or.inr h)) (by omega) HC.out.2.2.2.1 (fun j x u h1 h2 => HC.out.2.2.2.2.2 j x u h1 h2) (fun j x u h1 h2 => (HC.out.2.2.1 j x u h1 h2).keep hb3.size (fun b h => Or.inl h) (fun b _ hlt => hb3.block b hlt)) rfl (hK3 w3 hgrow3)
        have HI3 := Lib.hid (show IsA w3 (fun b => A b ∨ w.heap.size + 2 ≤ b) _ t' from HT.out ▸ IsA.of (c := ⟨k, n, y, la, ln, lc, ao3, n3, cap3⟩) (HC.out.2.2.2.2.1.all hb3 (fun b h => Or.inl h)) hnew)
        clear hnew hb3 hown3 hgrow3 hnil3 HB2 hsrc3 hnl3 z4 hK3 hown2 HC
        have HS := Lib.hid (show Below w.heap.size w (w3.setCell ⟨w.heap.size, 4, none⟩ (.slice ao3 n3 cap3)) ∧ Own (w3.setCell ⟨w.heap.size, 4, none⟩ (.slice ao3 n3 cap3)) w.heap.size [.int .i64 k, .int .i64 n, sV y, .slice la ln lc, .slice ao3 n3 cap3] 25 ∧ Own (w3.setCell ⟨w.heap.size, 4, none⟩ (.slice ao3 n3 cap3)) (w.heap.size + 1) [.int .i64 0, .int .i64 0, .string ⟨#[]⟩, .slice none 0 0, .slice none 0 0] 25 ∧ IsA (w3.setCell ⟨w.heap.size, 4, none⟩ (.slice ao3 n3 cap3)) (fun b => A b ∨ w.heap.size + 2 ≤ b) ⟨k, n, y, la, ln, lc, ao3, n3, cap3⟩ t' from ⟨below_set HB3.out.1 (Nat.le_refl _) _, HB3.out.2.1.set 4 _, HB3.out.2.2.set_ne (by omega) 4 _, IsA.set HI3.out (fun h => by rcases h with h | h; have := HAA.out _ h; omega; omega) _ _⟩)
        have z4 := HB3.out.2.1.cell (i := 4) rfl
        have y0 := HB3.out.2.1.frozen 4
        clear HI3
        go_upto_region 8 with (fail)
        change Code.wp Tryz.prog _ _ _ (w3.setCell ⟨w.heap.size, 4, none⟩ (.slice ao3 n3 cap3))
        clear y0 z4 HB3
        generalize w3.setCell ⟨w.heap.size, 4, none⟩ (.slice ao3 n3 cap3) = W4 at *
        have x0 := HS.out.2.1.cell (i := 0) rfl
        have x1 := HS.out.2.1.cell (i := 1) rfl
        have x2 := HS.out.2.1.cell (i := 2) rfl
        have x3 := HS.out.2.1.cell (i := 3) rfl
        have x4 := HS.out.2.1.cell (i := 4) rfl
        have oFin := HS.out.2.2.1
        have q0 := oFin.cell (i := 0) rfl
        have q1 := oFin.cell (i := 1) rfl
        have q2 := oFin.cell (i := 2) rfl
        have q3 := oFin.cell (i := 3) rfl
        have q4 := oFin.cell (i := 4) rfl
        have g0 := oFin.frozen 0
        have g1 := oFin.frozen 1
        have g2 := oFin.frozen 2
        have g3 := oFin.frozen 3
        have g4 := oFin.frozen 4
        have HU := Lib.hid (And.intro (own_put5 oFin (.int .i64 k) (.int .i64 n) (sV y) (.slice la ln lc) (.slice ao3 n3 cap3)) (And.intro (below_put5 (b := w.heap.size + 1) HS.out.1 (by omega) (.int .i64 k) (.int .i64 n) (sV y) (.slice la ln lc) (.slice ao3 n3 cap3)) (HS.out.2.2.2.put5 (b := w.heap.size + 1) (fun h => by rcases h with h | h; have := HAA.out _ h; omega; omega) (.int .i64 k) (.int .i64 n) (sV y) (.slice la ln lc) (.slice ao3 n3 cap3))))
        clear oFin
        go_wp2
        clear q0 q1 q2 q3 q4 g0 g1 g2 g3 g4
        change bodyPost Tryz.prog Tryz.f79 _ _ _ (put5 W4 (w.heap.size + 1) (.int .i64 k) (.int .i64 n) (sV y) (.slice la ln lc) (.slice ao3 n3 cap3))
        generalize put5 W4 (w.heap.size + 1) (.int .i64 k) (.int .i64 n) (sV y) (.slice la ln lc) (.slice ao3 n3 cap3) = U at *
        have c0 := HU.out.1.cell (i := 0) rfl
        have c1 := HU.out.1.cell (i := 1) rfl
        have c2 := HU.out.1.cell (i := 2) rfl
        have c3 := HU.out.1.cell (i := 3) rfl
        have c4 := HU.out.1.cell (i := 4) rfl
        exact bodyPost_ret (v := .agg #[.int .i64 k, .int .i64 n, sV y, .slice la ln lc, .slice ao3 n3 cap3]) (by simp [results, Tryz.results79, go_sem, c0, c1, c2, c3, c4]) rfl ⟨⟨k, n, y, la, ln, lc, ao3, n3, cap3⟩, rfl, HU.out.2.1, HU.out.2.2.mono (fun b hb => by rcases hb with h | h; exact Or.inl h; exact Or.inr (by omega))⟩
      · go_upto_region 7 with (first | (at_builtin; refine wpList_append_own _ rfl (.tmp 46) (.tmp 51) 23 rfl (w.heap.size + 2) 58 i35 (.agg #[.string ⟨#[]⟩, .int .i64 0, .int .i64 0, .string ⟨#[]⟩, .slice none 0 0, .slice none 0 0]) 6 96 Tryz.underlying23 hi35 hz35 hs35 hy35 rfl (by decide) _ _ _ rfl hown2 ⟨b, off + (i + 1) * 6, none⟩ (f.length - (i + 1)) (fc - (i + 1)) (((cs.drop (i + 1)).take (f.length - (i + 1))).flatMap FC.cells) rfl hnl3 hsrc3 (one_all FC.cells six_one' _) (by unfold maxLen; omega) (by omega) (by omega) ?_; intro v3 w3 hown3 hgrow3 hnil3))
        rw [← List.flatMap_append] at hown3
        have hb3 := below_rowq HB2.out.1 hgrow3 (fun k hk => by have := own_row hown2 k hk; omega)
        have HB3 := Lib.hid (And.intro hb3 (And.intro (own_kept' HB2.out.2.1 hgrow3 (fun e => by have := own_row hown2 _ e; omega)) (own_kept' HB2.out.2.2 hgrow3 (fun e => by have := own_row hown2 _ e; omega))))
        obtain ⟨ao3, cap3, hu3, -, -, -⟩ := (Flat.of_own hown3).out
        subst hu3
        obtain ⟨n3, hn3⟩ : ∃ q, (i + 1) + (f.length - (i + 1)) = q := ⟨_, rfl⟩
        rw [hn3] at hown3
        rw [HPT.out] at hown3
        have hnew := fldsA_set (i := i) (t := (pr.1, uN)) (FlatA.of_own (A := (fun b => A b ∨ w.heap.size + 2 ≤ b)) hown3 (fun b h => Or.inr h)) (by omega) HC.out.2.2.2.1 (fun j x u h1 h2 => HC.out.2.2.2.2.2 j x u h1 h2) (fun j x u h1 h2 => (HC.out.2.2.1 j x u h1 h2).keep hb3.size (fun b h => Or.inl h) (fun b _ hlt => hb3.block b hlt)) rfl (hK3 w3 hgrow3)
        have HI3 := Lib.hid (show IsA w3 (fun b => A b ∨ w.heap.size + 2 ≤ b) _ t' from HT.out ▸ IsA.of (c := ⟨k, n, y, la, ln, lc, ao3, n3, cap3⟩) (HC.out.2.2.2.2.1.all hb3 (fun b h => Or.inl h)) hnew)
        clear hnew hb3 hown3 hgrow3 hnil3 HB2 hsrc3 hnl3 z4 hK3 hown2 HC
        have HS := Lib.hid (show Below w.heap.size w (w3.setCell ⟨w.heap.size, 4, none⟩ (.slice ao3 n3 cap3)) ∧ Own (w3.setCell ⟨w.heap.size, 4, none⟩ (.slice ao3 n3 cap3)) w.heap.size [.int .i64 k, .int .i64 n, sV y, .slice la ln lc, .slice ao3 n3 cap3] 25 ∧ Own (w3.setCell ⟨w.heap.size, 4, none⟩ (.slice ao3 n3 cap3)) (w.heap.size + 1) [.int .i64 0, .int .i64 0, .string ⟨#[]⟩, .slice none 0 0, .slice none 0 0] 25 ∧ IsA (w3.setCell ⟨w.heap.size, 4, none⟩ (.slice ao3 n3 cap3)) (fun b => A b ∨ w.heap.size + 2 ≤ b) ⟨k, n, y, la, ln, lc, ao3, n3, cap3⟩ t' from ⟨below_set HB3.out.1 (Nat.le_refl _) _, HB3.out.2.1.set 4 _, HB3.out.2.2.set_ne (by omega) 4 _, IsA.set HI3.out (fun h => by rcases h with h | h; have := HAA.out _ h; omega; omega) _ _⟩)
        have z4 := HB3.out.2.1.cell (i := 4) rfl
        have y0 := HB3.out.2.1.frozen 4
        clear HI3
        go_upto_region 8 with (fail)
        change Code.wp Tryz.prog _ _ _ (w3.setCell ⟨w.heap.size, 4, none⟩ (.slice ao3 n3 cap3))
        clear y0 z4 HB3
        generalize w3.setCell ⟨w.heap.size, 4, none⟩ (.slice ao3 n3 cap3) = W4 at *
        have x0 := HS.out.2.1.cell (i := 0) rfl
        have x1 := HS.out.2.1.cell (i := 1) rfl
        have x2 := HS.out.2.1.cell (i := 2) rfl
        have x3 := HS.out.2.1.cell (i := 3) rfl
        have x4 := HS.out.2.1.cell (i := 4) rfl
        have oFin := HS.out.2.2.1
        have q0 := oFin.cell (i := 0) rfl
        have q1 := oFin.cell (i := 1) rfl
        have q2 := oFin.cell (i := 2) rfl
        have q3 := oFin.cell (i := 3) rfl
        have q4 := oFin.cell (i := 4) rfl
        have g0 := oFin.frozen 0
        have g1 := oFin.frozen 1
        have g2 := oFin.frozen 2
        have g3 := oFin.frozen 3
        have g4 := oFin.frozen 4
        have HU := Lib.hid (And.intro (own_put5 oFin (.int .i64 k) (.int .i64 n) (sV y) (.slice la ln lc) (.slice ao3 n3 cap3)) (And.intro (below_put5 (b := w.heap.size + 1) HS.out.1 (by omega) (.int .i64 k) (.int .i64 n) (sV y) (.slice la ln lc) (.slice ao3 n3 cap3)) (HS.out.2.2.2.put5 (b := w.heap.size + 1) (fun h => by rcases h with h | h; have := HAA.out _ h; omega; omega) (.int .i64 k) (.int .i64 n) (sV y) (.slice la ln lc) (.slice ao3 n3 cap3))))
        clear oFin
        go_wp2
        clear q0 q1 q2 q3 q4 g0 g1 g2 g3 g4
        change bodyPost Tryz.prog Tryz.f79 _ _ _ (put5 W4 (w.heap.size + 1) (.int .i64 k) (.int .i64 n) (sV y) (.slice la ln lc) (.slice ao3 n3 cap3))
        generalize put5 W4 (w.heap.size + 1) (.int .i64 k) (.int .i64 n) (sV y) (.slice la ln lc) (.slice ao3 n3 cap3) = U at *
        have c0 := HU.out.1.cell (i := 0) rfl
        have c1 := HU.out.1.cell (i := 1) rfl
        have c2 := HU.out.1.cell (i := 2) rfl
        have c3 := HU.out.1.cell (i := 3) rfl
        have c4 := HU.out.1.cell (i := 4) rfl
        exact bodyPost_ret (v := .agg #[.int .i64 k, .int .i64 n, sV y, .slice la ln lc, .slice ao3 n3 cap3]) (by simp [results, Tryz.results79, go_sem, c0, c1, c2, c3, c4]) rfl ⟨⟨k, n, y, la, ln, lc, ao3, n3, cap3⟩, rfl, HU.out.2.1, HU.out.2.2.mono (fun b hb => by rcases hb with h | h; exact Or.inl h; exact Or.inr (by omega))⟩
    · have e1 : (sk == 1) = false := by rw [beq_eq_false_iff_ne]; exact h1
      have HC5 := HC5V
      have hfl := hI.vals
      have hoth := hI.flds
      obtain ⟨cs, hcl, hfa, hki⟩ := hfl.out
      obtain ⟨ao, cap, he0, hle, hlm, hat⟩ := hfa.out
      have hlm2 := hlm
      unfold maxLen at hlm2
      simp only [Value.slice.injEq] at he0
      obtain ⟨rfl, rfl, rfl⟩ := he0
      have hlt : i < l.length := by have := place_lt HSI.out.1 HPL.out; simpa only [if_neg h1] using this
      obtain ⟨b, off, rfl, hbl, -, hcell⟩ := hat (by omega)
      have HLT := Lib.hid hlt
      have HC := Lib.hid (And.intro hcell (And.intro trivial (And.intro hki (And.intro hcl hoth))))
      have hbA := below_alloc Wa (.cells #[] 25)
      have HB := Lib.hid (And.intro (below_all HA.out.1 hbA) (And.intro (HA.out.2.1.all hbA) (HA.out.2.2.all hbA)))
      have hWs := HA.out.2.2.lt
      have hrow := row_lit0 (base := w.heap.size + 2) (e := 25) (size := 5) (Own.new Wa [] 25) (by omega)
      have hbs : (Wa.alloc (.cells #[] 25)).heap.size = Wa.heap.size + 1 := size_alloc _ _
      have hsrc := cells_part VC.cells (m := 5) (fun _ => rfl) HC.out.1 HB.out.1 hbl 0 i
      rw [Nat.zero_mul, Nat.add_zero, List.drop_zero] at hsrc
      have z3 := HB.out.2.1.cell (i := 3) rfl
      have za3 := HA.out.2.1.cell (i := 3) rfl
      have hic : i ≤ lc := by omega
      clear hfl hoth hcl hfa hki hat hcell hI
      go_upto_region 10 with (first | (at_builtin; refine wpList_append_own _ rfl (.tmp 56) (.tmp 60) 22 rfl (w.heap.size + 2) 25 i25 (.agg #[.int .i64 0, .int .i64 0, .string ⟨#[]⟩, .slice none 0 0, .slice none 0 0]) 5 80 Tryz.underlying22 hi25 hz25 hs25 hy25 rfl (by decide) _ _ _ rfl hrow ⟨b, off, none⟩ i lc ((cs.take i).flatMap VC.cells) rfl (by rw [cells_len VC.cells (m := 5) (fun _ => rfl), List.length_take]; congr 1; have := HC.out.2.2.2.1; have := HLT.out; omega) hsrc (one_all VC.cells five_one _) (by unfold maxLen; omega) (by omega) (by omega) ?_; intro v1 w1 hown1 hgrow1 hnil1))
      rw [Nat.zero_add, List.nil_append] at hown1
      have hb1 := below_rowq HB.out.1 hgrow1 (fun k hk => by have := own_row hrow k hk; omega)
      have HB1 := Lib.hid (And.intro hb1 (And.intro (own_kept' HB.out.2.1 hgrow1 (fun e => by have := own_row hrow _ e; omega)) (own_kept' HB.out.2.2 hgrow1 (fun e => by have := own_row hrow _ e; omega))))
      obtain ⟨ao1, cap1, hu1, -, -, -⟩ := (Flat.of_own hown1).out
      subst hu1
      have hs1 := HB1.out.2.2.lt
      clear hgrow1 hnil1 hsrc hbA hrow HB z3 za3 hb1 HA hbs q0
      rcases HX.out with ⟨hp0, hT⟩ | ⟨hp0, u, uN, hku, hru, hT⟩
      · subst hp0
        have HT : Hid (t' = .mk k n y (l.eraseIdx i) f) := Lib.hid (by rw [hT]; simp only [cutAt, if_neg h1])
        have HPT := Lib.hid (show cs.take i ++ (cs.drop (i + 1)).take (l.length - (i + 1)) = cs.eraseIdx i from by have h := erase_parts (l := cs) (i := i) (by have := HC.out.2.2.2.1; have := HLT.out; omega); rw [HC.out.2.2.2.1] at h; exact h)
        have HB2 := HB1
        clear hT HB1 IH
        simp only [List.length_nil, Nat.zero_add] at *
        have z3 := HB2.out.2.1.cell (i := 3) rfl
        have hsrc3 := cells_part VC.cells (m := 5) (fun _ => rfl) HC.out.1 HB2.out.1 hbl (i + 1) (l.length - (i + 1))
        have hnl3 : (((cs.drop (i + 1)).take (l.length - (i + 1))).flatMap VC.cells).length = (l.length - (i + 1)) * 5 := by
          rw [cells_len VC.cells (m := 5) (fun _ => rfl), List.length_take, List.length_drop]; congr 1; have := HC.out.2.2.2.1; omega
        have hs2 := HB2.out.2.2.lt
        by_cases hcap : lc = i + 1
        · have hm0 : l.length - (i + 1) = 0 := by have := HLT.out; omega
          subst hcap
          go_upto_region 13 with (first | (at_builtin; refine wpList_append_own _ rfl (.tmp 76) (.tmp 81) 22 rfl (w.heap.size + 2) 25 i25 (.agg #[.int .i64 0, .int .i64 0, .string ⟨#[]⟩, .slice none 0 0, .slice none 0 0]) 5 80 Tryz.underlying22 hi25 hz25 hs25 hy25 rfl (by decide) _ _ _ rfl hown1 ⟨b, off, none⟩ 0 0 [] rfl rfl (fun j u h => by simp at h) (fun u h => by cases h) (by unfold maxLen; omega) (by omega) (by omega) ?_; intro v3 w3 hown3 hgrow3 hnil3))
          rw [List.append_nil] at hown3
          have hb3 := below_rowq HB2.out.1 hgrow3 (fun k hk => by have := own_row hown1 k hk; omega)
          have HB3 := Lib.hid (And.intro hb3 (And.intro (own_kept' HB2.out.2.1 hgrow3 (fun e => by have := own_row hown1 _ e; omega)) (own_kept' HB2.out.2.2 hgrow3 (fun e => by have := own_row hown1 _ e; omega))))
          obtain ⟨ao3, cap3, hu3, -, -, -⟩ := (Flat.of_own hown3).out
          subst hu3
          obtain ⟨n3, hn3⟩ : ∃ q, i + 0 = q := ⟨_, rfl⟩
          rw [hn3] at hown3
          have hpt := HPT.out
          rw [hm0, List.take_zero, List.append_nil] at hpt
          rw [hpt] at hown3
          have hnew := valsA_erase (i := i) (FlatA.of_own (A := (fun b => A b ∨ w.heap.size + 2 ≤ b)) hown3 (fun b h => Or.inr h)) (by rw [List.length_eraseIdx, if_pos HLT.out]; omega) HC.out.2.2.2.1 (fun j x u h1 h2 => (HC.out.2.2.1 j x u h1 h2).keep hb3.size (fun b h => Or.inl h) (fun b _ hlt => hb3.block b hlt))
          have HI3 := Lib.hid (show IsA w3 (fun b => A b ∨ w.heap.size + 2 ≤ b) _ t' from HT.out ▸ IsA.of (c := ⟨k, n, y, ao3, n3, cap3, fa, fn, fc⟩) hnew (HC.out.2.2.2.2.all hb3 (fun b h => Or.inl h)))
          clear hnew hb3 hown3 hgrow3 hnil3 HB2 hsrc3 hnl3 z3 hown1 HC
          have HS := Lib.hid (show Below w.heap.size w (w3.setCell ⟨w.heap.size, 3, none⟩ (.slice ao3 n3 cap3)) ∧ Own (w3.setCell ⟨w.heap.size, 3, none⟩ (.slice ao3 n3 cap3)) w.heap.size [.int .i64 k, .int .i64 n, sV y, .slice ao3 n3 cap3, .slice fa fn fc] 25 ∧ Own (w3.setCell ⟨w.heap.size, 3, none⟩ (.slice ao3 n3 cap3)) (w.heap.size + 1) [.int .i64 0, .int .i64 0, .string ⟨#[]⟩, .slice none 0 0, .slice none 0 0] 25 ∧ IsA (w3.setCell ⟨w.heap.size, 3, none⟩ (.slice ao3 n3 cap3)) (fun b => A b ∨ w.heap.size + 2 ≤ b) ⟨k, n, y, ao3, n3, cap3, fa, fn, fc⟩ t' from ⟨below_set HB3.out.1 (Nat.le_refl _) _, HB3.out.2.1.set 3 _, HB3.out.2.2.set_ne (by omega) 3 _, IsA.set HI3.out (fun h => by rcases h with h | h; have := HAA.out _ h; omega; omega) _ _⟩)
          have z3 := HB3.out.2.1.cell (i := 3) rfl
          have y0 := HB3.out.2.1.frozen 3
          clear HI3
          go_upto_region 14 with (fail)
          change Code.wp Tryz.prog _ _ _ (w3.setCell ⟨w.heap.size, 3, none⟩ (.slice ao3 n3 cap3))
          clear y0 z3 HB3
          generalize w3.setCell ⟨w.heap.size, 3, none⟩ (.slice ao3 n3 cap3) = W4 at *
          have x0 := HS.out.2.1.cell (i := 0) rfl
          have x1 := HS.out.2.1.cell (i := 1) rfl
          have x2 := HS.out.2.1.cell (i := 2) rfl
          have x3 := HS.out.2.1.cell (i := 3) rfl
          have x4 := HS.out.2.1.cell (i := 4) rfl
          have oFin := HS.out.2.2.1
          have q0 := oFin.cell (i := 0) rfl
          have q1 := oFin.cell (i := 1) rfl
          have q2 := oFin.cell (i := 2) rfl
          have q3 := oFin.cell (i := 3) rfl
          have q4 := oFin.cell (i := 4) rfl
          have g0 := oFin.frozen 0
          have g1 := oFin.frozen 1
          have g2 := oFin.frozen 2
          have g3 := oFin.frozen 3
          have g4 := oFin.frozen 4
          have HU := Lib.hid (And.intro (own_put5 oFin (.int .i64 k) (.int .i64 n) (sV y) (.slice ao3 n3 cap3) (.slice fa fn fc)) (And.intro (below_put5 (b := w.heap.size + 1) HS.out.1 (by omega) (.int .i64 k) (.int .i64 n) (sV y) (.slice ao3 n3 cap3) (.slice fa fn fc)) (HS.out.2.2.2.put5 (b := w.heap.size + 1) (fun h => by rcases h with h | h; have := HAA.out _ h; omega; omega) (.int .i64 k) (.int .i64 n) (sV y) (.slice ao3 n3 cap3) (.slice fa fn fc))))
          clear oFin
          go_wp2
          clear q0 q1 q2 q3 q4 g0 g1 g2 g3 g4
          change bodyPost Tryz.prog Tryz.f79 _ _ _ (put5 W4 (w.heap.size + 1) (.int .i64 k) (.int .i64 n) (sV y) (.slice ao3 n3 cap3) (.slice fa fn fc))
          generalize put5 W4 (w.heap.size + 1) (.int .i64 k) (.int .i64 n) (sV y) (.slice ao3 n3 cap3) (.slice fa fn fc) = U at *
          have c0 := HU.out.1.cell (i := 0) rfl
          have c1 := HU.out.1.cell (i := 1) rfl
          have c2 := HU.out.1.cell (i := 2) rfl
          have c3 := HU.out.1.cell (i := 3) rfl
          have c4 := HU.out.1.cell (i := 4) rfl
          exact bodyPost_ret (v := .agg #[.int .i64 k, .int .i64 n, sV y, .slice ao3 n3 cap3, .slice fa fn fc]) (by simp [results, Tryz.results79, go_sem, c0, c1, c2, c3, c4]) rfl ⟨⟨k, n, y, ao3, n3, cap3, fa, fn, fc⟩, rfl, HU.out.2.1, HU.out.2.2.mono (fun b hb => by rcases hb with h | h; exact Or.inl h; exact Or.inr (by omega))⟩
        · go_upto_region 13 with (first | (at_builtin; refine wpList_append_own _ rfl (.tmp 76) (.tmp 81) 22 rfl (w.heap.size + 2) 25 i25 (.agg #[.int .i64 0, .int .i64 0, .string ⟨#[]⟩, .slice none 0 0, .slice none 0 0]) 5 80 Tryz.underlying22 hi25 hz25 hs25 hy25 rfl (by decide) _ _ _ rfl hown1 ⟨b, off + (i + 1) * 5, none⟩ (l.length - (i + 1)) (lc - (i + 1)) (((cs.drop (i + 1)).take (l.length - (i + 1))).flatMap VC.cells) rfl hnl3 hsrc3 (one_all VC.cells five_one _) (by unfold maxLen; omega) (by omega) (by omega) ?_; intro v3 w3 hown3 hgrow3 hnil3))
          rw [← List.flatMap_append] at hown3
          have hb3 := below_rowq HB2.out.1 hgrow3 (fun k hk => by have := own_row hown1 k hk; omega)
          have HB3 := Lib.hid (And.intro hb3 (And.intro (own_kept' HB2.out.2.1 hgrow3 (fun e => by have := own_row hown1 _ e; omega)) (own_kept' HB2.out.2.2 hgrow3 (fun e => by have := own_row hown1 _ e; omega))))
          obtain ⟨ao3, cap3, hu3, -, -, -⟩ := (Flat.of_own hown3).out
          subst hu3
          obtain ⟨n3, hn3⟩ : ∃ q, i + (l.length - (i + 1)) = q := ⟨_, rfl⟩
          rw [hn3] at hown3
          rw [HPT.out] at hown3
          have hnew := valsA_erase (i := i) (FlatA.of_own (A := (fun b => A b ∨ w.heap.size + 2 ≤ b)) hown3 (fun b h => Or.inr h)) (by rw [List.length_eraseIdx, if_pos HLT.out]; omega) HC.out.2.2.2.1 (fun j x u h1 h2 => (HC.out.2.2.1 j x u h1 h2).keep hb3.size (fun b h => Or.inl h) (fun b _ hlt => hb3.block b hlt))
          have HI3 := Lib.hid (show IsA w3 (fun b => A b ∨ w.heap.size + 2 ≤ b) _ t' from HT.out ▸ IsA.of (c := ⟨k, n, y, ao3, n3, cap3, fa, fn, fc⟩) hnew (HC.out.2.2.2.2.all hb3 (fun b h => Or.inl h)))
          clear hnew hb3 hown3 hgrow3 hnil3 HB2 hsrc3 hnl3 z3 hown1 HC
          have HS := Lib.hid (show Below w.heap.size w (w3.setCell ⟨w.heap.size, 3, none⟩ (.slice ao3 n3 cap3)) ∧ Own (w3.setCell ⟨w.heap.size, 3, none⟩ (.slice ao3 n3 cap3)) w.heap.size [.int .i64 k, .int .i64 n, sV y, .slice ao3 n3 cap3, .slice fa fn fc] 25 ∧ Own (w3.setCell ⟨w.heap.size, 3, none⟩ (.slice ao3 n3 cap3)) (w.heap.size + 1) [.int .i64 0, .int .i64 0, .string ⟨#[]⟩, .slice none 0 0, .slice none 0 0] 25 ∧ IsA (w3.setCell ⟨w.heap.size, 3, none⟩ (.slice ao3 n3 cap3)) (fun b => A b ∨ w.heap.size + 2 ≤ b) ⟨k, n, y, ao3, n3, cap3, fa, fn, fc⟩ t' from ⟨below_set HB3.out.1 (Nat.le_refl _) _, HB3.out.2.1.set 3 _, HB3.out.2.2.set_ne (by omega) 3 _, IsA.set HI3.out (fun h => by rcases h with h | h; have := HAA.out _ h; omega; omega) _ _⟩)
          have z3 := HB3.out.2.1.cell (i := 3) rfl
          have y0 := HB3.out.2.1.frozen 3
          clear HI3
          go_upto_region 14 with (fail)
          change Code.wp Tryz.prog _ _ _ (w3.setCell ⟨w.heap.size, 3, none⟩ (.slice ao3 n3 cap3))
          clear y0 z3 HB3
          generalize w3.setCell ⟨w.heap.size, 3, none⟩ (.slice ao3 n3 cap3) = W4 at *
          have x0 := HS.out.2.1.cell (i := 0) rfl
          have x1 := HS.out.2.1.cell (i := 1) rfl
          have x2 := HS.out.2.1.cell (i := 2) rfl
          have x3 := HS.out.2.1.cell (i := 3) rfl
          have x4 := HS.out.2.1.cell (i := 4) rfl
          have oFin := HS.out.2.2.1
          have q0 := oFin.cell (i := 0) rfl
          have q1 := oFin.cell (i := 1) rfl
          have q2 := oFin.cell (i := 2) rfl
          have q3 := oFin.cell (i := 3) rfl
          have q4 := oFin.cell (i := 4) rfl
          have g0 := oFin.frozen 0
          have g1 := oFin.frozen 1
          have g2 := oFin.frozen 2
          have g3 := oFin.frozen 3
          have g4 := oFin.frozen 4
          have HU := Lib.hid (And.intro (own_put5 oFin (.int .i64 k) (.int .i64 n) (sV y) (.slice ao3 n3 cap3) (.slice fa fn fc)) (And.intro (below_put5 (b := w.heap.size + 1) HS.out.1 (by omega) (.int .i64 k) (.int .i64 n) (sV y) (.slice ao3 n3 cap3) (.slice fa fn fc)) (HS.out.2.2.2.put5 (b := w.heap.size + 1) (fun h => by rcases h with h | h; have := HAA.out _ h; omega; omega) (.int .i64 k) (.int .i64 n) (sV y) (.slice ao3 n3 cap3) (.slice fa fn fc))))
          clear oFin
          go_wp2
          clear q0 q1 q2 q3 q4 g0 g1 g2 g3 g4
          change bodyPost Tryz.prog Tryz.f79 _ _ _ (put5 W4 (w.heap.size + 1) (.int .i64 k) (.int .i64 n) (sV y) (.slice ao3 n3 cap3) (.slice fa fn fc))
          generalize put5 W4 (w.heap.size + 1) (.int .i64 k) (.int .i64 n) (sV y) (.slice ao3 n3 cap3) (.slice fa fn fc) = U at *
          have c0 := HU.out.1.cell (i := 0) rfl
          have c1 := HU.out.1.cell (i := 1) rfl
          have c2 := HU.out.1.cell (i := 2) rfl
          have c3 := HU.out.1.cell (i := 3) rfl
          have c4 := HU.out.1.cell (i := 4) rfl
          exact bodyPost_ret (v := .agg #[.int .i64 k, .int .i64 n, sV y, .slice ao3 n3 cap3, .slice fa fn fc]) (by simp [results, Tryz.results79, go_sem, c0, c1, c2, c3, c4]) rfl ⟨⟨k, n, y, ao3, n3, cap3, fa, fn, fc⟩, rfl, HU.out.2.1, HU.out.2.2.mono (fun b hb => by rcases hb with h | h; exact Or.inl h; exact Or.inr (by omega))⟩
      have hpos : 0 < p.length := by
        rcases p with _ | ⟨s', p'⟩
        · exact absurd rfl hp0
        · simp
      obtain ⟨pr, hpr⟩ : ∃ pr, l[i]? = some pr := ⟨_, List.getElem?_eq_getElem HLT.out⟩
      have HT : Hid (t' = .mk k n y (l.set i uN) f) := Lib.hid (by rw [hT]; simp only [putAt, if_neg h1])
      obtain rfl : pr = u := by simp only [kidAt, if_neg h1, hpr] at hku; exact Option.some.inj hku
      obtain ⟨b', off', ⟨ek, en, es, ela, eln, elc, efa, efn, efc⟩, hao', -, hIe, q0, q1, q2, q3, q4⟩ := (show ValsA w A (.slice (some ⟨b, off, none⟩) l.length lc) l from HC5.out).at HB1.out.1 hpr
      cases hao'
      have HIE := Lib.hid (And.intro hIe (And.intro hru (show (pr).size ≤ 4000 from Int.le_trans (size_in_l (k := k) (n := n) (s := y) (f := f) (List.mem_of_getElem? hpr)) HZ.out)))

      have z := HB1.out.2.1.cell (i := 3) rfl
      clear hT hku hru hpr hIe
      go_upto_region 11 with (fail)
      have zg := cell_regrown z
      have q0g := cell_regrown q0
      have q1g := cell_regrown q1
      have q2g := cell_regrown q2
      have q3g := cell_regrown q3
      have q4g := cell_regrown q4
      clear z q0 q1 q2 q3 q4
      refine wp_region_multi 10 (fun i => i == 8 || i == 9) (fun i' xs u w' => (i' = 8 → ∃ c' : VC, u = c'.val ∧ IsA w' (fun b => A b ∨ w1.heap.size ≤ b) c' uN) ∧ (i' = 9 → ∃ (c2 : VC) (b : Nat), xs = [c2.val] ∧ u = .slice (some ⟨b, 0, none⟩) 1 1 ∧ w1.heap.size ≤ b ∧ Own w' b (VC.cells c2) 25))
        (fun i u => (i = 8 → ∃ c' : VC, u = c'.val) ∧ (i = 9 → ∃ b, u = .slice (some ⟨b, 0, none⟩) 1 1)) (by kernel_rfl) (by kernel_rfl)
        (fun i xs u w1 w2 h hb => ⟨fun e => by obtain ⟨c', a1, a2⟩ := h.1 e; exact ⟨c', a1, a2.all hb⟩, fun e => by obtain ⟨c2, b, a1, a2, a3, a4⟩ := h.2 e; exact ⟨c2, b, a1, a2, a3, a4.all hb⟩⟩)
        (fun i => by
          by_cases e : i = 8
          · exact ⟨VC0.val, fun _ => ⟨VC0, rfl⟩, fun e' => by omega⟩
          · exact ⟨.slice (some ⟨0, 0, none⟩) 1 1, fun e' => absurd e' e, fun _ => ⟨0, rfl⟩⟩) ?_
      simp only [List.take_succ_cons, List.take_zero, List.drop_succ_cons, List.drop_zero]
      refine wpM_stretch 8 rfl rfl rfl rfl ?_
      simp only [List.take_succ_cons, List.take_zero, List.drop_succ_cons, List.drop_zero]
      repeat (first | go_big_quiet_step (fail) | quiet_step (fail))
      refine wpQuiet_nil ?_
      refine wpM_dem rfl rfl rfl ?_ ?_
      · rintro _ ⟨pp, rfl⟩
        go_simp
        simp only [demUpon]
        have hbp := below_all HB1.out.1 (below_regrown w1 pp.d pp.os)
        have hsz := (below_regrown w1 pp.d pp.os).size
        refine ⟨trivial, (IH.out _ _ (Flat.all HTL.out hbp) A (fun b hb => by have := HAA.out b hb; omega) ⟨ek, en, es, ela, eln, elc, efa, efn, efc⟩ pr uN (HIE.out.1.all (below_regrown w1 pp.d pp.os)) HIE.out.2.1 HIE.out.2.2 HALL.out).mono ?_⟩
        rintro e w2 ⟨c', rfl, hb2, hN⟩
        exact ⟨_, rfl, ⟨c', rfl⟩, hb2, c', rfl, hN.mono (fun b hb => by rcases hb with h | h; exact Or.inl h; exact Or.inr (by omega))⟩
      rintro u hu
      obtain ⟨cN, rfl⟩ := hu.1 rfl
      clear hu
      refine wpM_dem rfl rfl rfl ?_ ?_
      · rintro _ ⟨pp, rfl⟩
        have hsz := (below_regrown w1 pp.d pp.os).size
        go_simp
        simp only [demUpon]
        exact ⟨⟨_, rfl⟩, below_alloc _ _, cN, rfl, _, rfl, by first | omega | (simp [redrawn]; done) | (simp [redrawn, grow]; omega), Own.new_at (by simp [grow]) _ _⟩
      rintro u hu
      obtain ⟨b8, rfl⟩ := hu.2 rfl
      clear hu
      refine wpM_end ?_
      rintro U hbU ⟨⟨-, hV7⟩, hV8⟩
      obtain ⟨c2, he2, hN⟩ := hV7.1 (by first | rfl | trivial)
      obtain ⟨c3, b', hx3, hu3, hlo, oS⟩ := hV8.2 (by first | rfl | trivial)
      obtain rfl := VC.val_inj he2
      have hx4 : ([cN.val] : List Value) = [c3.val] := hx3
      obtain rfl : cN = c3 := VC.val_inj (by simpa using hx4)
      obtain rfl : b8 = b' := by simpa using hu3
      clear hV7 hV8 he2 hx3 hx4 hu3 zg q0g q1g q2g q3g q4g
      have hUs := hbU.size
      have hrowU := own_below hown1 hbU
      have hrlt : ∀ k, (Value.slice ao1 i cap1).ownBlock = some k → w.heap.size + 2 ≤ k ∧ k < w1.heap.size := fun k h => ⟨own_row hown1 k h, (hown1.lt k h).2⟩
      have hbU2 := below_all HB1.out.1 hbU
      have HBU := Lib.hid (And.intro hbU2 (And.intro (HB1.out.2.1.all hbU) (HB1.out.2.2.all hbU)))
      have HN := Lib.hid hN.lt
      clear hN hbU hown1 HB1 hbU2
      go_upto_region 12 with (at_builtin; refine wpList_append_lies _ rfl (.tmp 65) (.tmp 74) 22 rfl (w.heap.size + 2) 25 i25 (.agg #[.int .i64 0, .int .i64 0, .string ⟨#[]⟩, .slice none 0 0, .slice none 0 0]) 5 80 Tryz.underlying22 hi25 hz25 hs25 hy25 rfl (by decide) _ _ _ rfl hrowU ⟨b8, 0, none⟩ 1 1 (VC.cells cN) rfl rfl (own_src oS) (five_one cN) (by decide) (by unfold maxLen; omega) (by omega) (by omega) _ rfl ?_; intro gg gcap w2 hown2 hgrow2 hlies hglt)
      have hK2 : IsA w2 (fun b => (A b ∨ w1.heap.size ≤ b) ∧ b < U.heap.size) cN uN := HN.out.keep hgrow2.size (fun b h => h) (fun b h hb => hgrow2.block b hb (fun e => by have := hrlt b e.symm; rcases h.1 with h' | h'; have := HAA.out b h'; omega; omega))
      have hK3 : ∀ w3, w2.grownBy w3 (some gg) → IsA w3 (fun b => A b ∨ w.heap.size + 2 ≤ b) cN uN := fun w3 hg => hK2.keep hg.size (fun b h => by rcases h.1 with h' | h'; exact Or.inl h'; exact Or.inr (by omega)) (fun b h hb => hg.block b hb (fun e => by
        have e2 : b = gg := by simpa using e
        subst e2
        rcases hlies with h' | h'
        · have := hrlt b h'; rcases h.1 with h2 | h2; have := HAA.out b h2; omega; omega
        · have := h.2; omega))
      have hb2 := below_rowq HBU.out.1 hgrow2 (fun k hk => by have := hrlt k hk; omega)
      have HB2 := Lib.hid (And.intro hb2 (And.intro (own_kept' HBU.out.2.1 hgrow2 (fun e => by have := hrlt _ e; omega)) (own_kept' HBU.out.2.2 hgrow2 (fun e => by have := hrlt _ e; omega))))
      have e2 : (cs.take i).flatMap VC.cells ++ VC.cells cN = (cs.take i ++ ([cN] : List VC)).flatMap VC.cells := by simp
      rw [e2] at hown2
      have HPT := Lib.hid (show cs.take i ++ ([cN] : List VC) ++ (cs.drop (i + 1)).take (l.length - (i + 1)) = cs.set i cN from by have h := set_parts (l := cs) (i := i) (cN) (by have := HC.out.2.2.2.1; have := HLT.out; omega); rw [HC.out.2.2.2.1] at h; exact h)
      clear e2 hb2 hK2 hgrow2 hlies hrowU oS HBU HN IH hrlt
      have z3 := HB2.out.2.1.cell (i := 3) rfl
      have hsrc3 := cells_part VC.cells (m := 5) (fun _ => rfl) HC.out.1 HB2.out.1 hbl (i + 1) (l.length - (i + 1))
      have hnl3 : (((cs.drop (i + 1)).take (l.length - (i + 1))).flatMap VC.cells).length = (l.length - (i + 1)) * 5 := by
        rw [cells_len VC.cells (m := 5) (fun _ => rfl), List.length_take, List.length_drop]; congr 1; have := HC.out.2.2.2.1; omega
      have hs2 := HB2.out.2.2.lt
      by_cases hcap : lc = i + 1
      · have hm0 : l.length - (i + 1) = 0 := by have := HLT.out; omega
        subst hcap
        go_upto_region 13 with (first | (at_builtin; refine wpList_append_own _ rfl (.tmp 76) (.tmp 81) 22 rfl (w.heap.size + 2) 25 i25 (.agg #[.int .i64 0, .int .i64 0, .string ⟨#[]⟩, .slice none 0 0, .slice none 0 0]) 5 80 Tryz.underlying22 hi25 hz25 hs25 hy25 rfl (by decide) _ _ _ rfl hown2 ⟨b, off, none⟩ 0 0 [] rfl rfl (fun j u h => by simp at h) (fun u h => by cases h) (by unfold maxLen; omega) (by omega) (by omega) ?_; intro v3 w3 hown3 hgrow3 hnil3))
        rw [List.append_nil] at hown3
        have hb3 := below_rowq HB2.out.1 hgrow3 (fun k hk => by have := own_row hown2 k hk; omega)
        have HB3 := Lib.hid (And.intro hb3 (And.intro (own_kept' HB2.out.2.1 hgrow3 (fun e => by have := own_row hown2 _ e; omega)) (own_kept' HB2.out.2.2 hgrow3 (fun e => by have := own_row hown2 _ e; omega))))
        obtain ⟨ao3, cap3, hu3, -, -, -⟩ := (Flat.of_own hown3).out
        subst hu3
        obtain ⟨n3, hn3⟩ : ∃ q, (i + 1) + 0 = q := ⟨_, rfl⟩
        rw [hn3] at hown3
        have hpt := HPT.out
        rw [hm0, List.take_zero, List.append_nil] at hpt
        rw [hpt] at hown3
        have hnew := valsA_set (i := i) (t := uN) (FlatA.of_own (A := (fun b => A b ∨ w.heap.size + 2 ≤ b)) hown3 (fun b h => Or.inr h)) (by omega) HC.out.2.2.2.1 (fun j x u h1 h2 => (HC.out.2.2.1 j x u h1 h2).keep hb3.size (fun b h => Or.inl h) (fun b _ hlt => hb3.block b hlt)) (hK3 w3 hgrow3)
        have HI3 := Lib.hid (show IsA w3 (fun b => A b ∨ w.heap.size + 2 ≤ b) _ t' from HT.out ▸ IsA.of (c := ⟨k, n, y, ao3, n3, cap3, fa, fn, fc⟩) hnew (HC.out.2.2.2.2.all hb3 (fun b h => Or.inl h)))
        clear hnew hb3 hown3 hgrow3 hnil3 HB2 hsrc3 hnl3 z3 hK3 hown2 HC
        have HS := Lib.hid (show Below w.heap.size w (w3.setCell ⟨w.heap.size, 3, none⟩ (.slice ao3 n3 cap3)) ∧ Own (w3.setCell ⟨w.heap.size, 3, none⟩ (.slice ao3 n3 cap3)) w.heap.size [.int .i64 k, .int .i64 n, sV y, .slice ao3 n3 cap3, .slice fa fn fc] 25 ∧ Own (w3.setCell ⟨w.heap.size, 3, none⟩ (.slice ao3 n3 cap3)) (w.heap.size + 1) [.int .i64 0, .int .i64 0, .string ⟨#[]⟩, .slice none 0 0, .slice none 0 0] 25 ∧ IsA (w3.setCell ⟨w.heap.size, 3, none⟩ (.slice ao3 n3 cap3)) (fun b => A b ∨ w.heap.size + 2 ≤ b) ⟨k, n, y, ao3, n3, cap3, fa, fn, fc⟩ t' from ⟨below_set HB3.out.1 (Nat.le_refl _) _, HB3.out.2.1.set 3 _, HB3.out.2.2.set_ne (by omega) 3 _, IsA.set HI3.out (fun h => by rcases h with h | h; have := HAA.out _ h; omega; omega) _ _⟩)
        have z3 := HB3.out.2.1.cell (i := 3) rfl
        have y0 := HB3.out.2.1.frozen 3
        clear HI3
        go_upto_region 14 with (fail)
        change Code.wp Tryz.prog _ _ _ (w3.setCell ⟨w.heap.size, 3, none⟩ (.slice ao3 n3 cap3))
        clear y0 z3 HB3
        generalize w3.setCell ⟨w.heap.size, 3, none⟩ (.slice ao3 n3 cap3) = W4 at *
        have x0 := HS.out.2.1.cell (i := 0) rfl
        have x1 := HS.out.2.1.cell (i := 1) rfl
        have x2 := HS.out.2.1.cell (i := 2) rfl
        have x3 := HS.out.2.1.cell (i := 3) rfl
        have x4 := HS.out.2.1.cell (i := 4) rfl
        have oFin := HS.out.2.2.1
        have q0 := oFin.cell (i := 0) rfl
        have q1 := oFin.cell (i := 1) rfl
        have q2 := oFin.cell (i := 2) rfl
        have q3 := oFin.cell (i := 3) rfl
        have q4 := oFin.cell (i := 4) rfl
        have g0 := oFin.frozen 0
        have g1 := oFin.frozen 1
        have g2 := oFin.frozen 2
        have g3 := oFin.frozen 3
        have g4 := oFin.frozen 4
        have HU := Lib.hid (And.intro (own_put5 oFin (.int .i64 k) (.int .i64 n) (sV y) (.slice ao3 n3 cap3) (.slice fa fn fc)) (And.intro (below_put5 (b := w.heap.size + 1) HS.out.1 (by omega) (.int .i64 k) (.int .i64 n) (sV y) (.slice ao3 n3 cap3) (.slice fa fn fc)) (HS.out.2.2.2.put5 (b := w.heap.size + 1) (fun h => by rcases h with h | h; have := HAA.out _ h; omega; omega) (.int .i64 k) (.int .i64 n) (sV y) (.slice ao3 n3 cap3) (.slice fa fn fc))))
        clear oFin
        go_wp2
        clear q0 q1 q2 q3 q4 g0 g1 g2 g3 g4
        change bodyPost Tryz.prog Tryz.f79 _ _ _ (put5 W4 (w.heap.size + 1) (.int .i64 k) (.int .i64 n) (sV y) (.slice ao3 n3 cap3) (.slice fa fn fc))
        generalize put5 W4 (w.heap.size + 1) (.int .i64 k) (.int .i64 n) (sV y) (.slice ao3 n3 cap3) (.slice fa fn fc) = U at *
        have c0 := HU.out.1.cell (i := 0) rfl
        have c1 := HU.out.1.cell (i := 1) rfl
        have c2 := HU.out.1.cell (i := 2) rfl
        have c3 := HU.out.1.cell (i := 3) rfl
        have c4 := HU.out.1.cell (i := 4) rfl
        exact bodyPost_ret (v := .agg #[.int .i64 k, .int .i64 n, sV y, .slice ao3 n3 cap3, .slice fa fn fc]) (by simp [results, Tryz.results79, go_sem, c0, c1, c2, c3, c4]) rfl ⟨⟨k, n, y, ao3, n3, cap3, fa, fn, fc⟩, rfl, HU.out.2.1, HU.out.2.2.mono (fun b hb => by rcases hb with h | h; exact Or.inl h; exact Or.inr (by omega))⟩
      · go_upto_region 13 with (first | (at_builtin; refine wpList_append_own _ rfl (.tmp 76) (.tmp 81) 22 rfl (w.heap.size + 2) 25 i25 (.agg #[.int .i64 0, .int .i64 0, .string ⟨#[]⟩, .slice none 0 0, .slice none 0 0]) 5 80 Tryz.underlying22 hi25 hz25 hs25 hy25 rfl (by decide) _ _ _ rfl hown2 ⟨b, off + (i + 1) * 5, none⟩ (l.length - (i + 1)) (lc - (i + 1)) (((cs.drop (i + 1)).take (l.length - (i + 1))).flatMap VC.cells) rfl hnl3 hsrc3 (one_all VC.cells five_one _) (by unfold maxLen; omega) (by omega) (by omega) ?_; intro v3 w3 hown3 hgrow3 hnil3))
        rw [← List.flatMap_append] at hown3
        have hb3 := below_rowq HB2.out.1 hgrow3 (fun k hk => by have := own_row hown2 k hk; omega)
        have HB3 := Lib.hid (And.intro hb3 (And.intro (own_kept' HB2.out.2.1 hgrow3 (fun e => by have := own_row hown2 _ e; omega)) (own_kept' HB2.out.2.2 hgrow3 (fun e => by have := own_row hown2 _ e; omega))))
        obtain ⟨ao3, cap3, hu3, -, -, -⟩ := (Flat.of_own hown3).out
        subst hu3
        obtain ⟨n3, hn3⟩ : ∃ q, (i + 1) + (l.length - (i + 1)) = q := ⟨_, rfl⟩
        rw [hn3] at hown3
        rw [HPT.out] at hown3
        have hnew := valsA_set (i := i) (t := uN) (FlatA.of_own (A := (fun b => A b ∨ w.heap.size + 2 ≤ b)) hown3 (fun b h => Or.inr h)) (by omega) HC.out.2.2.2.1 (fun j x u h1 h2 => (HC.out.2.2.1 j x u h1 h2).keep hb3.size (fun b h => Or.inl h) (fun b _ hlt => hb3.block b hlt)) (hK3 w3 hgrow3)
        have HI3 := Lib.hid (show IsA w3 (fun b => A b ∨ w.heap.size + 2 ≤ b) _ t' from HT.out ▸ IsA.of (c := ⟨k, n, y, ao3, n3, cap3, fa, fn, fc⟩) hnew (HC.out.2.2.2.2.all hb3 (fun b h => Or.inl h)))
        clear hnew hb3 hown3 hgrow3 hnil3 HB2 hsrc3 hnl3 z3 hK3 hown2 HC
        have HS := Lib.hid (show Below w.heap.size w (w3.setCell ⟨w.heap.size, 3, none⟩ (.slice ao3 n3 cap3)) ∧ Own (w3.setCell ⟨w.heap.size, 3, none⟩ (.slice ao3 n3 cap3)) w.heap.size [.int .i64 k, .int .i64 n, sV y, .slice ao3 n3 cap3, .slice fa fn fc] 25 ∧ Own (w3.setCell ⟨w.heap.size, 3, none⟩ (.slice ao3 n3 cap3)) (w.heap.size + 1) [.int .i64 0, .int .i64 0, .string ⟨#[]⟩, .slice none 0 0, .slice none 0 0] 25 ∧ IsA (w3.setCell ⟨w.heap.size, 3, none⟩ (.slice ao3 n3 cap3)) (fun b => A b ∨ w.heap.size + 2 ≤ b) ⟨k, n, y, ao3, n3, cap3, fa, fn, fc⟩ t' from ⟨below_set HB3.out.1 (Nat.le_refl _) _, HB3.out.2.1.set 3 _, HB3.out.2.2.set_ne (by omega) 3 _, IsA.set HI3.out (fun h => by rcases h with h | h; have := HAA.out _ h; omega; omega) _ _⟩)
        have z3 := HB3.out.2.1.cell (i := 3) rfl
        have y0 := HB3.out.2.1.frozen 3
        clear HI3
        go_upto_region 14 with (fail)
        change Code.wp Tryz.prog _ _ _ (w3.setCell ⟨w.heap.size, 3, none⟩ (.slice ao3 n3 cap3))
        clear y0 z3 HB3
        generalize w3.setCell ⟨w.heap.size, 3, none⟩ (.slice ao3 n3 cap3) = W4 at *
        have x0 := HS.out.2.1.cell (i := 0) rfl
        have x1 := HS.out.2.1.cell (i := 1) rfl
        have x2 := HS.out.2.1.cell (i := 2) rfl
        have x3 := HS.out.2.1.cell (i := 3) rfl
        have x4 := HS.out.2.1.cell (i := 4) rfl
        have oFin := HS.out.2.2.1
        have q0 := oFin.cell (i := 0) rfl
        have q1 := oFin.cell (i := 1) rfl
        have q2 := oFin.cell (i := 2) rfl
        have q3 := oFin.cell (i := 3) rfl
        have q4 := oFin.cell (i := 4) rfl
        have g0 := oFin.frozen 0
        have g1 := oFin.frozen 1
        have g2 := oFin.frozen 2
        have g3 := oFin.frozen 3
        have g4 := oFin.frozen 4
        have HU := Lib.hid (And.intro (own_put5 oFin (.int .i64 k) (.int .i64 n) (sV y) (.slice ao3 n3 cap3) (.slice fa fn fc)) (And.intro (below_put5 (b := w.heap.size + 1) HS.out.1 (by omega) (.int .i64 k) (.int .i64 n) (sV y) (.slice ao3 n3 cap3) (.slice fa fn fc)) (HS.out.2.2.2.put5 (b := w.heap.size + 1) (fun h => by rcases h with h | h; have := HAA.out _ h; omega; omega) (.int .i64 k) (.int .i64 n) (sV y) (.slice ao3 n3 cap3) (.slice fa fn fc))))
        clear oFin
        go_wp2
        clear q0 q1 q2 q3 q4 g0 g1 g2 g3 g4
        change bodyPost Tryz.prog Tryz.f79 _ _ _ (put5 W4 (w.heap.size + 1) (.int .i64 k) (.int .i64 n) (sV y) (.slice ao3 n3 cap3) (.slice fa fn fc))
        generalize put5 W4 (w.heap.size + 1) (.int .i64 k) (.int .i64 n) (sV y) (.slice ao3 n3 cap3) (.slice fa fn fc) = U at *
        have c0 := HU.out.1.cell (i := 0) rfl
        have c1 := HU.out.1.cell (i := 1) rfl
        have c2 := HU.out.1.cell (i := 2) rfl
        have c3 := HU.out.1.cell (i := 3) rfl
        have c4 := HU.out.1.cell (i := 4) rfl
        exact bodyPost_ret (v := .agg #[.int .i64 k, .int .i64 n, sV y, .slice ao3 n3 cap3, .slice fa fn fc]) (by simp [results, Tryz.results79, go_sem, c0, c1, c2, c3, c4]) rfl ⟨⟨k, n, y, ao3, n3, cap3, fa, fn, fc⟩, rfl, HU.out.2.1, HU.out.2.2.mono (fun b hb => by rcases hb with h | h; exact Or.inl h; exact Or.inr (by omega))⟩
end Go.Proofs.YtjpmnlefjmdelaaGreatDoor
namespace Go.Proofs.YtjpmnlefjmdelaaGreatDoor
open Go.RowKit Go.Sort Go.Proofs.LawFrame

def resG (p : List S) (t : T) : T × Bool := if pathOk p = true then (match findT t p with
  | some u => (u, true)
  | none => (T0, false)) else (T0, false)
theorem QGr.res {w w' : World} {t : T} {p : List S} {e : Ending} (h : QGr w t p e w') : ∃ c' : VC, e = .returned (.tuple #[c'.val, .bool (resG p t).2]) ∧ Is w' c' (resG p t).1 := by
  unfold resG
  by_cases hk : pathOk p = true
  · rw [if_pos hk]
    cases hf : findT t p with
    | none => exact ⟨VC0, h.no (fun _ => hf), (isA_zero _ (fun _ => True)).is⟩
    | some u => obtain ⟨c', h1, h2⟩ := h.ok hk u hf; exact ⟨c', h1, h2.all h.below⟩
  · rw [if_neg hk]
    exact ⟨VC0, h.no (fun h => absurd h hk), (isA_zero _ (fun _ => True)).is⟩
theorem resG_true {p : List S} {t : T} (h : (resG p t).2 = true) : pathOk p = true ∧ ∃ u, findT t p = some u := by
  unfold resG at h
  by_cases hk : pathOk p = true
  · rw [if_pos hk] at h
    cases hf : findT t p with
    | none => rw [hf] at h; cases h
    | some u => exact ⟨hk, u, rfl⟩
  · rw [if_neg hk] at h; cases h
theorem resG_false {p : List S} {t : T} (h : (resG p t).2 = false) (hk : pathOk p = true) : findT t p = none := by
  unfold resG at h
  rw [if_pos hk] at h
  cases hf : findT t p with
  | none => rfl
  | some u => rw [hf] at h; cases h
theorem rem_find' : ∀ {p : List S} {t : T}, (∀ s ∈ p, stepOk s = true) → ¬ p = [] → (remT p t = none ↔ findT t p = none)
  | [], t, _, h => absurd rfl h
  | [s], t, hs, _ => by
    rw [remT, findT_step]
    unfold kid
    cases hp : place s t with
    | none => simp
    | some i =>
      obtain ⟨c, hc⟩ := kid_some (stepOk_ix (hs s (by simp))).1 hp
      simp only [hc]
      simp [findT]
  | s :: s' :: p, t, hs, _ => by
    rw [remT, findT_step]
    unfold kid
    cases hp : place s t with
    | none => simp
    | some i =>
      obtain ⟨c, hc⟩ := kid_some (stepOk_ix (hs s (by simp))).1 hp
      simp only [hc]
      rw [← rem_find' (p := s' :: p) (t := c) (fun z hz => hs z (List.mem_cons_of_mem _ hz)) (by simp)]
      cases remT (s' :: p) c <;> simp

set_option maxHeartbeats 8000000 in
set_option maxRecDepth 4000 in
theorem premove_any (c : VC) (t : T) (v : Value) (p : List S) (w : World) (hI : Is w c t) (hz : t.size ≤ 4000) (hp : Stps w v p) (hn : p.length ≤ 100000) (hs : ∀ s ∈ p, s.nm.length ≤ 1000000 ∧ s.vl.length ≤ 1000000) : Calls Tryz.prog 37 #[c.val, v] w (QRm w t p) := by
  obtain ⟨ck, cn, cs, cla, cln, clc, cfa, cfn, cfc⟩ := c
  obtain ⟨ao, cp, rfl, hpc, hpm⟩ := Stps.form hp
  unfold maxLen at hpm
  obtain ⟨n, hnn⟩ : ∃ n, p.length = n := ⟨_, rfl⟩
  rw [hnn] at hp hpc
  have hn' : n ≤ 100000 := by omega
  have HLN := Lib.hid hnn
  have HHN := Lib.hid (And.intro hn hs)
  show Calls Tryz.prog 37 #[.agg #[.int .i64 ck, .int .i64 cn, sV cs, .slice cla cln clc, .slice cfa cfn cfc], .slice ao p.length cp] w _
  rw [hnn]
  clear hnn hn hs
  have hb0 : Below w.heap.size w ((w.alloc (.cells #[.int .i64 ck, .int .i64 cn, sV cs, .slice cla cln clc, .slice cfa cfn cfc] 25)).alloc (.cells #[.int .i64 0, .int .i64 0, .string ⟨#[]⟩, .slice none 0 0, .slice none 0 0] 25)) := ((Below.refl _ _).alloc (Nat.le_refl _) _).alloc (by simp) _
  have HS := Lib.hid (show Below w.heap.size w ((w.alloc (.cells #[.int .i64 ck, .int .i64 cn, sV cs, .slice cla cln clc, .slice cfa cfn cfc] 25)).alloc (.cells #[.int .i64 0, .int .i64 0, .string ⟨#[]⟩, .slice none 0 0, .slice none 0 0] 25)) ∧ Own ((w.alloc (.cells #[.int .i64 ck, .int .i64 cn, sV cs, .slice cla cln clc, .slice cfa cfn cfc] 25)).alloc (.cells #[.int .i64 0, .int .i64 0, .string ⟨#[]⟩, .slice none 0 0, .slice none 0 0] 25)) w.heap.size [.int .i64 ck, .int .i64 cn, sV cs, .slice cla cln clc, .slice cfa cfn cfc] 25 ∧ Own ((w.alloc (.cells #[.int .i64 ck, .int .i64 cn, sV cs, .slice cla cln clc, .slice cfa cfn cfc] 25)).alloc (.cells #[.int .i64 0, .int .i64 0, .string ⟨#[]⟩, .slice none 0 0, .slice none 0 0] 25)) (w.heap.size + 1) [.int .i64 0, .int .i64 0, .string ⟨#[]⟩, .slice none 0 0, .slice none 0 0] 25 ∧ Stps ((w.alloc (.cells #[.int .i64 ck, .int .i64 cn, sV cs, .slice cla cln clc, .slice cfa cfn cfc] 25)).alloc (.cells #[.int .i64 0, .int .i64 0, .string ⟨#[]⟩, .slice none 0 0, .slice none 0 0] 25)) (.slice ao n cp) p from ⟨hb0, (Own.new _ _ _).alloc _, Own.new_at (by rw [size_alloc]) _ _, Flat.all hp hb0⟩)
  have HI := Lib.hid hI
  clear hb0 hI hp
  go_enter Tryz.func37, Tryz.ntmps37
  go_upto_region 1 with (fail)
  change Code.wp Tryz.prog _ _ _ ((w.alloc (.cells #[.int .i64 ck, .int .i64 cn, sV cs, .slice cla cln clc, .slice cfa cfn cfc] 25)).alloc (.cells #[.int .i64 0, .int .i64 0, .string ⟨#[]⟩, .slice none 0 0, .slice none 0 0] 25))
  generalize ((w.alloc (.cells #[.int .i64 ck, .int .i64 cn, sV cs, .slice cla cln clc, .slice cfa cfn cfc] 25)).alloc (.cells #[.int .i64 0, .int .i64 0, .string ⟨#[]⟩, .slice none 0 0, .slice none 0 0] 25)) = V at *
  have C := Lib.hid (pget_any ⟨ck, cn, cs, cla, cln, clc, cfa, cfn, cfc⟩ t _ p V (HI.out.all HS.out.1) HS.out.2.2.2 HHN.out.1 HHN.out.2)
  have x0 := HS.out.2.1.cell (i := 0) rfl
  have x1 := HS.out.2.1.cell (i := 1) rfl
  have x2 := HS.out.2.1.cell (i := 2) rfl
  have x3 := HS.out.2.1.cell (i := 3) rfl
  have x4 := HS.out.2.1.cell (i := 4) rfl
  go_wp2_with fail
  refine C.out.mono ?_
  intro e w1 hres
  obtain ⟨⟨dk, dn, ds, dla, dln, dlc, dfa, dfn, dfc⟩, he, hId⟩ := hres.res
  obtain ⟨B, hB⟩ : ∃ B, (resG p t).2 = B := ⟨_, rfl⟩
  rw [hB] at he
  subst he
  have HB := Lib.hid hB
  have hbr := hres.below
  have hbA := below_alloc w1 (.cells #[.int .i64 dk, .int .i64 dn, sV ds, .slice dla dln dlc, .slice dfa dfn dfc] 25)
  have HS1 := Lib.hid (show Below w.heap.size w w1 ∧ Own w1 w.heap.size [.int .i64 ck, .int .i64 cn, sV cs, .slice cla cln clc, .slice cfa cfn cfc] 25 ∧ Own w1 (w.heap.size + 1) [.int .i64 0, .int .i64 0, .string ⟨#[]⟩, .slice none 0 0, .slice none 0 0] 25 ∧ Stps w1 (.slice ao n cp) p from ⟨below_all HS.out.1 hbr, HS.out.2.1.all hbr, HS.out.2.2.1.all hbr, Flat.all HS.out.2.2.2 hbr⟩)
  have HS2 := Lib.hid (show Below w.heap.size w (w1.alloc (.cells #[.int .i64 dk, .int .i64 dn, sV ds, .slice dla dln dlc, .slice dfa dfn dfc] 25)) ∧ Own (w1.alloc (.cells #[.int .i64 dk, .int .i64 dn, sV ds, .slice dla dln dlc, .slice dfa dfn dfc] 25)) w.heap.size [.int .i64 ck, .int .i64 cn, sV cs, .slice cla cln clc, .slice cfa cfn cfc] 25 ∧ Own (w1.alloc (.cells #[.int .i64 dk, .int .i64 dn, sV ds, .slice dla dln dlc, .slice dfa dfn dfc] 25)) (w.heap.size + 1) [.int .i64 0, .int .i64 0, .string ⟨#[]⟩, .slice none 0 0, .slice none 0 0] 25 ∧ Stps (w1.alloc (.cells #[.int .i64 dk, .int .i64 dn, sV ds, .slice dla dln dlc, .slice dfa dfn dfc] 25)) (.slice ao n cp) p from ⟨below_all HS1.out.1 hbA, HS1.out.2.1.all hbA, HS1.out.2.2.1.all hbA, Flat.all HS1.out.2.2.2 hbA⟩)
  clear C hB hres hbr hbA hId HS HS1
  clear x0 x1 x2 x3 x4
  go_upto_region 2 with (fail)
  change Code.wp Tryz.prog _ _ _ (w1.alloc (.cells #[.int .i64 dk, .int .i64 dn, sV ds, .slice dla dln dlc, .slice dfa dfn dfc] 25))
  generalize w1.alloc (.cells #[.int .i64 dk, .int .i64 dn, sV ds, .slice dla dln dlc, .slice dfa dfn dfc] 25) = W2 at *
  cases B with
  | false =>
    have HQ : Hid ((¬ p = [] ∧ pathOk p = true) → remT p t = none) := Lib.hid (fun h => (rem_find' (pathOk_all h.2).2 h.1).2 (resG_false HB.out h.2))
    have oFin := HS2.out.2.2.1
    have q0 := oFin.cell (i := 0) rfl
    have q1 := oFin.cell (i := 1) rfl
    have q2 := oFin.cell (i := 2) rfl
    have q3 := oFin.cell (i := 3) rfl
    have q4 := oFin.cell (i := 4) rfl
    have g0 := oFin.frozen 0
    have g1 := oFin.frozen 1
    have g2 := oFin.frozen 2
    have g3 := oFin.frozen 3
    have g4 := oFin.frozen 4
    have HU := Lib.hid (And.intro (own_put5 oFin (.int .i64 0) (.int .i64 0) (.string ⟨#[]⟩) (.slice none 0 0) (.slice none 0 0)) (below_put5 (b := w.heap.size + 1) HS2.out.1 (by omega) (.int .i64 0) (.int .i64 0) (.string ⟨#[]⟩) (.slice none 0 0) (.slice none 0 0)))
    clear oFin
    go_wp2
    clear q0 q1 q2 q3 q4 g0 g1 g2 g3 g4
    change bodyPost Tryz.prog Tryz.f37 _ _ _ (put5 W2 (w.heap.size + 1) (.int .i64 0) (.int .i64 0) (.string ⟨#[]⟩) (.slice none 0 0) (.slice none 0 0))
    generalize put5 W2 (w.heap.size + 1) (.int .i64 0) (.int .i64 0) (.string ⟨#[]⟩) (.slice none 0 0) (.slice none 0 0) = U at *
    have c0 := HU.out.1.cell (i := 0) rfl
    have c1 := HU.out.1.cell (i := 1) rfl
    have c2 := HU.out.1.cell (i := 2) rfl
    have c3 := HU.out.1.cell (i := 3) rfl
    have c4 := HU.out.1.cell (i := 4) rfl
    exact bodyPost_ret (v := .tuple #[.agg #[.int .i64 0, .int .i64 0, .string ⟨#[]⟩, .slice none 0 0, .slice none 0 0], .bool false]) (by simp [results, Tryz.results37, go_sem, c0, c1, c2, c3, c4]) rfl ⟨HU.out.2, fun _ => rfl, fun h u hu => by rw [HQ.out h] at hu; cases hu⟩
  | true =>
    have HG := Lib.hid (resG_true HB.out)
    cases n with
    | zero =>
      have HP0 := Lib.hid (List.eq_nil_of_length_eq_zero HLN.out)
      have oFin := HS2.out.2.2.1
      have q0 := oFin.cell (i := 0) rfl
      have q1 := oFin.cell (i := 1) rfl
      have q2 := oFin.cell (i := 2) rfl
      have q3 := oFin.cell (i := 3) rfl
      have q4 := oFin.cell (i := 4) rfl
      have g0 := oFin.frozen 0
      have g1 := oFin.frozen 1
      have g2 := oFin.frozen 2
      have g3 := oFin.frozen 3
      have g4 := oFin.frozen 4
      have HU := Lib.hid (And.intro (own_put5 oFin (.int .i64 0) (.int .i64 0) (.string ⟨#[]⟩) (.slice none 0 0) (.slice none 0 0)) (below_put5 (b := w.heap.size + 1) HS2.out.1 (by omega) (.int .i64 0) (.int .i64 0) (.string ⟨#[]⟩) (.slice none 0 0) (.slice none 0 0)))
      clear oFin
      go_wp2
      clear q0 q1 q2 q3 q4 g0 g1 g2 g3 g4
      change bodyPost Tryz.prog Tryz.f37 _ _ _ (put5 W2 (w.heap.size + 1) (.int .i64 0) (.int .i64 0) (.string ⟨#[]⟩) (.slice none 0 0) (.slice none 0 0))
      generalize put5 W2 (w.heap.size + 1) (.int .i64 0) (.int .i64 0) (.string ⟨#[]⟩) (.slice none 0 0) (.slice none 0 0) = U at *
      have c0 := HU.out.1.cell (i := 0) rfl
      have c1 := HU.out.1.cell (i := 1) rfl
      have c2 := HU.out.1.cell (i := 2) rfl
      have c3 := HU.out.1.cell (i := 3) rfl
      have c4 := HU.out.1.cell (i := 4) rfl
      exact bodyPost_ret (v := .tuple #[.agg #[.int .i64 0, .int .i64 0, .string ⟨#[]⟩, .slice none 0 0, .slice none 0 0], .bool false]) (by simp [results, Tryz.results37, go_sem, c0, c1, c2, c3, c4]) rfl ⟨HU.out.2, fun _ => rfl, fun h u hu => absurd HP0.out h.1⟩
    | succ m =>
      have hne : ¬ p = [] := fun h => by have := HLN.out; rw [h] at this; simp at this
      obtain ⟨t', ht'⟩ : ∃ t', remT p t = some t' := by
        cases hq : remT p t with
        | some t' => exact ⟨t', rfl⟩
        | none =>
          obtain ⟨hk, u, hu⟩ := HG.out
          have := (rem_find' (pathOk_all hk).2 hne).1 hq
          rw [hu] at this; cases this
      have HR := Lib.hid (And.intro hne (And.intro HG.out.1 ht'))
      have C := Lib.hid (pcut_any p _ W2 HS2.out.2.2.2 (fun b => b < w.heap.size) (fun b hb => Nat.lt_of_lt_of_le hb HS2.out.1.size) ⟨ck, cn, cs, cla, cln, clc, cfa, cfn, cfc⟩ t t' ((Is.isA HI.out).all HS2.out.1) ht' hz (pathOk_all HG.out.1).2)
      have x0 := HS2.out.2.1.cell (i := 0) rfl
      have x1 := HS2.out.2.1.cell (i := 1) rfl
      have x2 := HS2.out.2.1.cell (i := 2) rfl
      have x3 := HS2.out.2.1.cell (i := 3) rfl
      have x4 := HS2.out.2.1.cell (i := 4) rfl
      clear hne ht'
      go_wp2_with fail
      refine C.out.mono ?_
      rintro e w3 ⟨⟨gk, gn, gs, gla, gln, glc, gfa, gfn, gfc⟩, rfl, hb3, hIg⟩
      have hsz := HS2.out.2.2.1.lt
      have HS3 := Lib.hid (show Below w.heap.size w w3 ∧ Own w3 w.heap.size [.int .i64 ck, .int .i64 cn, sV cs, .slice cla cln clc, .slice cfa cfn cfc] 25 ∧ Own w3 (w.heap.size + 1) [.int .i64 0, .int .i64 0, .string ⟨#[]⟩, .slice none 0 0, .slice none 0 0] 25 ∧ Stps w3 (.slice ao (m + 1) cp) p from ⟨below_all HS2.out.1 hb3, HS2.out.2.1.all hb3, HS2.out.2.2.1.all hb3, Flat.all HS2.out.2.2.2 hb3⟩)
      have HG3 := Lib.hid hIg
      clear C hb3 hIg
      clear x0 x1 x2 x3 x4
      have oFin := HS3.out.2.2.1
      have q0 := oFin.cell (i := 0) rfl
      have q1 := oFin.cell (i := 1) rfl
      have q2 := oFin.cell (i := 2) rfl
      have q3 := oFin.cell (i := 3) rfl
      have q4 := oFin.cell (i := 4) rfl
      have g0 := oFin.frozen 0
      have g1 := oFin.frozen 1
      have g2 := oFin.frozen 2
      have g3 := oFin.frozen 3
      have g4 := oFin.frozen 4
      have HU := Lib.hid (And.intro (own_put5 oFin (.int .i64 gk) (.int .i64 gn) (sV gs) (.slice gla gln glc) (.slice gfa gfn gfc)) (And.intro (below_put5 (b := w.heap.size + 1) HS3.out.1 (by omega) (.int .i64 gk) (.int .i64 gn) (sV gs) (.slice gla gln glc) (.slice gfa gfn gfc)) (HG3.out.put5 (b := w.heap.size + 1) (fun h => by rcases h with h | h <;> omega) (.int .i64 gk) (.int .i64 gn) (sV gs) (.slice gla gln glc) (.slice gfa gfn gfc))))
      clear oFin
      go_wp2
      clear q0 q1 q2 q3 q4 g0 g1 g2 g3 g4
      change bodyPost Tryz.prog Tryz.f37 _ _ _ (put5 w3 (w.heap.size + 1) (.int .i64 gk) (.int .i64 gn) (sV gs) (.slice gla gln glc) (.slice gfa gfn gfc))
      generalize put5 w3 (w.heap.size + 1) (.int .i64 gk) (.int .i64 gn) (sV gs) (.slice gla gln glc) (.slice gfa gfn gfc) = U at *
      have c0 := HU.out.1.cell (i := 0) rfl
      have c1 := HU.out.1.cell (i := 1) rfl
      have c2 := HU.out.1.cell (i := 2) rfl
      have c3 := HU.out.1.cell (i := 3) rfl
      have c4 := HU.out.1.cell (i := 4) rfl
      exact bodyPost_ret (v := .tuple #[.agg #[.int .i64 gk, .int .i64 gn, sV gs, .slice gla gln glc, .slice gfa gfn gfc], .bool true]) (by simp [results, Tryz.results37, go_sem, c0, c1, c2, c3, c4]) rfl ⟨HU.out.2.1, fun h => (by have := h ⟨HR.out.1, HR.out.2.1⟩; rw [HR.out.2.2] at this; cases this), fun _ u hu => ⟨⟨gk, gn, gs, gla, gln, glc, gfa, gfn, gfc⟩, rfl, by rw [HR.out.2.2] at hu; cases hu; exact HU.out.2.2.is⟩⟩
end Go.Proofs.YtjpmnlefjmdelaaGreatDoor
namespace Go.Proofs.YtjpmnlefjmdelaaGreatDoor
open Go.RowKit Go.Sort Go.Proofs.LawFrame

def resR (p : List S) (t : T) : T × Bool := if p.isEmpty = false ∧ pathOk p = true then (match remT p t with
  | some u => (u, true)
  | none => (T0, false)) else (T0, false)
theorem QG.res {w w' : World} {t : T} {p : List S} {e : Ending} (h : QG w t p e w') : ∃ c' : VC, e = .returned (.tuple #[c'.val, .bool (resG p t).2]) ∧ Is w' c' (resG p t).1 := by
  unfold resG
  by_cases hk : pathOk p = true
  · rw [if_pos hk]
    cases hf : findT t p with
    | none => exact ⟨VC0, h.no (fun _ => hf), (isA_zero _ (fun _ => True)).is⟩
    | some u => obtain ⟨c', hi, h1, _, _, h2⟩ := h.ok hk u hf; exact ⟨c', h1, h2.is⟩
  · rw [if_neg hk]
    exact ⟨VC0, h.no (fun h => absurd h hk), (isA_zero _ (fun _ => True)).is⟩
theorem QRm.res {w w' : World} {t : T} {p : List S} {e : Ending} (h : QRm w t p e w') : ∃ c' : VC, e = .returned (.tuple #[c'.val, .bool (resR p t).2]) ∧ Is w' c' (resR p t).1 := by
  unfold resR
  by_cases hk : p.isEmpty = false ∧ pathOk p = true
  · have hk' : ¬ p = [] ∧ pathOk p = true := ⟨fun h => (by have := hk.1; rw [h] at this; cases this), hk.2⟩
    rw [if_pos hk]
    cases hf : remT p t with
    | none => exact ⟨VC0, h.no (fun _ => hf), (isA_zero _ (fun _ => True)).is⟩
    | some u => obtain ⟨c', h1, h2⟩ := h.ok hk' u hf; exact ⟨c', h1, h2⟩
  · have hk' : ¬ (¬ p = [] ∧ pathOk p = true) := by
      rintro ⟨h1, h2⟩
      refine hk ⟨?_, h2⟩
      rcases p with _ | ⟨s, p⟩
      · exact absurd rfl h1
      · rfl
    rw [if_neg hk]
    exact ⟨VC0, h.no (fun h => absurd h hk'), (isA_zero _ (fun _ => True)).is⟩

set_option maxHeartbeats 16000000 in
set_option maxRecDepth 4000 in
theorem pathGets_walk (c : VC) (t : T) (v1 : Value) (p : List S) (w : World) (hI : Is w c t) (hst : t.strB 140737488355328) (hp : Stps w v1 p) :
    Calls Tryz.prog 10 #[c.val, v1] w fun e w' => e = .returned (.bool true) ∧ Below w.heap.size w w' := by
  obtain ⟨ck, cn, cs, cla, cln, clc, cfa, cfn, cfc⟩ := c
  obtain ⟨ao, cp, hv, hpc, hpm⟩ := Stps.form hp
  unfold maxLen at hpm
  obtain ⟨n, hn⟩ : ∃ n, p.length = n := ⟨_, rfl⟩
  rw [hn] at hv hpc
  subst hv
  have HN := Lib.hid hn
  clear hn
  show Calls Tryz.prog 10 #[.agg #[.int .i64 ck, .int .i64 cn, sV cs, .slice cla cln clc, .slice cfa cfn cfc], .slice ao n cp] w _
  have hb0 := below_alloc w (.cells #[.int .i64 ck, .int .i64 cn, sV cs, .slice cla cln clc, .slice cfa cfn cfc] 25)
  have o0 := Own.new w [.int .i64 ck, .int .i64 cn, sV cs, .slice cla cln clc, .slice cfa cfn cfc] 25
  have HS := Lib.hid (And.intro hb0 (And.intro o0 (And.intro (hI.all hb0) (Flat.all hp hb0))))
  have HT := Lib.hid hst
  clear hb0 o0 hI hp hst
  go_enter Tryz.func10, Tryz.ntmps10
  go_upto_region 1 with (fail)
  change Code.wp Tryz.prog _ _ _ (w.alloc (.cells #[.int .i64 ck, .int .i64 cn, sV cs, .slice cla cln clc, .slice cfa cfn cfc] 25))
  generalize w.alloc (.cells #[.int .i64 ck, .int .i64 cn, sV cs, .slice cla cln clc, .slice cfa cfn cfc] 25) = V at *
  have x0 := HS.out.2.1.cell (i := 0) rfl
  have x1 := HS.out.2.1.cell (i := 1) rfl
  have x2 := HS.out.2.1.cell (i := 2) rfl
  have x3 := HS.out.2.1.cell (i := 3) rfl
  have x4 := HS.out.2.1.cell (i := 4) rfl
  have C := Lib.hid (few2000_any t ⟨ck, cn, cs, cla, cln, clc, cfa, cfn, cfc⟩ V HS.out.2.2.1 HT.out)
  obtain ⟨B0, hB0⟩ : ∃ B, decide (0 ≤ leftT t 2000) = B := ⟨_, rfl⟩
  rw [hB0] at C
  have HB0 := Lib.hid hB0
  clear hB0
  go_wp2_with fail
  refine C.out.mono ?_
  rintro e w1 ⟨rfl, hb1⟩
  have HS1 := Lib.hid (show Below w.heap.size w w1 ∧ Own w1 w.heap.size [.int .i64 ck, .int .i64 cn, sV cs, .slice cla cln clc, .slice cfa cfn cfc] 25 ∧ Is w1 ⟨ck, cn, cs, cla, cln, clc, cfa, cfn, cfc⟩ t ∧ Stps w1 (.slice ao n cp) p from ⟨below_all HS.out.1 hb1, HS.out.2.1.all hb1, HS.out.2.2.1.all hb1, Flat.all HS.out.2.2.2 hb1⟩)
  clear C hb1 HS
  clear x0 x1 x2 x3 x4
  cases B0 with
  | false =>
    have CL := Lib.hid (plives_any w1)
    go_wp2_with fail
    refine CL.out.mono ?_
    rintro e wl ⟨rfl, hbl⟩
    have HBl := Lib.hid (below_all HS1.out.1 hbl)
    clear CL hbl
    go_wp2
    go_ret
    exact ⟨rfl, HBl.out⟩
  | true =>
    have C := Lib.hid (few_any _ p w1 HS1.out.2.2.2)
    obtain ⟨B1, hB1⟩ : ∃ B, fewOk p = B := ⟨_, rfl⟩
    rw [hB1] at C
    have HB1 := Lib.hid hB1
    clear hB1
    go_wp2_with fail
    refine C.out.mono ?_
    rintro e w2 ⟨rfl, hb2⟩
    have HS2 := Lib.hid (show Below w.heap.size w w2 ∧ Own w2 w.heap.size [.int .i64 ck, .int .i64 cn, sV cs, .slice cla cln clc, .slice cfa cfn cfc] 25 ∧ Is w2 ⟨ck, cn, cs, cla, cln, clc, cfa, cfn, cfc⟩ t ∧ Stps w2 (.slice ao n cp) p from ⟨below_all HS1.out.1 hb2, HS1.out.2.1.all hb2, HS1.out.2.2.1.all hb2, Flat.all HS1.out.2.2.2 hb2⟩)
    clear C hb2 HS1
    cases B1 with
    | false =>
      have CL := Lib.hid (plives_any w2)
      go_wp2_with fail
      refine CL.out.mono ?_
      rintro e wl ⟨rfl, hbl⟩
      have HBl := Lib.hid (below_all HS2.out.1 hbl)
      clear CL hbl
      go_wp2
      go_ret
      exact ⟨rfl, HBl.out⟩
    | true =>
      have HF := Lib.hid (fewOk_iff HB1.out)
      have HSZ := Lib.hid (few2000 HT.out HB0.out)
      have C := Lib.hid (pathGet_any ⟨ck, cn, cs, cla, cln, clc, cfa, cfn, cfc⟩ t _ p w2 HS2.out.2.2.1 (by have := HSZ.out.1; omega) HS2.out.2.2.2 (by have := HF.out.1; omega))
      have x0 := HS2.out.2.1.cell (i := 0) rfl
      have x1 := HS2.out.2.1.cell (i := 1) rfl
      have x2 := HS2.out.2.1.cell (i := 2) rfl
      have x3 := HS2.out.2.1.cell (i := 3) rfl
      have x4 := HS2.out.2.1.cell (i := 4) rfl
      go_wp2_with fail
      refine C.out.mono ?_
      intro e wr3 hres
      obtain ⟨⟨gk, gn, gs, gla, gln, glc, gfa, gfn, gfc⟩, he, hId⟩ := hres.res
      obtain ⟨Bg, hBB⟩ : ∃ B, (resG p t).2 = B := ⟨_, rfl⟩
      rw [hBB] at he
      subst he
      have HBBg := Lib.hid hBB
      have hbr := hres.below
      have hbA := below_alloc wr3 (.cells #[.int .i64 gk, .int .i64 gn, sV gs, .slice gla gln glc, .slice gfa gfn gfc] 25)
      have HA3 := Lib.hid (show Below w.heap.size w wr3 ∧ Own wr3 w.heap.size [.int .i64 ck, .int .i64 cn, sV cs, .slice cla cln clc, .slice cfa cfn cfc] 25 ∧ Is wr3 ⟨ck, cn, cs, cla, cln, clc, cfa, cfn, cfc⟩ t ∧ Stps wr3 (.slice ao n cp) p from ⟨below_all HS2.out.1 hbr, HS2.out.2.1.all hbr, HS2.out.2.2.1.all hbr, Flat.all HS2.out.2.2.2 hbr⟩)
      have HS3 := Lib.hid (show Below w.heap.size w (wr3.alloc (.cells #[.int .i64 gk, .int .i64 gn, sV gs, .slice gla gln glc, .slice gfa gfn gfc] 25)) ∧ Own (wr3.alloc (.cells #[.int .i64 gk, .int .i64 gn, sV gs, .slice gla gln glc, .slice gfa gfn gfc] 25)) w.heap.size [.int .i64 ck, .int .i64 cn, sV cs, .slice cla cln clc, .slice cfa cfn cfc] 25 ∧ Is (wr3.alloc (.cells #[.int .i64 gk, .int .i64 gn, sV gs, .slice gla gln glc, .slice gfa gfn gfc] 25)) ⟨ck, cn, cs, cla, cln, clc, cfa, cfn, cfc⟩ t ∧ Stps (wr3.alloc (.cells #[.int .i64 gk, .int .i64 gn, sV gs, .slice gla gln glc, .slice gfa gfn gfc] 25)) (.slice ao n cp) p from ⟨below_all HA3.out.1 hbA, HA3.out.2.1.all hbA, HA3.out.2.2.1.all hbA, Flat.all HA3.out.2.2.2 hbA⟩)
      have Hg3 := Lib.hid (And.intro (Own.new wr3 [.int .i64 gk, .int .i64 gn, sV gs, .slice gla gln glc, .slice gfa gfn gfc] 25) (hId.all hbA))
      clear C hBB hres hbr hbA hId HS2 HA3 
      clear x0 x1 x2 x3 x4
      go_upto_region 4 with (fail)
      change Code.wp Tryz.prog _ _ _ (wr3.alloc (.cells #[.int .i64 gk, .int .i64 gn, sV gs, .slice gla gln glc, .slice gfa gfn gfc] 25))
      generalize wr3.alloc (.cells #[.int .i64 gk, .int .i64 gn, sV gs, .slice gla gln glc, .slice gfa gfn gfc] 25) = W3 at *
      generalize wr3.heap.size = bg at *
      have C := Lib.hid (pget_any ⟨ck, cn, cs, cla, cln, clc, cfa, cfn, cfc⟩ t _ p W3 HS3.out.2.2.1 HS3.out.2.2.2 (by have := HF.out.1; omega) (fun s hs => by have := HF.out.2 s hs; omega))
      have x0 := HS3.out.2.1.cell (i := 0) rfl
      have x1 := HS3.out.2.1.cell (i := 1) rfl
      have x2 := HS3.out.2.1.cell (i := 2) rfl
      have x3 := HS3.out.2.1.cell (i := 3) rfl
      have x4 := HS3.out.2.1.cell (i := 4) rfl
      go_wp2_with fail
      refine C.out.mono ?_
      intro e wr4 hres
      obtain ⟨⟨hk, hn, hs, hla, hln, hlc, hfa, hfn, hfc⟩, he, hId⟩ := hres.res
      obtain ⟨Bh, hBB⟩ : ∃ B, (resG p t).2 = B := ⟨_, rfl⟩
      rw [hBB] at he
      subst he
      have HBBh := Lib.hid hBB
      have hbr := hres.below
      have hbA := below_alloc wr4 (.cells #[.int .i64 hk, .int .i64 hn, sV hs, .slice hla hln hlc, .slice hfa hfn hfc] 25)
      have HA4 := Lib.hid (show Below w.heap.size w wr4 ∧ Own wr4 w.heap.size [.int .i64 ck, .int .i64 cn, sV cs, .slice cla cln clc, .slice cfa cfn cfc] 25 ∧ Is wr4 ⟨ck, cn, cs, cla, cln, clc, cfa, cfn, cfc⟩ t ∧ Stps wr4 (.slice ao n cp) p from ⟨below_all HS3.out.1 hbr, HS3.out.2.1.all hbr, HS3.out.2.2.1.all hbr, Flat.all HS3.out.2.2.2 hbr⟩)
      have HS4 := Lib.hid (show Below w.heap.size w (wr4.alloc (.cells #[.int .i64 hk, .int .i64 hn, sV hs, .slice hla hln hlc, .slice hfa hfn hfc] 25)) ∧ Own (wr4.alloc (.cells #[.int .i64 hk, .int .i64 hn, sV hs, .slice hla hln hlc, .slice hfa hfn hfc] 25)) w.heap.size [.int .i64 ck, .int .i64 cn, sV cs, .slice cla cln clc, .slice cfa cfn cfc] 25 ∧ Is (wr4.alloc (.cells #[.int .i64 hk, .int .i64 hn, sV hs, .slice hla hln hlc, .slice hfa hfn hfc] 25)) ⟨ck, cn, cs, cla, cln, clc, cfa, cfn, cfc⟩ t ∧ Stps (wr4.alloc (.cells #[.int .i64 hk, .int .i64 hn, sV hs, .slice hla hln hlc, .slice hfa hfn hfc] 25)) (.slice ao n cp) p from ⟨below_all HA4.out.1 hbA, HA4.out.2.1.all hbA, HA4.out.2.2.1.all hbA, Flat.all HA4.out.2.2.2 hbA⟩)
      have Hg4 := Lib.hid (And.intro ((Hg3.out.1.all hbr).all hbA) ((Hg3.out.2.all hbr).all hbA))
      have Hh4 := Lib.hid (And.intro (Own.new wr4 [.int .i64 hk, .int .i64 hn, sV hs, .slice hla hln hlc, .slice hfa hfn hfc] 25) (hId.all hbA))
      clear C hBB hres hbr hbA hId HS3 HA4 Hg3
      clear x0 x1 x2 x3 x4
      go_upto_region 5 with (fail)
      change Code.wp Tryz.prog _ _ _ (wr4.alloc (.cells #[.int .i64 hk, .int .i64 hn, sV hs, .slice hla hln hlc, .slice hfa hfn hfc] 25))
      generalize wr4.alloc (.cells #[.int .i64 hk, .int .i64 hn, sV hs, .slice hla hln hlc, .slice hfa hfn hfc] 25) = W4 at *
      generalize wr4.heap.size = bh at *
      have C := Lib.hid (pathRemove_any ⟨ck, cn, cs, cla, cln, clc, cfa, cfn, cfc⟩ t _ p W4 HS4.out.2.2.1 (by have := HSZ.out.1; omega) HS4.out.2.2.2 (by have := HF.out.1; omega))
      have x0 := HS4.out.2.1.cell (i := 0) rfl
      have x1 := HS4.out.2.1.cell (i := 1) rfl
      have x2 := HS4.out.2.1.cell (i := 2) rfl
      have x3 := HS4.out.2.1.cell (i := 3) rfl
      have x4 := HS4.out.2.1.cell (i := 4) rfl
      go_wp2_with fail
      refine C.out.mono ?_
      intro e wr5 hres
      obtain ⟨⟨rk, rn, rs, rla, rln, rlc, rfa, rfn, rfc⟩, he, hId⟩ := hres.res
      obtain ⟨Br, hBB⟩ : ∃ B, (resR p t).2 = B := ⟨_, rfl⟩
      rw [hBB] at he
      subst he
      have HBBr := Lib.hid hBB
      have hbr := hres.below
      have hbA := below_alloc wr5 (.cells #[.int .i64 rk, .int .i64 rn, sV rs, .slice rla rln rlc, .slice rfa rfn rfc] 25)
      have HA5 := Lib.hid (show Below w.heap.size w wr5 ∧ Own wr5 w.heap.size [.int .i64 ck, .int .i64 cn, sV cs, .slice cla cln clc, .slice cfa cfn cfc] 25 ∧ Is wr5 ⟨ck, cn, cs, cla, cln, clc, cfa, cfn, cfc⟩ t ∧ Stps wr5 (.slice ao n cp) p from ⟨below_all HS4.out.1 hbr, HS4.out.2.1.all hbr, HS4.out.2.2.1.all hbr, Flat.all HS4.out.2.2.2 hbr⟩)
      have HS5 := Lib.hid (show Below w.heap.size w (wr5.alloc (.cells #[.int .i64 rk, .int .i64 rn, sV rs, .slice rla rln rlc, .slice rfa rfn rfc] 25)) ∧ Own (wr5.alloc (.cells #[.int .i64 rk, .int .i64 rn, sV rs, .slice rla rln rlc, .slice rfa rfn rfc] 25)) w.heap.size [.int .i64 ck, .int .i64 cn, sV cs, .slice cla cln clc, .slice cfa cfn cfc] 25 ∧ Is (wr5.alloc (.cells #[.int .i64 rk, .int .i64 rn, sV rs, .slice rla rln rlc, .slice rfa rfn rfc] 25)) ⟨ck, cn, cs, cla, cln, clc, cfa, cfn, cfc⟩ t ∧ Stps (wr5.alloc (.cells #[.int .i64 rk, .int .i64 rn, sV rs, .slice rla rln rlc, .slice rfa rfn rfc] 25)) (.slice ao n cp) p from ⟨below_all HA5.out.1 hbA, HA5.out.2.1.all hbA, HA5.out.2.2.1.all hbA, Flat.all HA5.out.2.2.2 hbA⟩)
      have Hg5 := Lib.hid (And.intro ((Hg4.out.1.all hbr).all hbA) ((Hg4.out.2.all hbr).all hbA))
      have Hh5 := Lib.hid (And.intro ((Hh4.out.1.all hbr).all hbA) ((Hh4.out.2.all hbr).all hbA))
      have Hr5 := Lib.hid (And.intro (Own.new wr5 [.int .i64 rk, .int .i64 rn, sV rs, .slice rla rln rlc, .slice rfa rfn rfc] 25) (hId.all hbA))
      clear C hBB hres hbr hbA hId HS4 HA5 Hg4 Hh4
      clear x0 x1 x2 x3 x4
      go_upto_region 6 with (fail)
      change Code.wp Tryz.prog _ _ _ (wr5.alloc (.cells #[.int .i64 rk, .int .i64 rn, sV rs, .slice rla rln rlc, .slice rfa rfn rfc] 25))
      generalize wr5.alloc (.cells #[.int .i64 rk, .int .i64 rn, sV rs, .slice rla rln rlc, .slice rfa rfn rfc] 25) = W5 at *
      generalize wr5.heap.size = br at *
      have C := Lib.hid (premove_any ⟨ck, cn, cs, cla, cln, clc, cfa, cfn, cfc⟩ t _ p W5 HS5.out.2.2.1 (by have := HSZ.out.1; omega) HS5.out.2.2.2 (by have := HF.out.1; omega) (fun s hs => by have := HF.out.2 s hs; omega))
      have x0 := HS5.out.2.1.cell (i := 0) rfl
      have x1 := HS5.out.2.1.cell (i := 1) rfl
      have x2 := HS5.out.2.1.cell (i := 2) rfl
      have x3 := HS5.out.2.1.cell (i := 3) rfl
      have x4 := HS5.out.2.1.cell (i := 4) rfl
      go_wp2_with fail
      refine C.out.mono ?_
      intro e wr6 hres
      obtain ⟨⟨qk, qn, qs, qla, qln, qlc, qfa, qfn, qfc⟩, he, hId⟩ := hres.res
      obtain ⟨Bq, hBB⟩ : ∃ B, (resR p t).2 = B := ⟨_, rfl⟩
      rw [hBB] at he
      subst he
      have HBBq := Lib.hid hBB
      have hbr := hres.below
      have hbA := below_alloc wr6 (.cells #[.int .i64 qk, .int .i64 qn, sV qs, .slice qla qln qlc, .slice qfa qfn qfc] 25)
      have HA6 := Lib.hid (show Below w.heap.size w wr6 ∧ Own wr6 w.heap.size [.int .i64 ck, .int .i64 cn, sV cs, .slice cla cln clc, .slice cfa cfn cfc] 25 ∧ Is wr6 ⟨ck, cn, cs, cla, cln, clc, cfa, cfn, cfc⟩ t ∧ Stps wr6 (.slice ao n cp) p from ⟨below_all HS5.out.1 hbr, HS5.out.2.1.all hbr, HS5.out.2.2.1.all hbr, Flat.all HS5.out.2.2.2 hbr⟩)
      have HS6 := Lib.hid (show Below w.heap.size w (wr6.alloc (.cells #[.int .i64 qk, .int .i64 qn, sV qs, .slice qla qln qlc, .slice qfa qfn qfc] 25)) ∧ Own (wr6.alloc (.cells #[.int .i64 qk, .int .i64 qn, sV qs, .slice qla qln qlc, .slice qfa qfn qfc] 25)) w.heap.size [.int .i64 ck, .int .i64 cn, sV cs, .slice cla cln clc, .slice cfa cfn cfc] 25 ∧ Is (wr6.alloc (.cells #[.int .i64 qk, .int .i64 qn, sV qs, .slice qla qln qlc, .slice qfa qfn qfc] 25)) ⟨ck, cn, cs, cla, cln, clc, cfa, cfn, cfc⟩ t ∧ Stps (wr6.alloc (.cells #[.int .i64 qk, .int .i64 qn, sV qs, .slice qla qln qlc, .slice qfa qfn qfc] 25)) (.slice ao n cp) p from ⟨below_all HA6.out.1 hbA, HA6.out.2.1.all hbA, HA6.out.2.2.1.all hbA, Flat.all HA6.out.2.2.2 hbA⟩)
      have Hg6 := Lib.hid (And.intro ((Hg5.out.1.all hbr).all hbA) ((Hg5.out.2.all hbr).all hbA))
      have Hh6 := Lib.hid (And.intro ((Hh5.out.1.all hbr).all hbA) ((Hh5.out.2.all hbr).all hbA))
      have Hr6 := Lib.hid (And.intro ((Hr5.out.1.all hbr).all hbA) ((Hr5.out.2.all hbr).all hbA))
      have Hq6 := Lib.hid (And.intro (Own.new wr6 [.int .i64 qk, .int .i64 qn, sV qs, .slice qla qln qlc, .slice qfa qfn qfc] 25) (hId.all hbA))
      clear C hBB hres hbr hbA hId HS5 HA6 Hg5 Hh5 Hr5
      clear x0 x1 x2 x3 x4
      go_upto_region 7 with (fail)
      change Code.wp Tryz.prog _ _ _ (wr6.alloc (.cells #[.int .i64 qk, .int .i64 qn, sV qs, .slice qla qln qlc, .slice qfa qfn qfc] 25))
      generalize wr6.alloc (.cells #[.int .i64 qk, .int .i64 qn, sV qs, .slice qla qln qlc, .slice qfa qfn qfc] 25) = W6 at *
      generalize wr6.heap.size = bq at *
      obtain rfl : Bg = Bh := HBBg.out.symm.trans HBBh.out
      obtain rfl : Br = Bq := HBBr.out.symm.trans HBBq.out
      have hbb : ∀ b : Bool, (b == b) = true := fun b => by cases b <;> rfl
      have e1 : (Bg == Bg) = true := hbb Bg
      have e2 : (Br == Br) = true := hbb Br
      clear hbb
      have C := Lib.hid (alike_any _ (resG p t).1 (Nat.le_refl _) ⟨gk, gn, gs, gla, gln, glc, gfa, gfn, gfc⟩ ⟨hk, hn, hs, hla, hln, hlc, hfa, hfn, hfc⟩ W6 Hg6.out.2 Hh6.out.2)
      have x0 := Hg6.out.1.cell (i := 0) rfl
      have x1 := Hg6.out.1.cell (i := 1) rfl
      have x2 := Hg6.out.1.cell (i := 2) rfl
      have x3 := Hg6.out.1.cell (i := 3) rfl
      have x4 := Hg6.out.1.cell (i := 4) rfl
      have y0 := Hh6.out.1.cell (i := 0) rfl
      have y1 := Hh6.out.1.cell (i := 1) rfl
      have y2 := Hh6.out.1.cell (i := 2) rfl
      have y3 := Hh6.out.1.cell (i := 3) rfl
      have y4 := Hh6.out.1.cell (i := 4) rfl
      go_wp2_with fail
      refine C.out.mono ?_
      rintro e w7 ⟨rfl, hb7⟩
      have HB7 := Lib.hid (below_all HS6.out.1 hb7)
      have Hr7 := Lib.hid (And.intro (Hr6.out.1.all hb7) (Hr6.out.2.all hb7))
      have Hq7 := Lib.hid (And.intro (Hq6.out.1.all hb7) (Hq6.out.2.all hb7))
      clear C hb7 HS6 Hg6 Hh6 Hr6 Hq6
      clear x0 x1 x2 x3 x4
      clear y0 y1 y2 y3 y4
      have C := Lib.hid (alike_any _ (resR p t).1 (Nat.le_refl _) ⟨rk, rn, rs, rla, rln, rlc, rfa, rfn, rfc⟩ ⟨qk, qn, qs, qla, qln, qlc, qfa, qfn, qfc⟩ w7 Hr7.out.2 Hq7.out.2)
      have x0 := Hr7.out.1.cell (i := 0) rfl
      have x1 := Hr7.out.1.cell (i := 1) rfl
      have x2 := Hr7.out.1.cell (i := 2) rfl
      have x3 := Hr7.out.1.cell (i := 3) rfl
      have x4 := Hr7.out.1.cell (i := 4) rfl
      have y0 := Hq7.out.1.cell (i := 0) rfl
      have y1 := Hq7.out.1.cell (i := 1) rfl
      have y2 := Hq7.out.1.cell (i := 2) rfl
      have y3 := Hq7.out.1.cell (i := 3) rfl
      have y4 := Hq7.out.1.cell (i := 4) rfl
      go_wp2_with fail
      refine C.out.mono ?_
      rintro e w8 ⟨rfl, hb8⟩
      have HB8 := Lib.hid (below_all HB7.out hb8)
      clear C hb8 HB7 Hr7 Hq7
      clear x0 x1 x2 x3 x4
      clear y0 y1 y2 y3 y4
      have CL := Lib.hid (plives_any w8)
      go_wp2_with fail
      refine CL.out.mono ?_
      rintro e wl ⟨rfl, hbl⟩
      have HBl := Lib.hid (below_all HB8.out hbl)
      clear CL hbl
      go_wp2
      go_ret
      exact ⟨rfl, HBl.out⟩
end Go.Proofs.YtjpmnlefjmdelaaGreatDoor
