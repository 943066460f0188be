/- The copy that a list of one makes (duplicate). -/
import Derived.Test.YtinenbgdkchghaaXs
import Derived.Test.YtinenbgdkchghaaEgJ
import Derived.Test.YtinenbgdkchghaaKcJ
set_option linter.unusedSimpArgs false
set_option linter.unusedVariables false
namespace Go.Proofs.Ytinenbgdkchghaa
open Go.RowKit Go.Sort Go.Proofs.LawFrame

theorem RowB.flatA {w : World} {b lo : Nat} {ty : TypeId} {v : Value} {n : Nat} {xs : List Value} (h : RowB w b ty v n xs) (hb : 0 < n → lo ≤ b) : FlatA w (fun b' => lo ≤ b') v n xs := by
  rcases h.out with ⟨rfl, rfl⟩ | ⟨h0, h1, h2, h3⟩
  · exact FlatA.nil w _ xs
  · exact ⟨_, _, h1, Nat.le_refl _, h2, fun _ => ⟨b, 0, rfl, h3.lt, hb h0, fun j x hx => by rw [Nat.zero_add]; exact h3.cell hx⟩⟩
theorem IsS.isA {w : World} {lo hi : Nat} {c : VC} {t : T} (h : IsS w lo hi c t) : IsA w (fun b => lo ≤ b) c t := by
  induction h with
  | mk cs fs bl bf P Q h1 h2 h3 h4 h5 h6 h7 hl1 hl2 hl3 hf1 hf2 hf3 hf4 ih1 ih2 =>
    rename_i lo hi c l f
    have hP0 := fun i (hi : i ≤ l.length) => chain_le h3 (Nat.zero_le i) hi
    have hQ0 := fun i (hi : i ≤ f.length) => chain_le h6 (Nat.zero_le i) hi
    have e1 := hP0 l.length (Nat.le_refl _)
    refine .mk cs fs hl1 (hl2.flatA (fun hn => (h2 hn).1)) (fun i x t hx ht => (ih1 i x t hx ht).mono (fun b hb => ?_)) hf1 (hf2.flatA (fun hn => by have := (h5 hn).1; omega)) hf3 (fun i x t hx ht => (ih2 i x t hx ht).mono (fun b hb => ?_))
    · have := hP0 i (by have := (List.getElem?_eq_some_iff.1 ht).1; omega); omega
    · have := hQ0 i (by have := (List.getElem?_eq_some_iff.1 ht).1; omega); omega
set_option maxHeartbeats 4000000 in
theorem list_newS (v : Value) (l : List T) (w : World) (hv : Vals w v l) (hn : l.length ≤ 4000) (hs : ∀ t ∈ l, t.size ≤ 4000) :
    Calls Try.prog 39 #[v] w fun e w' => ∃ (c' : VC) (hi : Nat), e = .returned c'.val ∧ Below w.heap.size w w' ∧ w.heap.size ≤ hi ∧ hi ≤ w'.heap.size ∧ NewLS (w.heap.size + 1) hi w' (.slice c'.la c'.ln c'.lc) l := by
  obtain ⟨ao, cap, rfl, -, -⟩ := hv.form
  have hw0 := below_alloc w (.cells #[.int .i64 0, .int .i64 0, .string ⟨#[]⟩, .slice none 0 0, .slice none 0 0] 25)
  have oR0 : Own (w.alloc (.cells #[.int .i64 0, .int .i64 0, .string ⟨#[]⟩, .slice none 0 0, .slice none 0 0] 25)) w.heap.size [.int .i64 0, .int .i64 0, .string ⟨#[]⟩, .slice none 0 0, .slice none 0 0] 25 := Own.new _ _ _
  have hs0 : (w.alloc (.cells #[.int .i64 0, .int .i64 0, .string ⟨#[]⟩, .slice none 0 0, .slice none 0 0] 25)).heap.size = w.heap.size + 1 := size_alloc _ _
  have C := Lib.hid (copyListS_of l (fun i x hx c w h => copyS_any x (hs x (List.mem_of_getElem? hx)) c w h) _ (w.alloc (.cells #[.int .i64 0, .int .i64 0, .string ⟨#[]⟩, .slice none 0 0, .slice none 0 0] 25)) (hv.all hw0) hn)
  have HW := Lib.hid (And.intro hw0 oR0)
  clear hw0 oR0 hv
  go_enter Try.func39, Try.ntmps39
  go_wp2_with fail
  generalize (w.alloc (.cells #[.int .i64 0, .int .i64 0, .string ⟨#[]⟩, .slice none 0 0, .slice none 0 0] 25)) = W at *
  refine C.out.mono ?_
  rintro e w2 ⟨v', hiL, rfl, hb2, hlL, hhL, hL⟩
  obtain ⟨la, ln, lc, rfl⟩ := hL.slice
  have oR := HW.out.2.all hb2
  have hbE := below_all HW.out.1 hb2
  have r0 := oR.cell (i := 0) rfl
  have r1 := oR.cell (i := 1) rfl
  have r2 := oR.cell (i := 2) rfl
  have r3 := oR.cell (i := 3) rfl
  have r4 := oR.cell (i := 4) rfl
  have g0 := oR.frozen 0
  have g1 := oR.frozen 1
  have g2 := oR.frozen 2
  have g3 := oR.frozen 3
  have g4 := oR.frozen 4
  have hsS : (((((w2.setCell ⟨w.heap.size, 0, none⟩ (.int .i64 4)).setCell ⟨w.heap.size, 1, none⟩ (.int .i64 0)).setCell ⟨w.heap.size, 2, none⟩ (.string ⟨#[]⟩)).setCell ⟨w.heap.size, 3, none⟩ (.slice la ln lc)).setCell ⟨w.heap.size, 4, none⟩ (.slice none 0 0)).heap.size = w2.heap.size := by unfold World.setCell; simp
  rw [← hsS] at hhL
  have HSZ := Lib.hid (And.intro hhL (And.intro hlL hs0))
  clear hsS hhL
  have HS := Lib.hid (And.intro (((((oR.set 0 (.int .i64 4)).set 1 (.int .i64 0)).set 2 (.string ⟨#[]⟩)).set 3 (.slice la ln lc)).set 4 (.slice none 0 0)) (And.intro (below_set (below_set (below_set (below_set (below_set hbE (Nat.le_refl w.heap.size) (i := 0) (.int .i64 4)) (Nat.le_refl w.heap.size) (i := 1) (.int .i64 0)) (Nat.le_refl w.heap.size) (i := 2) (.string ⟨#[]⟩)) (Nat.le_refl w.heap.size) (i := 3) (.slice la ln lc)) (Nat.le_refl w.heap.size) (i := 4) (.slice none 0 0)) (((((hL.set (b := w.heap.size) (by omega) 0 (.int .i64 4)).set (b := w.heap.size) (by omega) 1 (.int .i64 0)).set (b := w.heap.size) (by omega) 2 (.string ⟨#[]⟩)).set (b := w.heap.size) (by omega) 3 (.slice la ln lc)).set (b := w.heap.size) (by omega) 4 (.slice none 0 0))))
  clear oR hbE hL C HW hb2
  go_wp2
  clear r0 r1 r2 r3 r4 g0 g1 g2 g3 g4
  change bodyPost Try.prog Try.f39 _ _ _ (((((w2.setCell ⟨w.heap.size, 0, none⟩ (.int .i64 4)).setCell ⟨w.heap.size, 1, none⟩ (.int .i64 0)).setCell ⟨w.heap.size, 2, none⟩ (.string ⟨#[]⟩)).setCell ⟨w.heap.size, 3, none⟩ (.slice la ln lc)).setCell ⟨w.heap.size, 4, none⟩ (.slice none 0 0))
  generalize (((((w2.setCell ⟨w.heap.size, 0, none⟩ (.int .i64 4)).setCell ⟨w.heap.size, 1, none⟩ (.int .i64 0)).setCell ⟨w.heap.size, 2, none⟩ (.string ⟨#[]⟩)).setCell ⟨w.heap.size, 3, none⟩ (.slice la ln lc)).setCell ⟨w.heap.size, 4, none⟩ (.slice none 0 0)) = U at *
  obtain ⟨oS, hbS, hLS⟩ := HS.out
  obtain ⟨hhL, hlL', hs0'⟩ := HSZ.out
  have c0 : U.cell? ⟨w.heap.size, 0, none⟩ = some (.int .i64 4) := oS.cell rfl
  have c1 : U.cell? ⟨w.heap.size, 1, none⟩ = some (.int .i64 0) := oS.cell rfl
  have c2 : U.cell? ⟨w.heap.size, 2, none⟩ = some (.string ⟨#[]⟩) := oS.cell rfl
  have c3 : U.cell? ⟨w.heap.size, 3, none⟩ = some (.slice la ln lc) := oS.cell rfl
  have c4 : U.cell? ⟨w.heap.size, 4, none⟩ = some (.slice none 0 0) := oS.cell rfl
  exact bodyPost_ret (v := .agg #[.int .i64 4, .int .i64 0, .string ⟨#[]⟩, .slice la ln lc, .slice none 0 0]) (by simp [results, Try.results39, go_sem, c0, c1, c2, c3, c4]) rfl ⟨⟨4, 0, [], la, ln, lc, none, 0, 0⟩, hiL, rfl, hbS, by omega, hhL, by rw [← hs0']; exact hLS⟩

set_option maxHeartbeats 4000000 in
set_option maxRecDepth 4000 in
theorem duplicate_any (c : VC) (t : T) (w : World) (hI : Is w c t) (hz : t.size ≤ 4000) :
    Calls Try.prog 26 #[c.val] w fun e w' => ∃ (c' : VC) (hi : Nat), e = .returned c'.val ∧ Below w.heap.size w w' ∧ w.heap.size ≤ hi ∧ hi ≤ w'.heap.size ∧ IsS w' w.heap.size hi c' t := by
  obtain ⟨ck, cn, cs, la, ln, lc, fa, fn, fc⟩ := c
  show Calls Try.prog 26 #[.agg #[.int .i64 ck, .int .i64 cn, sV cs, .slice la ln lc, .slice fa fn fc]] w _
  have hb0 : Below w.heap.size w ((w.alloc (.cells #[.int .i64 ck, .int .i64 cn, sV cs, .slice la ln lc, .slice fa fn fc] 25)).alloc (.cells #[.int .i64 0, .int .i64 0, .string ⟨#[]⟩, .slice none 0 0, .slice none 0 0] 25)) := ((Below.refl _ _).alloc (Nat.le_refl _) _).alloc (by simp) _
  have oB : Own ((w.alloc (.cells #[.int .i64 ck, .int .i64 cn, sV cs, .slice la ln lc, .slice fa fn fc] 25)).alloc (.cells #[.int .i64 0, .int .i64 0, .string ⟨#[]⟩, .slice none 0 0, .slice none 0 0] 25)) w.heap.size [.int .i64 ck, .int .i64 cn, sV cs, .slice la ln lc, .slice fa fn fc] 25 := (Own.new _ _ _).alloc _
  have oR : Own ((w.alloc (.cells #[.int .i64 ck, .int .i64 cn, sV cs, .slice la ln lc, .slice fa fn fc] 25)).alloc (.cells #[.int .i64 0, .int .i64 0, .string ⟨#[]⟩, .slice none 0 0, .slice none 0 0] 25)) (w.heap.size + 1) [.int .i64 0, .int .i64 0, .string ⟨#[]⟩, .slice none 0 0, .slice none 0 0] 25 := Own.new_at (by rw [size_alloc]) _ _
  have hs0 : ((w.alloc (.cells #[.int .i64 ck, .int .i64 cn, sV cs, .slice la ln lc, .slice fa fn fc] 25)).alloc (.cells #[.int .i64 0, .int .i64 0, .string ⟨#[]⟩, .slice none 0 0, .slice none 0 0] 25)).heap.size = w.heap.size + 2 := by rw [size_alloc, size_alloc]
  have hIV := hI.all hb0
  go_enter Try.func26, Try.ntmps26
  go_upto_region 1 with (fail)
  change Code.wp Try.prog _ _ _ ((w.alloc (.cells #[.int .i64 ck, .int .i64 cn, sV cs, .slice la ln lc, .slice fa fn fc] 25)).alloc (.cells #[.int .i64 0, .int .i64 0, .string ⟨#[]⟩, .slice none 0 0, .slice none 0 0] 25))
  generalize ((w.alloc (.cells #[.int .i64 ck, .int .i64 cn, sV cs, .slice la ln lc, .slice fa fn fc] 25)).alloc (.cells #[.int .i64 0, .int .i64 0, .string ⟨#[]⟩, .slice none 0 0, .slice none 0 0] 25)) = V at *
  have b0 := oB.cell (i := 0) rfl
  have b1 := oB.cell (i := 1) rfl
  have b2 := oB.cell (i := 2) rfl
  have b3 := oB.cell (i := 3) rfl
  have b4 := oB.cell (i := 4) rfl
  have oL := Own.new V [.int .i64 ck, .int .i64 cn, sV cs, .slice la ln lc, .slice fa fn fc] 25
  have hbL := below_alloc V (.cells #[.int .i64 ck, .int .i64 cn, sV cs, .slice la ln lc, .slice fa fn fc] 25)
  have hvals : Vals (V.alloc (.cells #[.int .i64 ck, .int .i64 cn, sV cs, .slice la ln lc, .slice fa fn fc] 25)) (.slice (some ⟨V.heap.size, 0, none⟩) 1 1) [t] :=
    ⟨[⟨ck, cn, cs, la, ln, lc, fa, fn, fc⟩], rfl, ⟨_, _, rfl, by simp, by decide, fun _ => ⟨V.heap.size, 0, rfl, oL.lt, fun j x hx => by rw [Nat.zero_add]; exact oL.cell (by simpa using hx)⟩⟩, fun i x u hx hu => by
      cases i with
      | zero => simp at hx hu; subst hx hu; exact hIV.all hbL
      | succ i => simp at hx⟩
  have C := Lib.hid (list_newS _ [t] _ hvals (by simp) (fun u hu => by simp at hu; subst hu; exact hz))
  have HS := Lib.hid (And.intro (below_all hb0 hbL) (And.intro (oR.all hbL) (And.intro hs0 (show (V.alloc (.cells #[.int .i64 ck, .int .i64 cn, sV cs, .slice la ln lc, .slice fa fn fc] 25)).heap.size = V.heap.size + 1 from size_alloc _ _))))
  clear hb0 oB oR hI hIV oL hbL hvals hs0
  go_wp2_with fail
  generalize V.alloc (.cells #[.int .i64 ck, .int .i64 cn, sV cs, .slice la ln lc, .slice fa fn fc] 25) = V1 at *
  clear b0 b1 b2 b3 b4
  refine C.out.mono ?_
  rintro e w2 ⟨⟨ek, en, es, ela, eln, elc, efa, efn, efc⟩, hi, rfl, hb2, hlo, hhi, hN⟩
  clear C
  obtain ⟨b, dsl, P, p1, p2, p3, p4, p5, p6, p7⟩ := hN.out
  obtain ⟨d, rfl⟩ : ∃ d, dsl = [d] := by
    match dsl, p5 with
    | [d], _ => exact ⟨d, rfl⟩
  simp only [List.length_singleton] at p2 p3 p4 p6
  have hd := p7 0 d t rfl rfl
  rcases p6.out with ⟨h0, -⟩ | ⟨-, he, -, oD⟩
  · exact absurd h0 (by decide)
  obtain ⟨rfl, rfl, rfl⟩ : ela = some ⟨b, 0, none⟩ ∧ eln = 1 ∧ elc = 1 := by simpa using he
  have hlo1 := HS.out.2.2.1
  have hlo2 := HS.out.2.2.2
  have hP01 := p3 0 (by decide)
  have hbb := (p2 (by decide)).1
  have hbP := (p2 (by decide)).2
  have hD : IsS w2 w.heap.size hi d t := hd.mono (by omega) (by simpa using p4)
  have oR2 := HS.out.2.1.all hb2
  have hbE := below_all HS.out.1 hb2
  have d0 : w2.cell? ⟨b, 0, none⟩ = some (.int .i64 d.k) := oD.cell rfl
  have d1 : w2.cell? ⟨b, 1, none⟩ = some (.int .i64 d.n) := oD.cell rfl
  have d2 : w2.cell? ⟨b, 2, none⟩ = some (sV d.s) := oD.cell rfl
  have d3 : w2.cell? ⟨b, 3, none⟩ = some (.slice d.la d.ln d.lc) := oD.cell rfl
  have d4 : w2.cell? ⟨b, 4, none⟩ = some (.slice d.fa d.fn d.fc) := oD.cell rfl
  have hfl : ∀ w0 : World, (Instr.field 25 (VC.val ⟨ek, en, es, some ⟨b, 0, none⟩, 1, 1, efa, efn, efc⟩) 3).run Try.prog w0 = .ok (.slice (some ⟨b, 0, none⟩) 1 1) w0 := fun _ => by kernel_rfl
  have r0 := oR2.cell (i := 0) rfl
  have r1 := oR2.cell (i := 1) rfl
  have r2 := oR2.cell (i := 2) rfl
  have r3 := oR2.cell (i := 3) rfl
  have r4 := oR2.cell (i := 4) rfl
  have g0 := oR2.frozen 0
  have g1 := oR2.frozen 1
  have g2 := oR2.frozen 2
  have g3 := oR2.frozen 3
  have g4 := oR2.frozen 4
  have hDP : IsS w2 (P 0) (P (0 + 1)) d t := hd
  have HU := Lib.hid (And.intro (own_put5 oR2 (.int .i64 d.k) (.int .i64 d.n) (sV d.s) (.slice d.la d.ln d.lc) (.slice d.fa d.fn d.fc)) (And.intro (show Below w.heap.size w (put5 w2 (w.heap.size + 1) (.int .i64 d.k) (.int .i64 d.n) (sV d.s) (.slice d.la d.ln d.lc) (.slice d.fa d.fn d.fc)) from below_set (below_set (below_set (below_set (below_set hbE (Nat.le_succ _) _) (Nat.le_succ _) _) (Nat.le_succ _) _) (Nat.le_succ _) _) (Nat.le_succ _) _) (And.intro (show IsS (put5 w2 (w.heap.size + 1) (.int .i64 d.k) (.int .i64 d.n) (sV d.s) (.slice d.la d.ln d.lc) (.slice d.fa d.fn d.fc)) (P 0) (P (0 + 1)) d t from ((((hDP.set (Or.inl (by omega)) _ _).set (Or.inl (by omega)) _ _).set (Or.inl (by omega)) _ _).set (Or.inl (by omega)) _ _).set (Or.inl (by omega)) _ _) (And.intro (show hi ≤ (put5 w2 (w.heap.size + 1) (.int .i64 d.k) (.int .i64 d.n) (sV d.s) (.slice d.la d.ln d.lc) (.slice d.fa d.fn d.fc)).heap.size by unfold put5; rw [setCell_size, setCell_size, setCell_size, setCell_size, setCell_size]; exact hhi) (And.intro (show w.heap.size ≤ P 0 by omega) (And.intro (show P (0 + 1) ≤ hi from p4) (show w.heap.size ≤ hi by omega)))))))
  clear hbE oR2 hD hd hDP p7 p6 oD hN HS hb2 hlo hhi p1 p2 p3 p4 he hlo1 hlo2 hP01 hbb hbP
  go_wp2
  clear r0 r1 r2 r3 r4 g0 g1 g2 g3 g4 d0 d1 d2 d3 d4
  change bodyPost Try.prog Try.f26 _ _ _ (put5 w2 (w.heap.size + 1) (.int .i64 d.k) (.int .i64 d.n) (sV d.s) (.slice d.la d.ln d.lc) (.slice d.fa d.fn d.fc))
  generalize put5 w2 (w.heap.size + 1) (.int .i64 d.k) (.int .i64 d.n) (sV d.s) (.slice d.la d.ln d.lc) (.slice d.fa d.fn d.fc) = U at *
  have c0 := HU.out.1.cell (i := 0) rfl
  have c1 := HU.out.1.cell (i := 1) rfl
  have c2 := HU.out.1.cell (i := 2) rfl
  have c3 := HU.out.1.cell (i := 3) rfl
  have c4 := HU.out.1.cell (i := 4) rfl
  obtain ⟨-, k1, k2, k3, k4, k5, k6⟩ := HU.out
  exact bodyPost_ret (v := .agg #[.int .i64 d.k, .int .i64 d.n, sV d.s, .slice d.la d.ln d.lc, .slice d.fa d.fn d.fc]) (by simp [results, Try.results26, go_sem, c0, c1, c2, c3, c4]) rfl ⟨d, hi, rfl, k1, k6, k3, k2.mono k4 k5⟩

end Go.Proofs.Ytinenbgdkchghaa
