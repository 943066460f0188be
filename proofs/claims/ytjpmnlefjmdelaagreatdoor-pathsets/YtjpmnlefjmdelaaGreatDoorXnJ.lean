/- The place that a path leads to; copies; Get. Get. -/
import Derived.Test.YtjpmnlefjmdelaaGreatDoorXkJ
import Derived.Test.YtjpmnlefjmdelaaGreatDoorXs
import Derived.Test.YtjpmnlefjmdelaaGreatDoorEgJ
set_option linter.unusedSimpArgs false
set_option linter.unusedVariables false
namespace Go.Proofs.YtjpmnlefjmdelaaGreatDoor
open Go.RowKit Go.Sort Go.Proofs.LawFrame

set_option maxHeartbeats 4000000 in
theorem list_newS (v : Value) (l : List T) (w : World) (hv : Vals w v l) (hn : l.length ≤ 4000) (hs : ∀ t ∈ l, t.size ≤ 4000) :
    Calls Tryz.prog 114 #[v] w fun e w' => ∃ (c' : VC) (hi : Nat), e = .returned c'.val ∧ Below w.heap.size w w' ∧ w.heap.size ≤ hi ∧ hi ≤ w'.heap.size ∧ NewLS (w.heap.size + 1) hi w' (.slice c'.la c'.ln c'.lc) l := by
  obtain ⟨ao, cap, rfl, -, -⟩ := hv.form
  have hw0 := below_alloc w (.cells #[.int .i64 0, .int .i64 0, .string ⟨#[]⟩, .slice none 0 0, .slice none 0 0] 25)
  have oR0 : Own (w.alloc (.cells #[.int .i64 0, .int .i64 0, .string ⟨#[]⟩, .slice none 0 0, .slice none 0 0] 25)) w.heap.size [.int .i64 0, .int .i64 0, .string ⟨#[]⟩, .slice none 0 0, .slice none 0 0] 25 := Own.new _ _ _
  have hs0 : (w.alloc (.cells #[.int .i64 0, .int .i64 0, .string ⟨#[]⟩, .slice none 0 0, .slice none 0 0] 25)).heap.size = w.heap.size + 1 := size_alloc _ _
  have C := Lib.hid (copyListS_of l (fun i x hx c w h => copyS_any x (hs x (List.mem_of_getElem? hx)) c w h) _ (w.alloc (.cells #[.int .i64 0, .int .i64 0, .string ⟨#[]⟩, .slice none 0 0, .slice none 0 0] 25)) (hv.all hw0) hn)
  have HW := Lib.hid (And.intro hw0 oR0)
  clear hw0 oR0 hv
  go_enter Tryz.func114, Tryz.ntmps114
  go_wp2_with fail
  generalize (w.alloc (.cells #[.int .i64 0, .int .i64 0, .string ⟨#[]⟩, .slice none 0 0, .slice none 0 0] 25)) = W at *
  refine C.out.mono ?_
  rintro e w2 ⟨v', hiL, rfl, hb2, hlL, hhL, hL⟩
  obtain ⟨la, ln, lc, rfl⟩ := hL.slice
  have oR := HW.out.2.all hb2
  have hbE := below_all HW.out.1 hb2
  have r0 := oR.cell (i := 0) rfl
  have r1 := oR.cell (i := 1) rfl
  have r2 := oR.cell (i := 2) rfl
  have r3 := oR.cell (i := 3) rfl
  have r4 := oR.cell (i := 4) rfl
  have g0 := oR.frozen 0
  have g1 := oR.frozen 1
  have g2 := oR.frozen 2
  have g3 := oR.frozen 3
  have g4 := oR.frozen 4
  have hsS : (((((w2.setCell ⟨w.heap.size, 0, none⟩ (.int .i64 4)).setCell ⟨w.heap.size, 1, none⟩ (.int .i64 0)).setCell ⟨w.heap.size, 2, none⟩ (.string ⟨#[]⟩)).setCell ⟨w.heap.size, 3, none⟩ (.slice la ln lc)).setCell ⟨w.heap.size, 4, none⟩ (.slice none 0 0)).heap.size = w2.heap.size := by unfold World.setCell; simp
  rw [← hsS] at hhL
  have HSZ := Lib.hid (And.intro hhL (And.intro hlL hs0))
  clear hsS hhL
  have HS := Lib.hid (And.intro (((((oR.set 0 (.int .i64 4)).set 1 (.int .i64 0)).set 2 (.string ⟨#[]⟩)).set 3 (.slice la ln lc)).set 4 (.slice none 0 0)) (And.intro (below_set (below_set (below_set (below_set (below_set hbE (Nat.le_refl w.heap.size) (i := 0) (.int .i64 4)) (Nat.le_refl w.heap.size) (i := 1) (.int .i64 0)) (Nat.le_refl w.heap.size) (i := 2) (.string ⟨#[]⟩)) (Nat.le_refl w.heap.size) (i := 3) (.slice la ln lc)) (Nat.le_refl w.heap.size) (i := 4) (.slice none 0 0)) (((((hL.set (b := w.heap.size) (by omega) 0 (.int .i64 4)).set (b := w.heap.size) (by omega) 1 (.int .i64 0)).set (b := w.heap.size) (by omega) 2 (.string ⟨#[]⟩)).set (b := w.heap.size) (by omega) 3 (.slice la ln lc)).set (b := w.heap.size) (by omega) 4 (.slice none 0 0))))
  clear oR hbE hL C HW hb2
  go_wp2
  clear r0 r1 r2 r3 r4 g0 g1 g2 g3 g4
  change bodyPost Tryz.prog Tryz.f114 _ _ _ (((((w2.setCell ⟨w.heap.size, 0, none⟩ (.int .i64 4)).setCell ⟨w.heap.size, 1, none⟩ (.int .i64 0)).setCell ⟨w.heap.size, 2, none⟩ (.string ⟨#[]⟩)).setCell ⟨w.heap.size, 3, none⟩ (.slice la ln lc)).setCell ⟨w.heap.size, 4, none⟩ (.slice none 0 0))
  generalize (((((w2.setCell ⟨w.heap.size, 0, none⟩ (.int .i64 4)).setCell ⟨w.heap.size, 1, none⟩ (.int .i64 0)).setCell ⟨w.heap.size, 2, none⟩ (.string ⟨#[]⟩)).setCell ⟨w.heap.size, 3, none⟩ (.slice la ln lc)).setCell ⟨w.heap.size, 4, none⟩ (.slice none 0 0)) = U at *
  obtain ⟨oS, hbS, hLS⟩ := HS.out
  obtain ⟨hhL, hlL', hs0'⟩ := HSZ.out
  have c0 : U.cell? ⟨w.heap.size, 0, none⟩ = some (.int .i64 4) := oS.cell rfl
  have c1 : U.cell? ⟨w.heap.size, 1, none⟩ = some (.int .i64 0) := oS.cell rfl
  have c2 : U.cell? ⟨w.heap.size, 2, none⟩ = some (.string ⟨#[]⟩) := oS.cell rfl
  have c3 : U.cell? ⟨w.heap.size, 3, none⟩ = some (.slice la ln lc) := oS.cell rfl
  have c4 : U.cell? ⟨w.heap.size, 4, none⟩ = some (.slice none 0 0) := oS.cell rfl
  exact bodyPost_ret (v := .agg #[.int .i64 4, .int .i64 0, .string ⟨#[]⟩, .slice la ln lc, .slice none 0 0]) (by simp [results, Tryz.results114, go_sem, c0, c1, c2, c3, c4]) rfl ⟨⟨4, 0, [], la, ln, lc, none, 0, 0⟩, hiL, rfl, hbS, by omega, hhL, by rw [← hs0']; exact hLS⟩

set_option maxHeartbeats 4000000 in
set_option maxRecDepth 4000 in
theorem duplicate_any (c : VC) (t : T) (w : World) (hI : Is w c t) (hz : t.size ≤ 4000) :
    Calls Tryz.prog 74 #[c.val] w fun e w' => ∃ (c' : VC) (hi : Nat), e = .returned c'.val ∧ Below w.heap.size w w' ∧ w.heap.size ≤ hi ∧ hi ≤ w'.heap.size ∧ IsS w' w.heap.size hi c' t := by
  obtain ⟨ck, cn, cs, la, ln, lc, fa, fn, fc⟩ := c
  show Calls Tryz.prog 74 #[.agg #[.int .i64 ck, .int .i64 cn, sV cs, .slice la ln lc, .slice fa fn fc]] w _
  have hb0 : Below w.heap.size w ((w.alloc (.cells #[.int .i64 ck, .int .i64 cn, sV cs, .slice la ln lc, .slice fa fn fc] 25)).alloc (.cells #[.int .i64 0, .int .i64 0, .string ⟨#[]⟩, .slice none 0 0, .slice none 0 0] 25)) := ((Below.refl _ _).alloc (Nat.le_refl _) _).alloc (by simp) _
  have oB : Own ((w.alloc (.cells #[.int .i64 ck, .int .i64 cn, sV cs, .slice la ln lc, .slice fa fn fc] 25)).alloc (.cells #[.int .i64 0, .int .i64 0, .string ⟨#[]⟩, .slice none 0 0, .slice none 0 0] 25)) w.heap.size [.int .i64 ck, .int .i64 cn, sV cs, .slice la ln lc, .slice fa fn fc] 25 := (Own.new _ _ _).alloc _
  have oR : Own ((w.alloc (.cells #[.int .i64 ck, .int .i64 cn, sV cs, .slice la ln lc, .slice fa fn fc] 25)).alloc (.cells #[.int .i64 0, .int .i64 0, .string ⟨#[]⟩, .slice none 0 0, .slice none 0 0] 25)) (w.heap.size + 1) [.int .i64 0, .int .i64 0, .string ⟨#[]⟩, .slice none 0 0, .slice none 0 0] 25 := Own.new_at (by rw [size_alloc]) _ _
  have hs0 : ((w.alloc (.cells #[.int .i64 ck, .int .i64 cn, sV cs, .slice la ln lc, .slice fa fn fc] 25)).alloc (.cells #[.int .i64 0, .int .i64 0, .string ⟨#[]⟩, .slice none 0 0, .slice none 0 0] 25)).heap.size = w.heap.size + 2 := by rw [size_alloc, size_alloc]
  have hIV := hI.all hb0
  go_enter Tryz.func74, Tryz.ntmps74
  go_upto_region 1 with (fail)
  change Code.wp Tryz.prog _ _ _ ((w.alloc (.cells #[.int .i64 ck, .int .i64 cn, sV cs, .slice la ln lc, .slice fa fn fc] 25)).alloc (.cells #[.int .i64 0, .int .i64 0, .string ⟨#[]⟩, .slice none 0 0, .slice none 0 0] 25))
  generalize ((w.alloc (.cells #[.int .i64 ck, .int .i64 cn, sV cs, .slice la ln lc, .slice fa fn fc] 25)).alloc (.cells #[.int .i64 0, .int .i64 0, .string ⟨#[]⟩, .slice none 0 0, .slice none 0 0] 25)) = V at *
  have b0 := oB.cell (i := 0) rfl
  have b1 := oB.cell (i := 1) rfl
  have b2 := oB.cell (i := 2) rfl
  have b3 := oB.cell (i := 3) rfl
  have b4 := oB.cell (i := 4) rfl
  have oL := Own.new V [.int .i64 ck, .int .i64 cn, sV cs, .slice la ln lc, .slice fa fn fc] 25
  have hbL := below_alloc V (.cells #[.int .i64 ck, .int .i64 cn, sV cs, .slice la ln lc, .slice fa fn fc] 25)
  have hvals : Vals (V.alloc (.cells #[.int .i64 ck, .int .i64 cn, sV cs, .slice la ln lc, .slice fa fn fc] 25)) (.slice (some ⟨V.heap.size, 0, none⟩) 1 1) [t] :=
    ⟨[⟨ck, cn, cs, la, ln, lc, fa, fn, fc⟩], rfl, ⟨_, _, rfl, by simp, by decide, fun _ => ⟨V.heap.size, 0, rfl, oL.lt, fun j x hx => by rw [Nat.zero_add]; exact oL.cell (by simpa using hx)⟩⟩, fun i x u hx hu => by
      cases i with
      | zero => simp at hx hu; subst hx hu; exact hIV.all hbL
      | succ i => simp at hx⟩
  have C := Lib.hid (list_newS _ [t] _ hvals (by simp) (fun u hu => by simp at hu; subst hu; exact hz))
  have HS := Lib.hid (And.intro (below_all hb0 hbL) (And.intro (oR.all hbL) (And.intro hs0 (show (V.alloc (.cells #[.int .i64 ck, .int .i64 cn, sV cs, .slice la ln lc, .slice fa fn fc] 25)).heap.size = V.heap.size + 1 from size_alloc _ _))))
  clear hb0 oB oR hI hIV oL hbL hvals hs0
  go_wp2_with fail
  generalize V.alloc (.cells #[.int .i64 ck, .int .i64 cn, sV cs, .slice la ln lc, .slice fa fn fc] 25) = V1 at *
  clear b0 b1 b2 b3 b4
  refine C.out.mono ?_
  rintro e w2 ⟨⟨ek, en, es, ela, eln, elc, efa, efn, efc⟩, hi, rfl, hb2, hlo, hhi, hN⟩
  clear C
  obtain ⟨b, dsl, P, p1, p2, p3, p4, p5, p6, p7⟩ := hN.out
  obtain ⟨d, rfl⟩ : ∃ d, dsl = [d] := by
    match dsl, p5 with
    | [d], _ => exact ⟨d, rfl⟩
  simp only [List.length_singleton] at p2 p3 p4 p6
  have hd := p7 0 d t rfl rfl
  rcases p6.out with ⟨h0, -⟩ | ⟨-, he, -, oD⟩
  · exact absurd h0 (by decide)
  obtain ⟨rfl, rfl, rfl⟩ : ela = some ⟨b, 0, none⟩ ∧ eln = 1 ∧ elc = 1 := by simpa using he
  have hlo1 := HS.out.2.2.1
  have hlo2 := HS.out.2.2.2
  have hP01 := p3 0 (by decide)
  have hbb := (p2 (by decide)).1
  have hbP := (p2 (by decide)).2
  have hD : IsS w2 w.heap.size hi d t := hd.mono (by omega) (by simpa using p4)
  have oR2 := HS.out.2.1.all hb2
  have hbE := below_all HS.out.1 hb2
  have d0 : w2.cell? ⟨b, 0, none⟩ = some (.int .i64 d.k) := oD.cell rfl
  have d1 : w2.cell? ⟨b, 1, none⟩ = some (.int .i64 d.n) := oD.cell rfl
  have d2 : w2.cell? ⟨b, 2, none⟩ = some (sV d.s) := oD.cell rfl
  have d3 : w2.cell? ⟨b, 3, none⟩ = some (.slice d.la d.ln d.lc) := oD.cell rfl
  have d4 : w2.cell? ⟨b, 4, none⟩ = some (.slice d.fa d.fn d.fc) := oD.cell rfl
  have hfl : ∀ w0 : World, (Instr.field 25 (VC.val ⟨ek, en, es, some ⟨b, 0, none⟩, 1, 1, efa, efn, efc⟩) 3).run Tryz.prog w0 = .ok (.slice (some ⟨b, 0, none⟩) 1 1) w0 := fun _ => by kernel_rfl
  have r0 := oR2.cell (i := 0) rfl
  have r1 := oR2.cell (i := 1) rfl
  have r2 := oR2.cell (i := 2) rfl
  have r3 := oR2.cell (i := 3) rfl
  have r4 := oR2.cell (i := 4) rfl
  have g0 := oR2.frozen 0
  have g1 := oR2.frozen 1
  have g2 := oR2.frozen 2
  have g3 := oR2.frozen 3
  have g4 := oR2.frozen 4
  have hDP : IsS w2 (P 0) (P (0 + 1)) d t := hd
  have HU := Lib.hid (And.intro (own_put5 oR2 (.int .i64 d.k) (.int .i64 d.n) (sV d.s) (.slice d.la d.ln d.lc) (.slice d.fa d.fn d.fc)) (And.intro (show Below w.heap.size w (put5 w2 (w.heap.size + 1) (.int .i64 d.k) (.int .i64 d.n) (sV d.s) (.slice d.la d.ln d.lc) (.slice d.fa d.fn d.fc)) from below_set (below_set (below_set (below_set (below_set hbE (Nat.le_succ _) _) (Nat.le_succ _) _) (Nat.le_succ _) _) (Nat.le_succ _) _) (Nat.le_succ _) _) (And.intro (show IsS (put5 w2 (w.heap.size + 1) (.int .i64 d.k) (.int .i64 d.n) (sV d.s) (.slice d.la d.ln d.lc) (.slice d.fa d.fn d.fc)) (P 0) (P (0 + 1)) d t from ((((hDP.set (Or.inl (by omega)) _ _).set (Or.inl (by omega)) _ _).set (Or.inl (by omega)) _ _).set (Or.inl (by omega)) _ _).set (Or.inl (by omega)) _ _) (And.intro (show hi ≤ (put5 w2 (w.heap.size + 1) (.int .i64 d.k) (.int .i64 d.n) (sV d.s) (.slice d.la d.ln d.lc) (.slice d.fa d.fn d.fc)).heap.size by unfold put5; rw [setCell_size, setCell_size, setCell_size, setCell_size, setCell_size]; exact hhi) (And.intro (show w.heap.size ≤ P 0 by omega) (And.intro (show P (0 + 1) ≤ hi from p4) (show w.heap.size ≤ hi by omega)))))))
  clear hbE oR2 hD hd hDP p7 p6 oD hN HS hb2 hlo hhi p1 p2 p3 p4 he hlo1 hlo2 hP01 hbb hbP
  go_wp2
  clear r0 r1 r2 r3 r4 g0 g1 g2 g3 g4 d0 d1 d2 d3 d4
  change bodyPost Tryz.prog Tryz.f74 _ _ _ (put5 w2 (w.heap.size + 1) (.int .i64 d.k) (.int .i64 d.n) (sV d.s) (.slice d.la d.ln d.lc) (.slice d.fa d.fn d.fc))
  generalize put5 w2 (w.heap.size + 1) (.int .i64 d.k) (.int .i64 d.n) (sV d.s) (.slice d.la d.ln d.lc) (.slice d.fa d.fn d.fc) = U at *
  have c0 := HU.out.1.cell (i := 0) rfl
  have c1 := HU.out.1.cell (i := 1) rfl
  have c2 := HU.out.1.cell (i := 2) rfl
  have c3 := HU.out.1.cell (i := 3) rfl
  have c4 := HU.out.1.cell (i := 4) rfl
  obtain ⟨-, k1, k2, k3, k4, k5, k6⟩ := HU.out
  exact bodyPost_ret (v := .agg #[.int .i64 d.k, .int .i64 d.n, sV d.s, .slice d.la d.ln d.lc, .slice d.fa d.fn d.fc]) (by simp [results, Tryz.results74, go_sem, c0, c1, c2, c3, c4]) rfl ⟨d, hi, rfl, k1, k6, k3, k2.mono k4 k5⟩

/-- what find answers -/
structure QF (w : World) (J : List S → T → Nat → Nat → VC → Prop) (p : List S) (t : T) (e : Ending) (w' : World) : Prop where
  below : Below w.heap.size w w'
  no : findT t p = none → e = .returned (.pointer none)
  ok : ∀ u, findT t p = some u → ∃ (b o : Nat) (d : VC), e = .returned (.pointer (some ⟨b, o, none⟩)) ∧ VAt w b o d ∧ Is w d u ∧ u.size ≤ 10000 ∧ J p u b o d
/-- a step down -/
def Down (s : S) (i : Nat) (d : VC) (b' o' : Nat) : Prop := if s.k = 1 then ∃ o1, d.fa = some ⟨b', o1, none⟩ ∧ o' = o1 + i * 6 + 1 else ∃ o1, d.la = some ⟨b', o1, none⟩ ∧ o' = o1 + i * 5
theorem findT_step {u : T} {s : S} {p : List S} : findT u (s :: p) = match kid s u with
  | none => none
  | some c => findT c p := by rw [findT]; rfl

set_option maxHeartbeats 8000000 in
set_option maxRecDepth 4000 in
theorem find_any (J : List S → T → Nat → Nat → VC → Prop) (p : List S) (v : Value) (w : World) (hp : Stps w v p) (hpl : p.length ≤ 10000) (hall : ∀ s ∈ p, stepOk s = true) (t : T) (hz : t.size ≤ 10000) (pb po : Nat) (c : VC) (hv : VAt w pb po c) (hI : Is w c t) (h0 : J [] t pb po c)
    (hs : ∀ (q : List S) (s : S) (u : T) (b o : Nat) (d : VC) (i : Nat) (u' : T) (b' o' : Nat) (d' : VC), J q u b o d → VAt w b o d → Is w d u → stepOk s = true → place s u = some i → kidAt s i u = some u' → Down s i d b' o' → VAt w b' o' d' → Is w d' u' → J (q ++ [s]) u' b' o' d') :
    Calls Tryz.prog 73 #[.pointer (some ⟨pb, po, none⟩), v] w (QF w J p t) := by
  obtain ⟨ao, cp, rfl, hlc, hlm⟩ := Stps.form hp
  unfold maxLen at hlm
  have HP := Lib.hid hp
  have HJ := Lib.hid hs
  have HALL := Lib.hid hall
  have H0 := Lib.hid (And.intro hv (And.intro hI (And.intro hz h0)))
  clear hp hs hall hv hI hz h0
  go_enter Tryz.func73, Tryz.ntmps73
  go_wp2
  go_loopg [0, 10] p.length (fun g vp i wr => ∃ (k : Nat) (u : T) (b o : Nat) (d : VC), k ≤ p.length ∧ g = p.length - k ∧ i = .int .i64 k ∧ vp = .pointer (some ⟨b, o, none⟩) ∧ Below w.heap.size w wr ∧ Hid (VAt w b o d ∧ Is w d u ∧ u.size ≤ 10000 ∧ J (p.take k) u b o d ∧ findT t p = findT u (p.drop k)))
  case atStart => exact ⟨0, t, pb, po, c, Nat.zero_le _, rfl, rfl, rfl, Below.refl _ _, Lib.hid ⟨H0.out.1, H0.out.2.1, H0.out.2.2.1, by simpa using H0.out.2.2.2, by simp⟩⟩
  case round =>
    obtain ⟨k, u, b, o, d, hk, hg, rfl, rfl, hb, HX⟩ := hrel
    have HG := Lib.hid hg
    clear hg H0
    by_cases hlt : k < p.length
    case neg =>
      obtain rfl : k = p.length := by omega
      have HB := Lib.hid hb
      clear hb
      go_wp2
      go_ret
      obtain ⟨x1, x2, x2', x3, x4⟩ := HX.out
      rw [List.drop_length] at x4
      rw [List.take_length] at x3
      refine ⟨HB.out, fun h => (by rw [x4] at h; cases h), fun u' h => ?_⟩
      rw [x4] at h; cases h
      exact ⟨b, o, d, rfl, x1, x2, x2', x3⟩
    have hx := get_some hlt
    have hdr : p.drop k = p[k] :: p.drop (k + 1) := List.drop_eq_getElem_cons hlt
    have hsok := HALL.out p[k] (List.getElem_mem hlt)
    generalize p[k] = s at *
    obtain ⟨b1, off, rfl, hbl, q0, q1, q2, q3⟩ := Stps.at HP.out hb hx
    have HST := Lib.hid (And.intro hsok (And.intro hdr (take_snoc hx)))
    have hix := (stepOk_ix hsok).1
    clear hx hdr hsok
    obtain ⟨sk, sn, si, sv⟩ := s
    simp only at q0 q1 q2 q3
    have hbN := below_alloc wr (.cells #[.int .i64 sk, sV sn, .int .i64 si, sV sv] 52)
    have oN := Own.new wr [.int .i64 sk, sV sn, .int .i64 si, sV sv] 52
    have hbV := below_all hb hbN
    go_upto_region 4 with (fail)
    clear q0 q1 q2 q3
    change Code.wp Tryz.prog _ _ _ (wr.alloc (.cells #[.int .i64 sk, sV sn, .int .i64 si, sV sv] 52))
    generalize wr.alloc (.cells #[.int .i64 sk, sV sn, .int .i64 si, sV sv] 52) = V at *
    generalize wr.heap.size = nb at *
    have hdV := HX.out.1.all hbV
    have hIV := HX.out.2.1.all hbV
    obtain ⟨dk, dn, ds, dla, dln, dlc, dfa, dfn, dfc⟩ := d
    have z0 := cell_regrown hdV.k
    have z1 := cell_regrown hdV.n
    have z2 := cell_regrown hdV.s
    have z3 := cell_regrown hdV.l
    have z4 := cell_regrown hdV.f
    simp only at z0 z1 z2 z3 z4
    have y0 := cell_regrown (oN.cell (i := 0) rfl)
    have y1 := cell_regrown (oN.cell (i := 1) rfl)
    have y2 := cell_regrown (oN.cell (i := 2) rfl)
    have y3 := cell_regrown (oN.cell (i := 3) rfl)
    obtain ⟨R, hR⟩ : ∃ R : Int, ixO (place ⟨sk, sn, si, sv⟩ u) = R := ⟨_, rfl⟩
    have HIV := Lib.hid (And.intro hIV HX.out.2.2.1)
    have cP : ∀ dd os, Calls Tryz.prog 76 #[.agg #[.int .i64 dk, .int .i64 dn, sV ds, .slice dla dln dlc, .slice dfa dfn dfc], .agg #[.int .i64 sk, sV sn, .int .i64 si, sV sv]] (grow (redrawn V dd) os) fun e w'' => e = .returned (.int .i64 R) ∧ ∃ p : Regrown, w'' = grow (redrawn V p.d) p.os := fun dd os => Calls.regrown_of (by rw [← hR]; exact placeOf_any ⟨dk, dn, ds, dla, dln, dlc, dfa, dfn, dfc⟩ u ⟨sk, sn, si, sv⟩ _ (HIV.out.1.all (below_regrown V dd os)) HIV.out.2 hix)
    have HRR := Lib.hid hR
    have HVV := Lib.hid (And.intro hbV oN)
    clear hR hdV hIV hbV oN hbN hb hix
    refine wp_region_quiet_below (by kernel_rfl) (by kernel_rfl) ?_
    repeat (first | go_big_quiet_step ((first | with_reducible exact cP _ _)) | quiet_step (first | with_reducible exact cP _ _))
    refine wpQuiet_nil ?_
    intro _ hw'
    obtain ⟨⟨dq, osq⟩, hw''⟩ := hw'
    subst hw''
    have hbW := below_all HVV.out.1 (below_regrown V dq osq)
    have oW := HVV.out.2.all (below_regrown V dq osq)
    clear z0 z1 z2 z3 z4 y0 y1 y2 y3 cP HVV HIV
    generalize grow (redrawn V dq) osq = W at *
    have y0 := oW.cell (i := 0) rfl
    have hdW := HX.out.1.all hbW
    have z3 := hdW.l
    have z4 := hdW.f
    simp only at z3 z4
    have HW := Lib.hid hbW
    clear oW hdW hbW
    cases hpl2 : place ⟨sk, sn, si, sv⟩ u with
    | none =>
      have hR : R = -1 := by rw [← HRR.out, hpl2]; rfl
      have HF : Hid (findT t p = none) := Lib.hid (by rw [HX.out.2.2.2.2, HST.out.2.1, findT_step]; unfold kid; rw [hpl2])
      subst hR
      clear hpl2
      go_wp2
      go_ret
      exact ⟨HW.out, fun _ => rfl, fun u' h => (by rw [HF.out] at h; cases h)⟩
    | some i =>
      have hR : R = (i : Int) := by rw [← HRR.out, hpl2]; rfl
      subst hR
      obtain ⟨u', hu'⟩ := kid_some (stepOk_ix HST.out.1).1 hpl2
      have HF : Hid (findT t p = findT u' (p.drop (k + 1))) := Lib.hid (by rw [HX.out.2.2.2.2, HST.out.2.1, findT_step]; unfold kid; rw [hpl2]; simp only [hu'])
      obtain ⟨uk, un, us, ul, uf⟩ := u
      have hplt := place_lt (stepOk_ix HST.out.1).1 hpl2
      by_cases h1 : sk = 1
      · subst h1
        simp only [if_true] at hplt
        have hu2 : (uf[i]?).map (·.2) = some u' := by simpa [kidAt] using hu'
        have hpi := List.getElem?_eq_getElem hplt
        generalize uf[i] = pr at hpi
        rw [hpi] at hu2
        have hpr : pr.2 = u' := by simpa using hu2
        have hf := HX.out.2.1.flds
        simp only at hf
        have hfs := hf.slice
        obtain ⟨bb, oo, d', rfl, hbb, hd', e, e0, e1, e2, e3, e4⟩ := hf.at (Below.refl _ _) hpi
        have hfi : i < dfn := by omega
        have hfi2 : dfn ≤ dfc := by omega
        have hfi3 : dfc ≤ 9223372036854775807 := by have := hfs.2.2; unfold maxLen at this; omega
        have hsz : u'.size ≤ 10000 := by rw [← hpr]; exact Int.le_trans (size_in_f (List.mem_of_getElem? hpi)) HX.out.2.2.1
        have HN : Hid (VAt w bb (oo + i * 6 + 1) d' ∧ Is w d' u' ∧ u'.size ≤ 10000 ∧ J (p.take (k + 1)) u' bb (oo + i * 6 + 1) d' ∧ findT t p = findT u' (p.drop (k + 1))) := Lib.hid (by
          have hva : VAt w bb (oo + i * 6 + 1) d' := ⟨e0, e1, e2, e3, e4⟩
          have hva2 : Is w d' u' := by rw [← hpr]; exact hd'
          refine ⟨hva, hva2, hsz, ?_, HF.out⟩
          rw [HST.out.2.2]
          exact HJ.out _ _ _ _ _ _ i u' bb _ d' HX.out.2.2.2.1 HX.out.1 HX.out.2.1 HST.out.1 hpl2 hu' (by unfold Down; rw [if_pos rfl]; exact ⟨oo, rfl, rfl⟩) hva hva2)
        clear hu2 hpi hpr hf hfs e e0 e1 e2 e3 e4 hd' hu' hpl2 hplt hsz
        go_wp2
        go_roundg (p.length - (k + 1))
        case measure => have := HG.out; omega
        case rel => exact ⟨k + 1, u', bb, oo + i * 6 + 1, d', by omega, rfl, by go_num, rfl, HW.out, HN⟩
      · simp only [h1, if_false] at hplt
        have hpi : ul[i]? = some u' := by simpa [kidAt, h1] using hu'
        have hf := HX.out.2.1.vals
        simp only at hf
        have hfs := hf.slice
        obtain ⟨bb, oo, d', rfl, hbb, hd', e0, e1, e2, e3, e4⟩ := hf.at (Below.refl _ _) hpi
        have hfi : i < dln := by omega
        have hfi2 : dln ≤ dlc := by omega
        have hfi3 : dlc ≤ 9223372036854775807 := by have := hfs.2.2; unfold maxLen at this; omega
        have hsz : u'.size ≤ 10000 := Int.le_trans (size_in_l (List.mem_of_getElem? hpi)) HX.out.2.2.1
        have HN : Hid (VAt w bb (oo + i * 5) d' ∧ Is w d' u' ∧ u'.size ≤ 10000 ∧ J (p.take (k + 1)) u' bb (oo + i * 5) d' ∧ findT t p = findT u' (p.drop (k + 1))) := Lib.hid (by
          have hva : VAt w bb (oo + i * 5) d' := ⟨e0, e1, e2, e3, e4⟩
          refine ⟨hva, hd', hsz, ?_, HF.out⟩
          rw [HST.out.2.2]
          exact HJ.out _ _ _ _ _ _ i u' bb _ d' HX.out.2.2.2.1 HX.out.1 HX.out.2.1 HST.out.1 hpl2 hu' (by unfold Down; rw [if_neg h1]; exact ⟨oo, rfl, rfl⟩) hva hd')
        clear hpi hf hfs e0 e1 e2 e3 e4 hd' hu' hpl2 hplt hsz
        go_wp2
        go_roundg (p.length - (k + 1))
        case measure => have := HG.out; omega
        case rel => exact ⟨k + 1, u', bb, oo + i * 5, d', by omega, rfl, by go_num, rfl, HW.out, HN⟩
end Go.Proofs.YtjpmnlefjmdelaaGreatDoor
namespace Go.Proofs.YtjpmnlefjmdelaaGreatDoor
open Go.RowKit Go.Sort Go.Proofs.LawFrame

theorem kid_size {s : S} {t c : T} (h : kid s t = some c) : c.size ≤ t.size := by
  unfold kid at h
  cases hp : place s t with
  | none => rw [hp] at h; cases h
  | some i =>
    rw [hp] at h
    obtain ⟨k, n, x, l, f⟩ := t
    simp only [kidAt] at h
    split at h
    · cases hq : f[i]? with
      | none => rw [hq] at h; cases h
      | some p => rw [hq] at h; simp at h; subst h; exact size_in_f (List.mem_of_getElem? hq)
    · exact size_in_l (List.mem_of_getElem? h)
theorem findT_size : ∀ {p : List S} {t u : T}, findT t p = some u → u.size ≤ t.size
  | [], t, u, h => by simp [findT] at h; subst h; exact Int.le_refl _
  | s :: p, t, u, h => by
    rw [findT_step] at h
    cases hk : kid s t with
    | none => rw [hk] at h; cases h
    | some c => rw [hk] at h; exact Int.le_trans (findT_size h) (kid_size hk)
theorem below_put5 {B b : Nat} {w W : World} (h : Below B w W) (hb : B ≤ b) (v0 v1 v2 v3 v4 : Value) : Below B w (put5 W b v0 v1 v2 v3 v4) := below_set (below_set (below_set (below_set (below_set h hb _) hb _) hb _) hb _) hb _
theorem put5_size (W : World) (b : Nat) (v0 v1 v2 v3 v4 : Value) : (put5 W b v0 v1 v2 v3 v4).heap.size = W.heap.size := by unfold put5; rw [setCell_size, setCell_size, setCell_size, setCell_size, setCell_size]
theorem IsS.put5 {W : World} {lo hi : Nat} {c : VC} {t : T} {b : Nat} (h : IsS W lo hi c t) (hb : b < lo ∨ hi ≤ b) (v0 v1 v2 v3 v4 : Value) : IsS (put5 W b v0 v1 v2 v3 v4) lo hi c t := ((((h.set hb _ _).set hb _ _).set hb _ _).set hb _ _).set hb _ _

/-- what Get answers -/
structure QG (w : World) (t : T) (p : List S) (e : Ending) (w' : World) : Prop where
  below : Below w.heap.size w w'
  no : (pathOk p = true → findT t p = none) → e = .returned (.tuple #[.agg #[.int .i64 0, .int .i64 0, .string ⟨#[]⟩, .slice none 0 0, .slice none 0 0], .bool false])
  ok : pathOk p = true → ∀ u, findT t p = some u → ∃ (c' : VC) (hi : Nat), e = .returned (.tuple #[c'.val, .bool true]) ∧ w.heap.size ≤ hi ∧ hi ≤ w'.heap.size ∧ IsS w' w.heap.size hi c' u

set_option maxHeartbeats 8000000 in
set_option maxRecDepth 4000 in
theorem pathGet_any (c : VC) (t : T) (v : Value) (p : List S) (w : World) (hI : Is w c t) (hz : t.size ≤ 4000) (hp : Stps w v p) (hn : p.length ≤ 10000) : Calls Tryz.prog 34 #[c.val, v] w (QG w t p) := by
  obtain ⟨ck, cn, cs, la, ln, lc, fa, fn, fc⟩ := c
  show Calls Tryz.prog 34 #[.agg #[.int .i64 ck, .int .i64 cn, sV cs, .slice la ln lc, .slice fa fn fc], v] w _
  obtain ⟨ao, cp, rfl, -, -⟩ := Stps.form hp
  have hb0 : Below w.heap.size w ((w.alloc (.cells #[.int .i64 ck, .int .i64 cn, sV cs, .slice la ln lc, .slice fa fn fc] 25)).alloc (.cells #[.int .i64 0, .int .i64 0, .string ⟨#[]⟩, .slice none 0 0, .slice none 0 0] 25)) := ((Below.refl _ _).alloc (Nat.le_refl _) _).alloc (by simp) _
  have oB : Own ((w.alloc (.cells #[.int .i64 ck, .int .i64 cn, sV cs, .slice la ln lc, .slice fa fn fc] 25)).alloc (.cells #[.int .i64 0, .int .i64 0, .string ⟨#[]⟩, .slice none 0 0, .slice none 0 0] 25)) w.heap.size [.int .i64 ck, .int .i64 cn, sV cs, .slice la ln lc, .slice fa fn fc] 25 := (Own.new _ _ _).alloc _
  have oR : Own ((w.alloc (.cells #[.int .i64 ck, .int .i64 cn, sV cs, .slice la ln lc, .slice fa fn fc] 25)).alloc (.cells #[.int .i64 0, .int .i64 0, .string ⟨#[]⟩, .slice none 0 0, .slice none 0 0] 25)) (w.heap.size + 1) [.int .i64 0, .int .i64 0, .string ⟨#[]⟩, .slice none 0 0, .slice none 0 0] 25 := Own.new_at (by rw [size_alloc]) _ _
  have HS := Lib.hid (And.intro hb0 (And.intro oB (And.intro oR (And.intro (hI.all hb0) (Flat.all hp hb0)))))
  clear hb0 oB oR hI hp
  go_enter Tryz.func34, Tryz.ntmps34
  go_upto_region 1 with (fail)
  change Code.wp Tryz.prog _ _ _ ((w.alloc (.cells #[.int .i64 ck, .int .i64 cn, sV cs, .slice la ln lc, .slice fa fn fc] 25)).alloc (.cells #[.int .i64 0, .int .i64 0, .string ⟨#[]⟩, .slice none 0 0, .slice none 0 0] 25))
  generalize ((w.alloc (.cells #[.int .i64 ck, .int .i64 cn, sV cs, .slice la ln lc, .slice fa fn fc] 25)).alloc (.cells #[.int .i64 0, .int .i64 0, .string ⟨#[]⟩, .slice none 0 0, .slice none 0 0] 25)) = V at *
  have C := Lib.hid (pathValid_any _ p V HS.out.2.2.2.2 (by omega))
  go_wp2_with fail
  refine C.out.mono ?_
  rintro e w1 ⟨rfl, hb1⟩
  clear C
  have HS1 := Lib.hid (And.intro (below_all HS.out.1 hb1) (And.intro (HS.out.2.1.all hb1) (And.intro (HS.out.2.2.1.all hb1) (And.intro (HS.out.2.2.2.1.all hb1) (Flat.all HS.out.2.2.2.2 hb1)))))
  clear HS hb1
  cases hok : pathOk p
  · have HF : Hid (∀ h : pathOk p = true, findT t p = none) := Lib.hid (fun h => by rw [hok] at h; cases h)
    have oFin := HS1.out.2.2.1
    have q0 := oFin.cell (i := 0) rfl
    have q1 := oFin.cell (i := 1) rfl
    have q2 := oFin.cell (i := 2) rfl
    have q3 := oFin.cell (i := 3) rfl
    have q4 := oFin.cell (i := 4) rfl
    have g0 := oFin.frozen 0
    have g1 := oFin.frozen 1
    have g2 := oFin.frozen 2
    have g3 := oFin.frozen 3
    have g4 := oFin.frozen 4
    have HU := Lib.hid (And.intro (own_put5 oFin (.int .i64 0) (.int .i64 0) (.string ⟨#[]⟩) (.slice none 0 0) (.slice none 0 0)) (below_put5 HS1.out.1 (Nat.le_succ _) (.int .i64 0) (.int .i64 0) (.string ⟨#[]⟩) (.slice none 0 0) (.slice none 0 0)))
    clear oFin
    go_wp2
    clear q0 q1 q2 q3 q4 g0 g1 g2 g3 g4
    change bodyPost Tryz.prog Tryz.f34 _ _ _ (put5 w1 (w.heap.size + 1) (.int .i64 0) (.int .i64 0) (.string ⟨#[]⟩) (.slice none 0 0) (.slice none 0 0))
    generalize put5 w1 (w.heap.size + 1) (.int .i64 0) (.int .i64 0) (.string ⟨#[]⟩) (.slice none 0 0) (.slice none 0 0) = U at *
    have c0 := HU.out.1.cell (i := 0) rfl
    have c1 := HU.out.1.cell (i := 1) rfl
    have c2 := HU.out.1.cell (i := 2) rfl
    have c3 := HU.out.1.cell (i := 3) rfl
    have c4 := HU.out.1.cell (i := 4) rfl
    exact bodyPost_ret (v := .tuple #[.agg #[.int .i64 0, .int .i64 0, .string ⟨#[]⟩, .slice none 0 0, .slice none 0 0], .bool false]) (by simp [results, Tryz.results34, go_sem, c0, c1, c2, c3, c4]) rfl ⟨HU.out.2, fun _ => rfl, fun h u hu => (by rw [HF.out h] at hu; cases hu)⟩
  have hall : ∀ s ∈ p, stepOk s = true := by
    unfold pathOk at hok
    simp only [Bool.and_eq_true, decide_eq_true_eq, List.all_eq_true] at hok
    exact hok.2
  have C := Lib.hid (find_any (fun _ _ _ _ _ => True) p _ w1 HS1.out.2.2.2.2 hn hall t (by omega) w.heap.size 0 ⟨ck, cn, cs, la, ln, lc, fa, fn, fc⟩ (VAt.own HS1.out.2.1) HS1.out.2.2.2.1 trivial (fun _ _ _ _ _ _ _ _ _ _ _ _ _ _ _ _ _ _ _ _ => trivial))
  clear hall
  go_wp2_with fail
  refine C.out.mono ?_
  rintro e w2 hres
  clear C
  have hb2 := hres.below
  cases hf : findT t p with
  | none =>
    obtain rfl := hres.no hf
    have HF : Hid (∀ h : pathOk p = true, findT t p = none) := Lib.hid (fun h => hf)
    have HS2 := Lib.hid (And.intro (below_all HS1.out.1 hb2) (HS1.out.2.2.1.all hb2))
    clear hres hf hb2 HS1
    have oFin := HS2.out.2
    have q0 := oFin.cell (i := 0) rfl
    have q1 := oFin.cell (i := 1) rfl
    have q2 := oFin.cell (i := 2) rfl
    have q3 := oFin.cell (i := 3) rfl
    have q4 := oFin.cell (i := 4) rfl
    have g0 := oFin.frozen 0
    have g1 := oFin.frozen 1
    have g2 := oFin.frozen 2
    have g3 := oFin.frozen 3
    have g4 := oFin.frozen 4
    have HU := Lib.hid (And.intro (own_put5 oFin (.int .i64 0) (.int .i64 0) (.string ⟨#[]⟩) (.slice none 0 0) (.slice none 0 0)) (below_put5 HS2.out.1 (Nat.le_succ _) (.int .i64 0) (.int .i64 0) (.string ⟨#[]⟩) (.slice none 0 0) (.slice none 0 0)))
    clear oFin
    go_wp2
    clear q0 q1 q2 q3 q4 g0 g1 g2 g3 g4
    change bodyPost Tryz.prog Tryz.f34 _ _ _ (put5 w2 (w.heap.size + 1) (.int .i64 0) (.int .i64 0) (.string ⟨#[]⟩) (.slice none 0 0) (.slice none 0 0))
    generalize put5 w2 (w.heap.size + 1) (.int .i64 0) (.int .i64 0) (.string ⟨#[]⟩) (.slice none 0 0) (.slice none 0 0) = U at *
    have c0 := HU.out.1.cell (i := 0) rfl
    have c1 := HU.out.1.cell (i := 1) rfl
    have c2 := HU.out.1.cell (i := 2) rfl
    have c3 := HU.out.1.cell (i := 3) rfl
    have c4 := HU.out.1.cell (i := 4) rfl
    exact bodyPost_ret (v := .tuple #[.agg #[.int .i64 0, .int .i64 0, .string ⟨#[]⟩, .slice none 0 0, .slice none 0 0], .bool false]) (by simp [results, Tryz.results34, go_sem, c0, c1, c2, c3, c4]) rfl ⟨HU.out.2, fun _ => rfl, fun h u hu => (by rw [HF.out h] at hu; cases hu)⟩
  | some u =>
    obtain ⟨b, o, ⟨dk, dn, ds, dla, dln, dlc, dfa, dfn, dfc⟩, rfl, hva, hdi, -, -⟩ := hres.ok u hf
    have hva2 := hva.all hb2
    have z0 := hva2.k
    have z1 := hva2.n
    have z2 := hva2.s
    have z3 := hva2.l
    have z4 := hva2.f
    simp only at z0 z1 z2 z3 z4
    have CD := Lib.hid (duplicate_any _ u w2 (hdi.all hb2) (Int.le_trans (findT_size hf) hz))
    have HF := Lib.hid (And.intro hok hf)
    have HS2 := Lib.hid (And.intro (below_all HS1.out.1 hb2) (HS1.out.2.2.1.all hb2))
    clear hres hf hb2 HS1 hva hva2 hdi hok
    go_wp2_with fail
    refine CD.out.mono ?_
    rintro e w3 ⟨d, hi, rfl, hb3, hlo, hhi, hD⟩
    clear CD z0 z1 z2 z3 z4
    have hw2 : w.heap.size + 1 < w2.heap.size := HS2.out.2.lt
    have HS3 := Lib.hid (And.intro (below_all HS2.out.1 hb3) (HS2.out.2.all hb3))
    have HD := Lib.hid (And.intro hD (And.intro hlo hhi))
    clear hb3 HS2 hD hlo hhi
    have oFin := HS3.out.2
    have q0 := oFin.cell (i := 0) rfl
    have q1 := oFin.cell (i := 1) rfl
    have q2 := oFin.cell (i := 2) rfl
    have q3 := oFin.cell (i := 3) rfl
    have q4 := oFin.cell (i := 4) rfl
    have g0 := oFin.frozen 0
    have g1 := oFin.frozen 1
    have g2 := oFin.frozen 2
    have g3 := oFin.frozen 3
    have g4 := oFin.frozen 4
    have HU := Lib.hid (And.intro (own_put5 oFin (.int .i64 d.k) (.int .i64 d.n) (sV d.s) (.slice d.la d.ln d.lc) (.slice d.fa d.fn d.fc)) (And.intro (below_put5 HS3.out.1 (Nat.le_succ _) (.int .i64 d.k) (.int .i64 d.n) (sV d.s) (.slice d.la d.ln d.lc) (.slice d.fa d.fn d.fc)) (And.intro (HD.out.1.put5 (b := w.heap.size + 1) (Or.inl (by omega)) (.int .i64 d.k) (.int .i64 d.n) (sV d.s) (.slice d.la d.ln d.lc) (.slice d.fa d.fn d.fc)) (show hi ≤ (put5 w3 (w.heap.size + 1) (.int .i64 d.k) (.int .i64 d.n) (sV d.s) (.slice d.la d.ln d.lc) (.slice d.fa d.fn d.fc)).heap.size by rw [put5_size]; exact HD.out.2.2))))
    clear oFin
    go_wp2
    clear q0 q1 q2 q3 q4 g0 g1 g2 g3 g4
    change bodyPost Tryz.prog Tryz.f34 _ _ _ (put5 w3 (w.heap.size + 1) (.int .i64 d.k) (.int .i64 d.n) (sV d.s) (.slice d.la d.ln d.lc) (.slice d.fa d.fn d.fc))
    generalize put5 w3 (w.heap.size + 1) (.int .i64 d.k) (.int .i64 d.n) (sV d.s) (.slice d.la d.ln d.lc) (.slice d.fa d.fn d.fc) = U at *
    have c0 := HU.out.1.cell (i := 0) rfl
    have c1 := HU.out.1.cell (i := 1) rfl
    have c2 := HU.out.1.cell (i := 2) rfl
    have c3 := HU.out.1.cell (i := 3) rfl
    have c4 := HU.out.1.cell (i := 4) rfl
    exact bodyPost_ret (v := .tuple #[.agg #[.int .i64 d.k, .int .i64 d.n, sV d.s, .slice d.la d.ln d.lc, .slice d.fa d.fn d.fc], .bool true]) (by simp [results, Tryz.results34, go_sem, c0, c1, c2, c3, c4]) rfl ⟨HU.out.2.1, fun h => (by have := h HF.out.1; rw [HF.out.2] at this; cases this), fun _ u' hu => (by rw [HF.out.2] at hu; cases hu; exact ⟨d, hi, rfl, by have := HD.out.2.1; omega, HU.out.2.2.2, HU.out.2.2.1.mono (by omega) (Nat.le_refl _)⟩)⟩
end Go.Proofs.YtjpmnlefjmdelaaGreatDoor
