/- The reference's Get. -/
import Derived.Test.YtjpmnlefjmdelaaGreatDoorYrJ
import Derived.Test.YtjpmnlefjmdelaaGreatDoorYcJ
import Derived.Test.YtjpmnlefjmdelaaGreatDoorXtJ
set_option linter.unusedSimpArgs false
set_option linter.unusedVariables false
namespace Go.Proofs.YtjpmnlefjmdelaaGreatDoor
open Go.RowKit Go.Sort Go.Proofs.LawFrame

/-- what the reference's Get answers -/
structure QGr (w : World) (t : T) (p : List S) (e : Ending) (w' : World) : Prop where
  below : Below w.heap.size w w'
  no : (pathOk p = true → findT t p = none) → e = .returned (.tuple #[.agg #[.int .i64 0, .int .i64 0, .string ⟨#[]⟩, .slice none 0 0, .slice none 0 0], .bool false])
  ok : pathOk p = true → ∀ u, findT t p = some u → ∃ c' : VC, e = .returned (.tuple #[c'.val, .bool true]) ∧ Is w c' u
theorem QGr.mkNo {w w' : World} {t : T} {p : List S} (h : Below w.heap.size w w') (hn : pathOk p = true → findT t p = none) : QGr w t p (.returned (.tuple #[.agg #[.int .i64 0, .int .i64 0, .string ⟨#[]⟩, .slice none 0 0, .slice none 0 0], .bool false])) w' :=
  ⟨h, fun _ => rfl, fun h1 u h2 => by rw [hn h1] at h2; cases h2⟩
theorem QGr.mkOk {w w' : World} {t u : T} {p : List S} {c' : VC} (h : Below w.heap.size w w') (hk : pathOk p = true) (hf : findT t p = some u) (hI : Is w c' u) : QGr w t p (.returned (.tuple #[c'.val, .bool true])) w' :=
  ⟨h, fun hn => (by rw [hn hk] at hf; cases hf), fun _ u2 h2 => ⟨c', rfl, by rw [hf] at h2; cases h2; exact hI⟩⟩

set_option maxHeartbeats 8000000 in
set_option maxRecDepth 4000 in
theorem pget_any (c : VC) (t : T) (v : Value) (p : List S) (w : World) (hI : Is w c t) (hp : Stps w v p) (hn : p.length ≤ 100000) (hs : ∀ s ∈ p, s.nm.length ≤ 1000000 ∧ s.vl.length ≤ 1000000) : Calls Tryz.prog 35 #[c.val, v] w (QGr w t p) := by
  obtain ⟨ck, cn, cs, cla, cln, clc, cfa, cfn, cfc⟩ := c
  obtain ⟨ao, cp, rfl, hpc, hpm⟩ := Stps.form hp
  unfold maxLen at hpm
  have hb0 : Below w.heap.size w ((w.alloc (.cells #[.int .i64 ck, .int .i64 cn, sV cs, .slice cla cln clc, .slice cfa cfn cfc] 25)).alloc (.cells #[.int .i64 0, .int .i64 0, .string ⟨#[]⟩, .slice none 0 0, .slice none 0 0] 25)) := ((Below.refl _ _).alloc (Nat.le_refl _) _).alloc (by simp) _
  have oB : Own ((w.alloc (.cells #[.int .i64 ck, .int .i64 cn, sV cs, .slice cla cln clc, .slice cfa cfn cfc] 25)).alloc (.cells #[.int .i64 0, .int .i64 0, .string ⟨#[]⟩, .slice none 0 0, .slice none 0 0] 25)) w.heap.size [.int .i64 ck, .int .i64 cn, sV cs, .slice cla cln clc, .slice cfa cfn cfc] 25 := (Own.new _ _ _).alloc _
  have oR : Own ((w.alloc (.cells #[.int .i64 ck, .int .i64 cn, sV cs, .slice cla cln clc, .slice cfa cfn cfc] 25)).alloc (.cells #[.int .i64 0, .int .i64 0, .string ⟨#[]⟩, .slice none 0 0, .slice none 0 0] 25)) (w.heap.size + 1) [.int .i64 0, .int .i64 0, .string ⟨#[]⟩, .slice none 0 0, .slice none 0 0] 25 := Own.new_at (by rw [size_alloc]) _ _
  have HB := Lib.hid (And.intro hI hp)
  have HS := Lib.hid (And.intro hb0 (And.intro oB (And.intro oR (Flat.all hp hb0))))
  clear hb0 oB oR hI hp
  show Calls Tryz.prog 35 #[.agg #[.int .i64 ck, .int .i64 cn, sV cs, .slice cla cln clc, .slice cfa cfn cfc], .slice ao p.length cp] w _
  go_enter Tryz.func35, Tryz.ntmps35
  go_upto_region 1 with (fail)
  change Code.wp Tryz.prog _ _ _ ((w.alloc (.cells #[.int .i64 ck, .int .i64 cn, sV cs, .slice cla cln clc, .slice cfa cfn cfc] 25)).alloc (.cells #[.int .i64 0, .int .i64 0, .string ⟨#[]⟩, .slice none 0 0, .slice none 0 0] 25))
  generalize ((w.alloc (.cells #[.int .i64 ck, .int .i64 cn, sV cs, .slice cla cln clc, .slice cfa cfn cfc] 25)).alloc (.cells #[.int .i64 0, .int .i64 0, .string ⟨#[]⟩, .slice none 0 0, .slice none 0 0] 25)) = V at *
  have C := Lib.hid (rvPath_any _ p V HS.out.2.2.2 hn hs)
  obtain ⟨B, hB⟩ : ∃ B, pathOk p = B := ⟨_, rfl⟩
  rw [hB] at C
  have HPK := Lib.hid hB
  clear hB hs
  go_wp2_with fail
  refine C.out.mono ?_
  rintro e w1 ⟨rfl, hb1⟩
  have HS1 := Lib.hid (And.intro (below_all HS.out.1 hb1) (And.intro (HS.out.2.1.all hb1) (HS.out.2.2.1.all hb1)))
  clear C hb1 HS
  cases B with
  | false =>
    have HF : Hid (pathOk p = true → findT t p = none) := Lib.hid (fun h => by rw [HPK.out] at h; cases h)
    have oFin := HS1.out.2.2
    have q0 := oFin.cell (i := 0) rfl
    have q1 := oFin.cell (i := 1) rfl
    have q2 := oFin.cell (i := 2) rfl
    have q3 := oFin.cell (i := 3) rfl
    have q4 := oFin.cell (i := 4) rfl
    have g0 := oFin.frozen 0
    have g1 := oFin.frozen 1
    have g2 := oFin.frozen 2
    have g3 := oFin.frozen 3
    have g4 := oFin.frozen 4
    have HU := Lib.hid (And.intro (own_put5 oFin (.int .i64 0) (.int .i64 0) (.string ⟨#[]⟩) (.slice none 0 0) (.slice none 0 0)) (below_put5 HS1.out.1 (Nat.le_succ _) (.int .i64 0) (.int .i64 0) (.string ⟨#[]⟩) (.slice none 0 0) (.slice none 0 0)))
    clear oFin
    go_wp2
    clear q0 q1 q2 q3 q4 g0 g1 g2 g3 g4
    change bodyPost Tryz.prog Tryz.f35 _ _ _ (put5 w1 (w.heap.size + 1) (.int .i64 0) (.int .i64 0) (.string ⟨#[]⟩) (.slice none 0 0) (.slice none 0 0))
    generalize put5 w1 (w.heap.size + 1) (.int .i64 0) (.int .i64 0) (.string ⟨#[]⟩) (.slice none 0 0) (.slice none 0 0) = U at *
    have c0 := HU.out.1.cell (i := 0) rfl
    have c1 := HU.out.1.cell (i := 1) rfl
    have c2 := HU.out.1.cell (i := 2) rfl
    have c3 := HU.out.1.cell (i := 3) rfl
    have c4 := HU.out.1.cell (i := 4) rfl
    exact bodyPost_ret (v := .tuple #[.agg #[.int .i64 0, .int .i64 0, .string ⟨#[]⟩, .slice none 0 0, .slice none 0 0], .bool false]) (by simp [results, Tryz.results35, go_sem, c0, c1, c2, c3, c4]) rfl (QGr.mkNo HU.out.2 HF.out)
  | true =>
    go_wp2
    go_loopg [6] p.length (fun g i wr => ∃ (j : Nat) (u : T) (d : VC), j ≤ p.length ∧ g = p.length - j ∧ i = .int .i64 j ∧ Below w.heap.size w wr ∧ Own wr w.heap.size d.cells 25 ∧ Own wr (w.heap.size + 1) [.int .i64 0, .int .i64 0, .string ⟨#[]⟩, .slice none 0 0, .slice none 0 0] 25 ∧ Hid (Is w d u ∧ findT t p = findT u (p.drop j)))
    case atStart => exact ⟨0, t, ⟨ck, cn, cs, cla, cln, clc, cfa, cfn, cfc⟩, Nat.zero_le _, rfl, rfl, HS1.out.1, HS1.out.2.1, HS1.out.2.2, Lib.hid ⟨HB.out.1, rfl⟩⟩
    case round =>
      obtain ⟨j, u, ⟨dk, dn, ds, dla, dln, dlc, dfa, dfn, dfc⟩, hj, hg, rfl, hb, oB, oR, HE⟩ := hrel
      have HG := Lib.hid hg
      clear hg HS1
      by_cases hlt : j < p.length
      case neg =>
        obtain rfl : j = p.length := by omega
        have hfin : findT t p = some u := by rw [HE.out.2, List.drop_length]; rfl
        have HF := Lib.hid (And.intro hfin HE.out.1)
        have HSB := Lib.hid (And.intro hb (And.intro oB oR))
        clear hfin hb oB oR
        have x0 := HSB.out.2.1.cell (i := 0) rfl
        have x1 := HSB.out.2.1.cell (i := 1) rfl
        have x2 := HSB.out.2.1.cell (i := 2) rfl
        have x3 := HSB.out.2.1.cell (i := 3) rfl
        have x4 := HSB.out.2.1.cell (i := 4) rfl
        have oFin := HSB.out.2.2
        have q0 := oFin.cell (i := 0) rfl
        have q1 := oFin.cell (i := 1) rfl
        have q2 := oFin.cell (i := 2) rfl
        have q3 := oFin.cell (i := 3) rfl
        have q4 := oFin.cell (i := 4) rfl
        have g0 := oFin.frozen 0
        have g1 := oFin.frozen 1
        have g2 := oFin.frozen 2
        have g3 := oFin.frozen 3
        have g4 := oFin.frozen 4
        have HU := Lib.hid (And.intro (own_put5 oFin (.int .i64 dk) (.int .i64 dn) (sV ds) (.slice dla dln dlc) (.slice dfa dfn dfc)) (below_put5 HSB.out.1 (Nat.le_succ _) (.int .i64 dk) (.int .i64 dn) (sV ds) (.slice dla dln dlc) (.slice dfa dfn dfc)))
        clear oFin
        go_wp2
        clear q0 q1 q2 q3 q4 g0 g1 g2 g3 g4
        change bodyPost Tryz.prog Tryz.f35 _ _ _ (put5 wr (w.heap.size + 1) (.int .i64 dk) (.int .i64 dn) (sV ds) (.slice dla dln dlc) (.slice dfa dfn dfc))
        generalize put5 wr (w.heap.size + 1) (.int .i64 dk) (.int .i64 dn) (sV ds) (.slice dla dln dlc) (.slice dfa dfn dfc) = U at *
        have c0 := HU.out.1.cell (i := 0) rfl
        have c1 := HU.out.1.cell (i := 1) rfl
        have c2 := HU.out.1.cell (i := 2) rfl
        have c3 := HU.out.1.cell (i := 3) rfl
        have c4 := HU.out.1.cell (i := 4) rfl
        exact bodyPost_ret (v := .tuple #[.agg #[.int .i64 dk, .int .i64 dn, sV ds, .slice dla dln dlc, .slice dfa dfn dfc], .bool true]) (by simp [results, Tryz.results35, go_sem, c0, c1, c2, c3, c4]) rfl (QGr.mkOk (c' := ⟨dk, dn, ds, dla, dln, dlc, dfa, dfn, dfc⟩) HU.out.2 HPK.out HF.out.1 HF.out.2)
      have hx := get_some hlt
      have hdr := List.drop_eq_getElem_cons hlt
      generalize p[j] = s at hx hdr
      obtain ⟨b, off, rfl, hbl, q0, q1, q2, q3⟩ := Stps.at HB.out.2 hb hx
      have hsok := (pathOk_all HPK.out).2 s (List.mem_of_getElem? hx)
      have HX := Lib.hid (And.intro hdr (And.intro hsok (stepOk_ix hsok)))
      obtain ⟨pl, hpl⟩ : ∃ pl, place s u = pl := ⟨_, rfl⟩
      have cC : ∀ dd os, Calls Tryz.prog 75 #[.agg #[.int .i64 dk, .int .i64 dn, sV ds, .slice dla dln dlc, .slice dfa dfn dfc], s.val] (grow (redrawn wr dd) os) fun e w'' => e = .returned (.int .i64 (ixO pl)) ∧ ∃ p : Regrown, w'' = grow (redrawn wr p.d) p.os := fun dd os => by
        have := pfind_any ⟨dk, dn, ds, dla, dln, dlc, dfa, dfn, dfc⟩ u s _ ((HE.out.1.all hb).all (below_regrown wr dd os)) hsok
        rw [hpl] at this
        exact Calls.regrown_of this
      have HPL := Lib.hid hpl
      obtain ⟨sk, sn, si, sv⟩ := s
      have HSB := Lib.hid (And.intro hb (And.intro oB oR))
      have x0 := oB.cell (i := 0) rfl
      have x1 := oB.cell (i := 1) rfl
      have x2 := oB.cell (i := 2) rfl
      have x3 := oB.cell (i := 3) rfl
      have x4 := oB.cell (i := 4) rfl
      clear hx hdr hsok hpl hb oB oR
      have gx0 := cell_regrown x0
      have gx1 := cell_regrown x1
      have gx2 := cell_regrown x2
      have gx3 := cell_regrown x3
      have gx4 := cell_regrown x4
      have gq0 := cell_regrown q0
      have gq1 := cell_regrown q1
      have gq2 := cell_regrown q2
      have gq3 := cell_regrown q3
      go_upto_region 6 with (fail)
      refine wp_region_quiet_below (by kernel_rfl) (by kernel_rfl) ?_
      repeat (first | go_big_quiet_step ((with_reducible exact cC _ _)) | quiet_step (with_reducible exact cC _ _))
      refine wpQuiet_nil ?_
      intro _ hw'
      obtain ⟨⟨dq, osq⟩, hw''⟩ := hw'
      subst hw''
      have hbW := below_all HSB.out.1 (below_regrown wr dq osq)
      have HW := Lib.hid (And.intro hbW (And.intro (HSB.out.2.1.all (below_regrown wr dq osq)) (HSB.out.2.2.all (below_regrown wr dq osq))))
      have q0 := (hbW.cell (p := ⟨b, off + j * 4, none⟩) hbl).trans ((HSB.out.1.cell (p := ⟨b, off + j * 4, none⟩) hbl).symm.trans q0)
      clear cC x0 x1 x2 x3 x4 gx0 gx1 gx2 gx3 gx4 q1 q2 q3 gq0 gq1 gq2 gq3 hbW HSB
      generalize grow (redrawn wr dq) osq = W3 at *
      cases pl with
      | none =>
        have HF : Hid (pathOk p = true → findT t p = none) := Lib.hid (fun _ => by
          rw [HE.out.2, HX.out.1, findT_step]
          unfold kid
          rw [HPL.out])
        simp only [ixO]
        have oFin := HW.out.2.2
        have q0 := oFin.cell (i := 0) rfl
        have q1 := oFin.cell (i := 1) rfl
        have q2 := oFin.cell (i := 2) rfl
        have q3 := oFin.cell (i := 3) rfl
        have q4 := oFin.cell (i := 4) rfl
        have g0 := oFin.frozen 0
        have g1 := oFin.frozen 1
        have g2 := oFin.frozen 2
        have g3 := oFin.frozen 3
        have g4 := oFin.frozen 4
        have HU := Lib.hid (And.intro (own_put5 oFin (.int .i64 0) (.int .i64 0) (.string ⟨#[]⟩) (.slice none 0 0) (.slice none 0 0)) (below_put5 HW.out.1 (Nat.le_succ _) (.int .i64 0) (.int .i64 0) (.string ⟨#[]⟩) (.slice none 0 0) (.slice none 0 0)))
        clear oFin
        go_wp2
        clear q0 q1 q2 q3 q4 g0 g1 g2 g3 g4
        change bodyPost Tryz.prog Tryz.f35 _ _ _ (put5 W3 (w.heap.size + 1) (.int .i64 0) (.int .i64 0) (.string ⟨#[]⟩) (.slice none 0 0) (.slice none 0 0))
        generalize put5 W3 (w.heap.size + 1) (.int .i64 0) (.int .i64 0) (.string ⟨#[]⟩) (.slice none 0 0) (.slice none 0 0) = U at *
        have c0 := HU.out.1.cell (i := 0) rfl
        have c1 := HU.out.1.cell (i := 1) rfl
        have c2 := HU.out.1.cell (i := 2) rfl
        have c3 := HU.out.1.cell (i := 3) rfl
        have c4 := HU.out.1.cell (i := 4) rfl
        exact bodyPost_ret (v := .tuple #[.agg #[.int .i64 0, .int .i64 0, .string ⟨#[]⟩, .slice none 0 0, .slice none 0 0], .bool false]) (by simp [results, Tryz.results35, go_sem, c0, c1, c2, c3, c4]) rfl (QGr.mkNo HU.out.2 HF.out)
      | some i =>
        obtain ⟨k, n, y, l, f⟩ := u
        have hlt2 := place_lt HX.out.2.2.1 HPL.out
        obtain ⟨rfl, rfl, rfl⟩ := HE.out.1.same
        simp only [ixO]
        simp only at hlt2
        by_cases h1 : sk = 1
        · subst h1
          simp only [if_true] at hlt2
          have hf := HE.out.1.flds
          have hfs := hf.slice
          obtain ⟨rfl, -, -⟩ := hfs
          have hpi := get_some hlt2
          generalize f[i] = pr at hpi
          obtain ⟨b2, o2, ⟨ek, en, es, ela, eln, elc, efa, efn, efc⟩, rfl, hb2, hIe, m, m0, m1, m2, m3, m4⟩ := hf.at (Below.refl _ _) hpi
          have HN : Hid (Is w ⟨ek, en, es, ela, eln, elc, efa, efn, efc⟩ pr.2 ∧ findT t p = findT pr.2 (p.drop (j + 1))) := Lib.hid ⟨hIe, by
            rw [HE.out.2, HX.out.1, findT_step]
            unfold kid
            rw [HPL.out]
            simp only [kidAt, if_true, hpi, Option.map_some]⟩
          have m0 := (HW.out.1.cell (p := ⟨b2, o2 + i * 6 + 1, none⟩) hb2).trans m0
          have m1 := (HW.out.1.cell (p := ⟨b2, o2 + i * 6 + 2, none⟩) hb2).trans m1
          have m2 := (HW.out.1.cell (p := ⟨b2, o2 + i * 6 + 3, none⟩) hb2).trans m2
          have m3 := (HW.out.1.cell (p := ⟨b2, o2 + i * 6 + 4, none⟩) hb2).trans m3
          have m4 := (HW.out.1.cell (p := ⟨b2, o2 + i * 6 + 5, none⟩) hb2).trans m4
          have z3 := HW.out.2.1.cell (i := 4) rfl
          have y0 := HW.out.2.1.cell (i := 0) rfl
          have y1 := HW.out.2.1.cell (i := 1) rfl
          have y2 := HW.out.2.1.cell (i := 2) rfl
          have y3 := HW.out.2.1.cell (i := 3) rfl
          have y4 := HW.out.2.1.cell (i := 4) rfl
          have w0 := HW.out.2.1.frozen 0
          have w1 := HW.out.2.1.frozen 1
          have w2 := HW.out.2.1.frozen 2
          have w3 := HW.out.2.1.frozen 3
          have w4 := HW.out.2.1.frozen 4
          have HU := Lib.hid (And.intro (own_put5 HW.out.2.1 (.int .i64 ek) (.int .i64 en) (sV es) (.slice ela eln elc) (.slice efa efn efc)) (And.intro (below_put5 HW.out.1 (Nat.le_refl _) (.int .i64 ek) (.int .i64 en) (sV es) (.slice ela eln elc) (.slice efa efn efc)) (Own.put5n (b := w.heap.size + 1) (c := w.heap.size) HW.out.2.2 (by omega) (.int .i64 ek) (.int .i64 en) (sV es) (.slice ela eln elc) (.slice efa efn efc))))
          clear hpi hIe hf
          go_wp2
          clear m0 m1 m2 m3 m4 z3 y0 y1 y2 y3 y4 w0 w1 w2 w3 w4 q0
          go_roundg (p.length - (j + 1))
          case measure => have := HG.out; omega
          case rel => exact ⟨j + 1, pr.2, ⟨ek, en, es, ela, eln, elc, efa, efn, efc⟩, by omega, rfl, by go_num, HU.out.2.1, HU.out.1, HU.out.2.2, HN⟩
        · rw [if_neg h1] at hlt2
          have e1 : (sk == 1) = false := by rw [beq_eq_false_iff_ne]; exact h1
          have hl := HE.out.1.vals
          have hls := hl.slice
          obtain ⟨rfl, -, -⟩ := hls
          have hpi := get_some hlt2
          generalize l[i] = pr at hpi
          obtain ⟨b2, o2, ⟨ek, en, es, ela, eln, elc, efa, efn, efc⟩, rfl, hb2, hIe, m0, m1, m2, m3, m4⟩ := hl.at (Below.refl _ _) hpi
          have HN : Hid (Is w ⟨ek, en, es, ela, eln, elc, efa, efn, efc⟩ pr ∧ findT t p = findT pr (p.drop (j + 1))) := Lib.hid ⟨hIe, by
            rw [HE.out.2, HX.out.1, findT_step]
            unfold kid
            rw [HPL.out]
            simp only [kidAt, if_neg h1, hpi]⟩
          have m0 := (HW.out.1.cell (p := ⟨b2, o2 + i * 5, none⟩) hb2).trans m0
          have m1 := (HW.out.1.cell (p := ⟨b2, o2 + i * 5 + 1, none⟩) hb2).trans m1
          have m2 := (HW.out.1.cell (p := ⟨b2, o2 + i * 5 + 2, none⟩) hb2).trans m2
          have m3 := (HW.out.1.cell (p := ⟨b2, o2 + i * 5 + 3, none⟩) hb2).trans m3
          have m4 := (HW.out.1.cell (p := ⟨b2, o2 + i * 5 + 4, none⟩) hb2).trans m4
          have z3 := HW.out.2.1.cell (i := 3) rfl
          have y0 := HW.out.2.1.cell (i := 0) rfl
          have y1 := HW.out.2.1.cell (i := 1) rfl
          have y2 := HW.out.2.1.cell (i := 2) rfl
          have y3 := HW.out.2.1.cell (i := 3) rfl
          have y4 := HW.out.2.1.cell (i := 4) rfl
          have w0 := HW.out.2.1.frozen 0
          have w1 := HW.out.2.1.frozen 1
          have w2 := HW.out.2.1.frozen 2
          have w3 := HW.out.2.1.frozen 3
          have w4 := HW.out.2.1.frozen 4
          have HU := Lib.hid (And.intro (own_put5 HW.out.2.1 (.int .i64 ek) (.int .i64 en) (sV es) (.slice ela eln elc) (.slice efa efn efc)) (And.intro (below_put5 HW.out.1 (Nat.le_refl _) (.int .i64 ek) (.int .i64 en) (sV es) (.slice ela eln elc) (.slice efa efn efc)) (Own.put5n (b := w.heap.size + 1) (c := w.heap.size) HW.out.2.2 (by omega) (.int .i64 ek) (.int .i64 en) (sV es) (.slice ela eln elc) (.slice efa efn efc))))
          clear hpi hIe hl
          go_wp2
          clear m0 m1 m2 m3 m4 z3 y0 y1 y2 y3 y4 w0 w1 w2 w3 w4 q0
          go_roundg (p.length - (j + 1))
          case measure => have := HG.out; omega
          case rel => exact ⟨j + 1, pr, ⟨ek, en, es, ela, eln, elc, efa, efn, efc⟩, by omega, rfl, by go_num, HU.out.2.1, HU.out.1, HU.out.2.2, HN⟩
end Go.Proofs.YtjpmnlefjmdelaaGreatDoor
