/- The walk of PatchMinimal. -/
import Derived.Test.YtinenbgdkchghaaId
import Derived.Test.YtinenbgdkchghaaEe
set_option linter.unusedSimpArgs false
set_option linter.unusedVariables false
namespace Go.Proofs.Ytinenbgdkchghaa
open Go.RowKit Go.Sort Go.Proofs.LawFrame

set_option maxHeartbeats 32000000 in
set_option maxRecDepth 4000 in
theorem minimal_walk (c d : VC) (t u : T) (w : World) (ic : Is w c t) (id : Is w d u) (hst : t.strB 140737488355328) (hsu : u.strB 140737488355328) :
    Calls Try.prog 8 #[.agg #[.int .i64 c.k, .int .i64 c.n, sV c.s, .slice c.la c.ln c.lc, .slice c.fa c.fn c.fc], .agg #[.int .i64 d.k, .int .i64 d.n, sV d.s, .slice d.la d.ln d.lc, .slice d.fa d.fn d.fc]] w fun e w' => e = .returned (.bool true) ∧ Below w.heap.size w w' := by
  have hB : Below w.heap.size w ((w.alloc (.cells #[.int .i64 c.k, .int .i64 c.n, sV c.s, .slice c.la c.ln c.lc, .slice c.fa c.fn c.fc] 25)).alloc (.cells #[.int .i64 d.k, .int .i64 d.n, sV d.s, .slice d.la d.ln d.lc, .slice d.fa d.fn d.fc] 25)) := (((Below.refl _ _).alloc (Nat.le_refl _) _).alloc (by simp) _)
  have oc : Own ((w.alloc (.cells #[.int .i64 c.k, .int .i64 c.n, sV c.s, .slice c.la c.ln c.lc, .slice c.fa c.fn c.fc] 25)).alloc (.cells #[.int .i64 d.k, .int .i64 d.n, sV d.s, .slice d.la d.ln d.lc, .slice d.fa d.fn d.fc] 25)) (w.heap.size) [.int .i64 c.k, .int .i64 c.n, sV c.s, .slice c.la c.ln c.lc, .slice c.fa c.fn c.fc] 25 := (Own.new _ _ _).alloc _
  have od : Own ((w.alloc (.cells #[.int .i64 c.k, .int .i64 c.n, sV c.s, .slice c.la c.ln c.lc, .slice c.fa c.fn c.fc] 25)).alloc (.cells #[.int .i64 d.k, .int .i64 d.n, sV d.s, .slice d.la d.ln d.lc, .slice d.fa d.fn d.fc] 25)) (w.heap.size + 1) [.int .i64 d.k, .int .i64 d.n, sV d.s, .slice d.la d.ln d.lc, .slice d.fa d.fn d.fc] 25 := Own.new_at (by rw [size_alloc]) _ _
  replace ic := ic.all hB
  replace id := id.all hB
  have HS := Lib.hid (And.intro hB (And.intro oc (And.intro od (And.intro ic id))))
  clear hB oc od ic id
  go_enter Try.func8, Try.ntmps8
  go_upto_region 1 with (fail)
  change Code.wp Try.prog _ _ _ ((w.alloc (.cells #[.int .i64 c.k, .int .i64 c.n, sV c.s, .slice c.la c.ln c.lc, .slice c.fa c.fn c.fc] 25)).alloc (.cells #[.int .i64 d.k, .int .i64 d.n, sV d.s, .slice d.la d.ln d.lc, .slice d.fa d.fn d.fc] 25))
  generalize ((w.alloc (.cells #[.int .i64 c.k, .int .i64 c.n, sV c.s, .slice c.la c.ln c.lc, .slice c.fa c.fn c.fc] 25)).alloc (.cells #[.int .i64 d.k, .int .i64 d.n, sV d.s, .slice d.la d.ln d.lc, .slice d.fa d.fn d.fc] 25)) = V1 at *
  obtain ⟨hB, oc, od, ic, id⟩ := HS.out
  clear HS
  have a00 := oc.cell (i := 0) rfl
  have a01 := oc.cell (i := 1) rfl
  have a02 := oc.cell (i := 2) rfl
  have a03 := oc.cell (i := 3) rfl
  have a04 := oc.cell (i := 4) rfl
  have a10 := od.cell (i := 0) rfl
  have a11 := od.cell (i := 1) rfl
  have a12 := od.cell (i := 2) rfl
  have a13 := od.cell (i := 3) rfl
  have a14 := od.cell (i := 4) rfl
  have HS := Lib.hid (And.intro hB (And.intro oc (And.intro od (And.intro ic id))))
  clear hB oc od ic id
  go_wp2_with fail
  clear a00 a01 a02 a03 a04 a10 a11 a12 a13 a14
  obtain ⟨hB, oc, od, ic, id⟩ := HS.out
  clear HS
  have hbN := below_alloc V1 (.cells #[.int .i64 c.k, .int .i64 c.n, sV c.s, .slice c.la c.ln c.lc, .slice c.fa c.fn c.fc, .int .i64 d.k, .int .i64 d.n, sV d.s, .slice d.la d.ln d.lc, .slice d.fa d.fn d.fc] 25)
  replace hB := below_all hB hbN
  replace oc := oc.all hbN
  replace od := od.all hbN
  replace ic := ic.all hbN
  replace id := id.all hbN
  clear hbN
  have oS : Own (V1.alloc (.cells #[.int .i64 c.k, .int .i64 c.n, sV c.s, .slice c.la c.ln c.lc, .slice c.fa c.fn c.fc, .int .i64 d.k, .int .i64 d.n, sV d.s, .slice d.la d.ln d.lc, .slice d.fa d.fn d.fc] 25)) V1.heap.size (VC.cells c ++ VC.cells d) 25 := Own.new _ _ _
  have hv := vals_two oS ic id
  clear oS
  refine (sound_any [t, u] _ _ hv (by intro t ht; simp only [List.mem_cons, List.not_mem_nil, or_false] at ht; rcases ht with rfl | rfl <;> assumption)).mono ?_
  rintro e w1 HR
  obtain ⟨r, rfl, hb, hr⟩ := HR.out
  clear HR hv
  replace hB := below_all hB hb
  replace oc := oc.all hb
  replace od := od.all hb
  replace ic := ic.all hb
  replace id := id.all hb
  clear hb
  have a00 := oc.cell (i := 0) rfl
  have a10 := od.cell (i := 0) rfl
  cases r with
  | false =>
    clear hr
    clear oc od ic id
    have HB := Lib.hid hB
    clear hB
    go_wp2_with fail
    refine (lives_any _).mono ?_
    rintro e wz ⟨rfl, hbz⟩
    go_wp2
    go_ret
    exact ⟨rfl, below_all HB.out hbz⟩
  | true =>
  have HV := Lib.hid (show (Val 12 t ∧ t.size ≤ 600) ∧ (Val 12 u ∧ u.size ≤ 600) from ⟨hr rfl t (by simp), hr rfl u (by simp)⟩)
  clear hr
  by_cases hk1 : kd t = 5
  case neg =>
    have e1 : (c.k != 5) = true := by rw [bne_iff_ne, is_kd ic]; exact hk1
    clear hk1
    clear oc od ic id
    have HB := Lib.hid hB
    clear hB
    go_wp2_with fail
    refine (lives_any _).mono ?_
    rintro e wz ⟨rfl, hbz⟩
    go_wp2
    go_ret
    exact ⟨rfl, below_all HB.out hbz⟩
  have e1 : (c.k != 5) = false := by rw [bne_eq_false_iff_eq, is_kd ic]; exact hk1
  by_cases hk2 : kd u = 5
  case neg =>
    have e2 : (d.k != 5) = true := by rw [bne_iff_ne, is_kd id]; exact hk2
    clear hk1 hk2
    clear oc od ic id
    have HB := Lib.hid hB
    clear hB
    go_wp2_with fail
    refine (lives_any _).mono ?_
    rintro e wz ⟨rfl, hbz⟩
    go_wp2
    go_ret
    exact ⟨rfl, below_all HB.out hbz⟩
  have e2 : (d.k != 5) = false := by rw [bne_eq_false_iff_eq, is_kd id]; exact hk2
  have HK := Lib.hid (And.intro hk1 hk2)
  clear hk1 hk2
  have HS := Lib.hid (And.intro hB (And.intro oc (And.intro od (And.intro ic id))))
  clear hB oc od ic id
  go_upto_region 3 with (fail)
  clear a00 a10 e1 e2
  change Code.wp Try.prog _ _ _ w1
  generalize w1 = V3 at *
  obtain ⟨hB, oc, od, ic, id⟩ := HS.out
  clear HS
  have a0 := oc.cell (i := 0) rfl
  have a1 := oc.cell (i := 1) rfl
  have a2 := oc.cell (i := 2) rfl
  have a3 := oc.cell (i := 3) rfl
  have a4 := oc.cell (i := 4) rfl
  have HS := Lib.hid (And.intro hB (And.intro oc (And.intro od (And.intro ic id))))
  clear hB oc od ic id
  go_wp2_with fail
  clear a0 a1 a2 a3 a4
  obtain ⟨hB, oc, od, ic, id⟩ := HS.out
  clear HS
  refine (diff_any _ t t (Nat.le_refl _) (by have h1 := HV.out.1.2; have h2 := HV.out.2.2; omega) (by have h1 := HV.out.1.2; have h2 := HV.out.2.2; omega) (snd_mp HV.out.1) (snd_mp HV.out.1) c c _ ic ic).mono ?_
  rintro e w2 ⟨g, rfl, hb, hN⟩
  have HG := Lib.hid (show g.k = 5 ∧ g.fn = 0 from by
    rw [dif_self (snd_mp HV.out.1) HK.out.1] at hN
    exact ⟨is_kd hN.is, isA_fn hN rfl⟩)
  clear hN
  replace hB := below_all hB hb
  replace oc := oc.all hb
  replace od := od.all hb
  replace ic := ic.all hb
  replace id := id.all hb
  clear hb
  have hbN := below_alloc w2 (.cells #[.int .i64 g.k, .int .i64 g.n, sV g.s, .slice g.la g.ln g.lc, .slice g.fa g.fn g.fc] 25)
  replace hB := below_all hB hbN
  replace oc := oc.all hbN
  replace od := od.all hbN
  replace ic := ic.all hbN
  replace id := id.all hbN
  clear hbN
  have og : Own (w2.alloc (.cells #[.int .i64 g.k, .int .i64 g.n, sV g.s, .slice g.la g.ln g.lc, .slice g.fa g.fn g.fc] 25)) w2.heap.size [.int .i64 g.k, .int .i64 g.n, sV g.s, .slice g.la g.ln g.lc, .slice g.fa g.fn g.fc] 25 := Own.new _ _ _
  have HS := Lib.hid (And.intro hB (And.intro oc (And.intro od (And.intro ic (And.intro id og)))))
  clear hB oc od ic id og
  go_upto_region 4 with (fail)
  change Code.wp Try.prog _ _ _ (w2.alloc (.cells #[.int .i64 g.k, .int .i64 g.n, sV g.s, .slice g.la g.ln g.lc, .slice g.fa g.fn g.fc] 25))
  generalize (w2.alloc (.cells #[.int .i64 g.k, .int .i64 g.n, sV g.s, .slice g.la g.ln g.lc, .slice g.fa g.fn g.fc] 25)) = V4 at *
  obtain ⟨hB, oc, od, ic, id, og⟩ := HS.out
  clear HS
  have b0 : V4.cell? ⟨w2.heap.size, 0, none⟩ = some (.int .i64 5) := by have h := og.cell (i := 0) rfl; rw [HG.out.1] at h; exact h
  have b4 : V4.cell? ⟨w2.heap.size, 4, none⟩ = some (.slice g.fa 0 g.fc) := by have h := og.cell (i := 4) rfl; rw [HG.out.2] at h; exact h
  have HS := Lib.hid (And.intro hB (And.intro oc (And.intro od (And.intro ic (And.intro id og)))))
  clear hB oc od ic id og
  go_upto_region 6 with (fail)
  clear b0 b4
  obtain ⟨hB, oc, od, ic, id, og⟩ := HS.out
  clear HS
  clear og
  have a0 := oc.cell (i := 0) rfl
  have a1 := oc.cell (i := 1) rfl
  have a2 := oc.cell (i := 2) rfl
  have a3 := oc.cell (i := 3) rfl
  have a4 := oc.cell (i := 4) rfl
  have b0 := od.cell (i := 0) rfl
  have b1 := od.cell (i := 1) rfl
  have b2 := od.cell (i := 2) rfl
  have b3 := od.cell (i := 3) rfl
  have b4 := od.cell (i := 4) rfl
  have HS := Lib.hid (And.intro hB (And.intro oc (And.intro od (And.intro ic id))))
  clear hB oc od ic id
  go_wp2_with fail
  clear a0 a1 a2 a3 a4 b0 b1 b2 b3 b4
  obtain ⟨hB, oc, od, ic, id⟩ := HS.out
  clear HS
  refine (diff_any _ u t (Nat.le_refl _) (by have h1 := HV.out.1.2; have h2 := HV.out.2.2; omega) (by have h1 := HV.out.1.2; have h2 := HV.out.2.2; omega) (snd_mp HV.out.2) (snd_mp HV.out.1) c d _ ic id).mono ?_
  rintro e w3 ⟨g2, rfl, hb, hN⟩
  have ig := hN.is
  have HG2 := Lib.hid (isA_fn hN (show kd (difT u t) = 5 by rw [kd_dif]; exact HK.out.2))
  clear hN
  replace hB := below_all hB hb
  replace oc := oc.all hb
  replace od := od.all hb
  replace ic := ic.all hb
  replace id := id.all hb
  clear hb
  have HFL := Lib.hid (show Flds w3 (.slice g2.fa g2.fn g2.fc) (fls (difT u t)) from by
    have h := fvl_flds ig
    unfold fvl at h
    rw [if_pos (show g2.k = 5 by rw [is_kd ig, kd_dif]; exact HK.out.2)] at h
    exact h)
  clear ig
  obtain ⟨gk, gn, gs, gla, gln, glc, gfa, gfn, gfc⟩ := g2
  obtain ⟨F, hF⟩ : ∃ F, fls (difT u t) = F := ⟨_, rfl⟩
  have hdf : ∀ p ∈ F, ¬ look p.1 (fls t) = look p.1 (fls u) ∧ (kd p.2 = 0 → ∀ y, look p.1 (fls u) = some y → kd y = 0) := fun p hp => dif_field (snd_mp HV.out.1) (snd_mp HV.out.2) HK.out.1 HK.out.2 (by rw [hF]; exact hp)
  have HDF := Lib.hid hdf
  rw [hF] at HG2 HFL
  obtain rfl : gfn = F.length := HG2.out
  have hfl : ∀ w0 : World, (Instr.field 25 (VC.val ⟨gk, gn, gs, gla, gln, glc, gfa, F.length, gfc⟩) 4).run Try.prog w0 = .ok (.slice gfa F.length gfc) w0 := fun _ => by kernel_rfl
  obtain ⟨-, hle, hcap⟩ := HFL.out.slice
  unfold maxLen at hcap
  have HTF := Lib.hid (show t = .mk 5 0 [] [] (fls t) ∧ u = .mk 5 0 [] [] (fls u) ∧ (∀ p ∈ fls t, p.2.size ≤ 4000) ∧ (∀ p ∈ fls u, p.2.size ≤ 4000) from ⟨(snd_mp HV.out.1).form HK.out.1, (snd_mp HV.out.2).form HK.out.2, fun p hp => by have h1 := kid_sz hp; have h2 := HV.out.1.2; omega, fun p hp => by have h1 := kid_sz hp; have h2 := HV.out.2.2; omega⟩)
  clear hF hdf HG2
  have HS := Lib.hid (And.intro hB (And.intro oc (And.intro od (And.intro ic id))))
  clear hB oc od ic id
  go_wp2_with fail
  go_loopg [45] F.length (fun g i wr => ∃ q : Nat, q ≤ F.length ∧ g = F.length - q ∧ i = .int .i64 q ∧ Below w3.heap.size w3 wr)
  case atStart => exact ⟨0, Nat.zero_le _, rfl, rfl, Below.refl _ _⟩
  case round =>
    obtain ⟨q, hq, hgq, rfl, hbr⟩ := hrel
    have HGQ := Lib.hid hgq
    clear hgq
    obtain ⟨hB, oc, od, ic, id⟩ := HS.out
    clear HS
    replace hB := below_all hB hbr
    replace oc := oc.all hbr
    replace od := od.all hbr
    replace ic := ic.all hbr
    replace id := id.all hbr
    have hW := hbr
    by_cases hlt : q < F.length
    case neg =>
      obtain rfl : q = F.length := by omega
      clear hbr
      clear oc od ic id hW
      have HB := Lib.hid hB
      clear hB
      go_wp2_with fail
      refine (lives_any _).mono ?_
      rintro e wz ⟨rfl, hbz⟩
      go_wp2
      go_ret
      exact ⟨rfl, below_all HB.out hbz⟩
    have hx := List.getElem?_eq_getElem hlt
    generalize F[q] = p at hx
    obtain ⟨b, off, z, hao, hbl, hz, z5, z0, z1, z2, z3, z4⟩ := HFL.out.at hbr hx
    have HP := Lib.hid (And.intro (HDF.out p (List.mem_of_getElem? hx)) hz)
    subst hao
    clear hx hz hbr
    obtain ⟨pn, pt⟩ := p
    obtain ⟨oA, hoA⟩ : ∃ oA, look pn (fls t) = oA := ⟨_, rfl⟩
    obtain ⟨oB, hoB⟩ : ∃ oB, look pn (fls u) = oB := ⟨_, rfl⟩
    obtain ⟨B1, hB1⟩ : ∃ B1, oA.isSome = B1 := ⟨_, rfl⟩
    obtain ⟨B2, hB2⟩ : ∃ B2, oB.isSome = B2 := ⟨_, rfl⟩
    have HQ := Lib.hid (show ¬ oA = oB ∧ (kd pt = 0 → ∀ y, oB = some y → kd y = 0) ∧ z.k = kd pt from ⟨by rw [← hoA, ← hoB]; exact HP.out.1.1, fun h0 y hy => HP.out.1.2 h0 y (by rw [hoB]; exact hy), is_kd HP.out.2⟩)
    have HCA := Lib.hid (show ∀ W, Is W c t → Calls Try.prog 21 #[.agg #[.int .i64 c.k, .int .i64 c.n, sV c.s, .slice c.la c.ln c.lc, .slice c.fa c.fn c.fc], sV pn] W fun e w' => ∃ c' : VC, e = .returned (.tuple #[c'.val, .bool B1]) ∧ Below W.heap.size W w' ∧ Is w' c' (oA.getD T0) from fun W h => by
      have h2 : Is W c (.mk 5 0 [] [] (fls t)) := by rw [← HTF.out.1]; exact h
      refine (rget_any c 5 0 [] [] (fls t) pn W h2 HTF.out.2.2.1).mono ?_
      rintro e w' ⟨c', a1, a2, a3⟩
      have e1 : getK 5 pn (fls t) = oA := by rw [← hoA]; exact if_pos rfl
      rw [e1] at a1 a3
      rw [hB1] at a1
      exact ⟨c', a1, a2, a3.is⟩)
    have HCB := Lib.hid (show ∀ W, Is W d u → Calls Try.prog 21 #[.agg #[.int .i64 d.k, .int .i64 d.n, sV d.s, .slice d.la d.ln d.lc, .slice d.fa d.fn d.fc], sV pn] W fun e w' => ∃ c' : VC, e = .returned (.tuple #[c'.val, .bool B2]) ∧ Below W.heap.size W w' ∧ Is w' c' (oB.getD T0) from fun W h => by
      have h2 : Is W d (.mk 5 0 [] [] (fls u)) := by rw [← HTF.out.2.1]; exact h
      refine (rget_any d 5 0 [] [] (fls u) pn W h2 HTF.out.2.2.2).mono ?_
      rintro e w' ⟨c', a1, a2, a3⟩
      have e1 : getK 5 pn (fls u) = oB := by rw [← hoB]; exact if_pos rfl
      rw [e1] at a1 a3
      rw [hB2] at a1
      exact ⟨c', a1, a2, a3.is⟩)
    have HBB := Lib.hid (And.intro hB1 hB2)
    clear hoA hoB hB1 hB2
    have hbN := below_alloc wr (.cells #[sV pn, .int .i64 z.k, .int .i64 z.n, sV z.s, .slice z.la z.ln z.lc, .slice z.fa z.fn z.fc] 33)
    replace hB := below_all hB hbN
    replace oc := oc.all hbN
    replace od := od.all hbN
    replace ic := ic.all hbN
    replace id := id.all hbN
    replace hW := below_all hW hbN
    clear hbN
    have of : Own (wr.alloc (.cells #[sV pn, .int .i64 z.k, .int .i64 z.n, sV z.s, .slice z.la z.ln z.lc, .slice z.fa z.fn z.fc] 33)) wr.heap.size [sV pn, .int .i64 z.k, .int .i64 z.n, sV z.s, .slice z.la z.ln z.lc, .slice z.fa z.fn z.fc] 33 := Own.new _ _ _
    have HS := Lib.hid (And.intro hB (And.intro oc (And.intro od (And.intro ic (And.intro id (And.intro hW of))))))
    clear hB oc od ic id hW of
    go_upto_region 9 with (fail)
    clear z5 z0 z1 z2 z3 z4
    change Code.wp Try.prog _ _ _ (wr.alloc (.cells #[sV pn, .int .i64 z.k, .int .i64 z.n, sV z.s, .slice z.la z.ln z.lc, .slice z.fa z.fn z.fc] 33))
    generalize (wr.alloc (.cells #[sV pn, .int .i64 z.k, .int .i64 z.n, sV z.s, .slice z.la z.ln z.lc, .slice z.fa z.fn z.fc] 33)) = V9 at *
    generalize wr.heap.size = nf at *
    obtain ⟨hB, oc, od, ic, id, hW, of⟩ := HS.out
    clear HS
    have f0 := of.cell (i := 0) rfl
    have a0 := oc.cell (i := 0) rfl
    have a1 := oc.cell (i := 1) rfl
    have a2 := oc.cell (i := 2) rfl
    have a3 := oc.cell (i := 3) rfl
    have a4 := oc.cell (i := 4) rfl
    have HS := Lib.hid (And.intro hB (And.intro oc (And.intro od (And.intro ic (And.intro id (And.intro hW of))))))
    clear hB oc od ic id hW of
    go_wp2_with fail
    clear f0 a0 a1 a2 a3 a4
    obtain ⟨hB, oc, od, ic, id, hW, of⟩ := HS.out
    clear HS
    refine (HCA.out _ ic).mono ?_
    rintro e w4 ⟨x, rfl, hb, ix⟩
    replace hB := below_all hB hb
    replace oc := oc.all hb
    replace od := od.all hb
    replace ic := ic.all hb
    replace id := id.all hb
    replace hW := below_all hW hb
    replace of := of.all hb
    clear hb
    have hbN := below_alloc w4 (.cells #[.int .i64 x.k, .int .i64 x.n, sV x.s, .slice x.la x.ln x.lc, .slice x.fa x.fn x.fc] 25)
    replace hB := below_all hB hbN
    replace oc := oc.all hbN
    replace od := od.all hbN
    replace ic := ic.all hbN
    replace id := id.all hbN
    replace hW := below_all hW hbN
    replace of := of.all hbN
    replace ix := ix.all hbN
    clear hbN
    have ox : Own (w4.alloc (.cells #[.int .i64 x.k, .int .i64 x.n, sV x.s, .slice x.la x.ln x.lc, .slice x.fa x.fn x.fc] 25)) w4.heap.size [.int .i64 x.k, .int .i64 x.n, sV x.s, .slice x.la x.ln x.lc, .slice x.fa x.fn x.fc] 25 := Own.new _ _ _
    have HS := Lib.hid (And.intro hB (And.intro oc (And.intro od (And.intro ic (And.intro id (And.intro hW (And.intro of (And.intro ix ox))))))))
    clear hB oc od ic id hW of ix ox
    go_upto_region 10 with (fail)
    change Code.wp Try.prog _ _ _ (w4.alloc (.cells #[.int .i64 x.k, .int .i64 x.n, sV x.s, .slice x.la x.ln x.lc, .slice x.fa x.fn x.fc] 25))
    generalize (w4.alloc (.cells #[.int .i64 x.k, .int .i64 x.n, sV x.s, .slice x.la x.ln x.lc, .slice x.fa x.fn x.fc] 25)) = V10 at *
    obtain ⟨hB, oc, od, ic, id, hW, of, ix, ox⟩ := HS.out
    clear HS
    generalize w4.heap.size = nx at *
    have f0 := of.cell (i := 0) rfl
    have a0 := od.cell (i := 0) rfl
    have a1 := od.cell (i := 1) rfl
    have a2 := od.cell (i := 2) rfl
    have a3 := od.cell (i := 3) rfl
    have a4 := od.cell (i := 4) rfl
    have HS := Lib.hid (And.intro hB (And.intro oc (And.intro od (And.intro ic (And.intro id (And.intro hW (And.intro of (And.intro ix ox))))))))
    clear hB oc od ic id hW of ix ox
    go_wp2_with fail
    clear f0 a0 a1 a2 a3 a4
    obtain ⟨hB, oc, od, ic, id, hW, of, ix, ox⟩ := HS.out
    clear HS
    refine (HCB.out _ id).mono ?_
    rintro e w5 ⟨y, rfl, hb, iy⟩
    replace hB := below_all hB hb
    replace oc := oc.all hb
    replace od := od.all hb
    replace ic := ic.all hb
    replace id := id.all hb
    replace hW := below_all hW hb
    replace of := of.all hb
    replace ix := ix.all hb
    replace ox := ox.all hb
    clear hb
    have hbN := below_alloc w5 (.cells #[.int .i64 y.k, .int .i64 y.n, sV y.s, .slice y.la y.ln y.lc, .slice y.fa y.fn y.fc] 25)
    replace hB := below_all hB hbN
    replace oc := oc.all hbN
    replace od := od.all hbN
    replace ic := ic.all hbN
    replace id := id.all hbN
    replace hW := below_all hW hbN
    replace of := of.all hbN
    replace ix := ix.all hbN
    replace ox := ox.all hbN
    replace iy := iy.all hbN
    clear hbN
    have oy : Own (w5.alloc (.cells #[.int .i64 y.k, .int .i64 y.n, sV y.s, .slice y.la y.ln y.lc, .slice y.fa y.fn y.fc] 25)) w5.heap.size [.int .i64 y.k, .int .i64 y.n, sV y.s, .slice y.la y.ln y.lc, .slice y.fa y.fn y.fc] 25 := Own.new _ _ _
    have HS := Lib.hid (And.intro hB (And.intro oc (And.intro od (And.intro ic (And.intro id (And.intro hW (And.intro of (And.intro ix (And.intro ox (And.intro iy oy))))))))))
    clear hB oc od ic id hW of ix ox iy oy
    go_upto_region 11 with (fail)
    change Code.wp Try.prog _ _ _ (w5.alloc (.cells #[.int .i64 y.k, .int .i64 y.n, sV y.s, .slice y.la y.ln y.lc, .slice y.fa y.fn y.fc] 25))
    generalize (w5.alloc (.cells #[.int .i64 y.k, .int .i64 y.n, sV y.s, .slice y.la y.ln y.lc, .slice y.fa y.fn y.fc] 25)) = V11 at *
    obtain ⟨hB, oc, od, ic, id, hW, of, ix, ox, iy, oy⟩ := HS.out
    clear HS
    generalize w5.heap.size = ny at *
    have f1 := of.cell (i := 1) rfl
    have y0 := oy.cell (i := 0) rfl
    have x0 := ox.cell (i := 0) rfl
    have x1 := ox.cell (i := 1) rfl
    have x2 := ox.cell (i := 2) rfl
    have x3 := ox.cell (i := 3) rfl
    have x4 := ox.cell (i := 4) rfl
    have y1 := oy.cell (i := 1) rfl
    have y2 := oy.cell (i := 2) rfl
    have y3 := oy.cell (i := 3) rfl
    have y4 := oy.cell (i := 4) rfl
    have HS := Lib.hid (And.intro hB (And.intro oc (And.intro od (And.intro ic (And.intro id (And.intro hW (And.intro of (And.intro ix (And.intro ox (And.intro iy oy))))))))))
    clear hB oc od ic id hW of ix ox iy oy
    go_cut [84] (fun sg wx => sg = .bool false ∧ Below V11.heap.size V11 wx)
    case first =>
      cases oA with
      | none =>
        obtain rfl : B1 = false := HBB.out.1.symm
        cases oB with
        | none => exact absurd rfl HQ.out.1
        | some tb =>
          obtain rfl : B2 = true := HBB.out.2.symm
          by_cases h0 : kd pt = 0
          · have e0 : (z.k == 0) = true := by rw [HQ.out.2.2, beq_iff_eq]; exact h0
            have hy : (y.k != 0) = false := by rw [bne_eq_false_iff_eq, is_kd HS.out.2.2.2.2.2.2.2.2.2.1]; exact HQ.out.2.1 h0 _ rfl
            clear h0
            go_wp2
            go_meet
            exact ⟨rfl, Below.refl _ _⟩
          · have e0 : (z.k == 0) = false := by rw [HQ.out.2.2, beq_eq_false_iff_ne]; exact h0
            clear h0
            go_wp2
            go_meet
            exact ⟨rfl, Below.refl _ _⟩
      | some ta =>
        obtain rfl : B1 = true := HBB.out.1.symm
        cases oB with
        | none =>
          obtain rfl : B2 = false := HBB.out.2.symm
          by_cases h0 : kd pt = 0
          · have e0 : (z.k == 0) = true := by rw [HQ.out.2.2, beq_iff_eq]; exact h0
            skip
            clear h0
            go_wp2
            go_meet
            exact ⟨rfl, Below.refl _ _⟩
          · have e0 : (z.k == 0) = false := by rw [HQ.out.2.2, beq_eq_false_iff_ne]; exact h0
            clear h0
            go_wp2
            go_meet
            exact ⟨rfl, Below.refl _ _⟩
        | some tb =>
          obtain rfl : B2 = true := HBB.out.2.symm
          have C := Lib.hid (show Calls Try.prog 12 #[.agg #[.int .i64 x.k, .int .i64 x.n, sV x.s, .slice x.la x.ln x.lc, .slice x.fa x.fn x.fc], .agg #[.int .i64 y.k, .int .i64 y.n, sV y.s, .slice y.la y.ln y.lc, .slice y.fa y.fn y.fc]] V11 fun e w' => e = .returned (.bool false) ∧ Below V11.heap.size V11 w' from by
            have h := alikeB_any _ ta tb (Nat.le_refl _) x y V11 HS.out.2.2.2.2.2.2.2.1 HS.out.2.2.2.2.2.2.2.2.2.1
            rw [al_no (fun e => HQ.out.1 (by rw [e]))] at h
            exact h)
          go_wp2_with fail
          refine C.out.mono ?_
          rintro e wA ⟨rfl, hbA⟩
          have f1' : wA.cell? ⟨nf, 1, none⟩ = some (.int .i64 z.k) := (HS.out.2.2.2.2.2.2.1.all hbA).cell (i := 1) rfl
          have y0' : wA.cell? ⟨ny, 0, none⟩ = some (.int .i64 y.k) := (HS.out.2.2.2.2.2.2.2.2.2.2.all hbA).cell (i := 0) rfl
          clear C x0 x1 x2 x3 x4 y0 y1 y2 y3 y4 f1
          by_cases h0 : kd pt = 0
          · have e0 : (z.k == 0) = true := by rw [HQ.out.2.2, beq_iff_eq]; exact h0
            have hy : (y.k != 0) = false := by rw [bne_eq_false_iff_eq, is_kd HS.out.2.2.2.2.2.2.2.2.2.1]; exact HQ.out.2.1 h0 _ rfl
            clear h0
            go_wp2
            go_meet
            exact ⟨rfl, hbA⟩
          · have e0 : (z.k == 0) = false := by rw [HQ.out.2.2, beq_eq_false_iff_ne]; exact h0
            clear h0
            go_wp2
            go_meet
            exact ⟨rfl, hbA⟩
    case rest =>
      obtain ⟨rfl, hbc⟩ := hcut
      clear x0 x1 x2 x3 x4 y0 y1 y2 y3 y4 f1
      obtain ⟨hB, oc, od, ic, id, hW, of, ix, ox, iy, oy⟩ := HS.out
      clear HS
      replace hB := below_all hB hbc
      replace oc := oc.all hbc
      replace od := od.all hbc
      replace ic := ic.all hbc
      replace id := id.all hbc
      replace hW := below_all hW hbc
      replace of := of.all hbc
      replace ix := ix.all hbc
      replace ox := ox.all hbc
      replace iy := iy.all hbc
      replace oy := oy.all hbc
      have hbz := hW
      clear hB oc od ic id hW of ix ox iy oy
      go_wp2
      go_roundg (F.length - (q + 1))
      case measure => have := HGQ.out; omega
      case rel => exact ⟨q + 1, by omega, rfl, by go_num, hbz⟩
end Go.Proofs.Ytinenbgdkchghaa
