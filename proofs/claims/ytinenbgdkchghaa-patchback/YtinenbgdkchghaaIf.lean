/- The walk of PatchBack. -/
import Derived.Test.YtinenbgdkchghaaId
import Derived.Test.YtinenbgdkchghaaCl
set_option linter.unusedSimpArgs false
set_option linter.unusedVariables false
namespace Go.Proofs.Ytinenbgdkchghaa
open Go.RowKit Go.Sort Go.Proofs.LawFrame

set_option maxHeartbeats 32000000 in
set_option maxRecDepth 4000 in
theorem back_walk (c d g : VC) (t u v : T) (w : World) (ic : Is w c t) (id : Is w d u) (ig : Is w g v) (hst : t.strB 140737488355328) (hsu : u.strB 140737488355328) (hsv : v.strB 140737488355328) :
    Calls Try.prog 7 #[.agg #[.int .i64 c.k, .int .i64 c.n, sV c.s, .slice c.la c.ln c.lc, .slice c.fa c.fn c.fc], .agg #[.int .i64 d.k, .int .i64 d.n, sV d.s, .slice d.la d.ln d.lc, .slice d.fa d.fn d.fc], .agg #[.int .i64 g.k, .int .i64 g.n, sV g.s, .slice g.la g.ln g.lc, .slice g.fa g.fn g.fc]] w fun e w' => e = .returned (.bool true) ∧ Below w.heap.size w w' := by
  have hB : Below w.heap.size w (((w.alloc (.cells #[.int .i64 c.k, .int .i64 c.n, sV c.s, .slice c.la c.ln c.lc, .slice c.fa c.fn c.fc] 25)).alloc (.cells #[.int .i64 d.k, .int .i64 d.n, sV d.s, .slice d.la d.ln d.lc, .slice d.fa d.fn d.fc] 25)).alloc (.cells #[.int .i64 g.k, .int .i64 g.n, sV g.s, .slice g.la g.ln g.lc, .slice g.fa g.fn g.fc] 25)) := ((((Below.refl _ _).alloc (Nat.le_refl _) _).alloc (by simp) _).alloc (by simp; omega) _)
  have oc : Own (((w.alloc (.cells #[.int .i64 c.k, .int .i64 c.n, sV c.s, .slice c.la c.ln c.lc, .slice c.fa c.fn c.fc] 25)).alloc (.cells #[.int .i64 d.k, .int .i64 d.n, sV d.s, .slice d.la d.ln d.lc, .slice d.fa d.fn d.fc] 25)).alloc (.cells #[.int .i64 g.k, .int .i64 g.n, sV g.s, .slice g.la g.ln g.lc, .slice g.fa g.fn g.fc] 25)) (w.heap.size) [.int .i64 c.k, .int .i64 c.n, sV c.s, .slice c.la c.ln c.lc, .slice c.fa c.fn c.fc] 25 := ((Own.new _ _ _).alloc _).alloc _
  have od : Own (((w.alloc (.cells #[.int .i64 c.k, .int .i64 c.n, sV c.s, .slice c.la c.ln c.lc, .slice c.fa c.fn c.fc] 25)).alloc (.cells #[.int .i64 d.k, .int .i64 d.n, sV d.s, .slice d.la d.ln d.lc, .slice d.fa d.fn d.fc] 25)).alloc (.cells #[.int .i64 g.k, .int .i64 g.n, sV g.s, .slice g.la g.ln g.lc, .slice g.fa g.fn g.fc] 25)) (w.heap.size + 1) [.int .i64 d.k, .int .i64 d.n, sV d.s, .slice d.la d.ln d.lc, .slice d.fa d.fn d.fc] 25 := (Own.new_at (by rw [size_alloc]) _ _).alloc _
  have og : Own (((w.alloc (.cells #[.int .i64 c.k, .int .i64 c.n, sV c.s, .slice c.la c.ln c.lc, .slice c.fa c.fn c.fc] 25)).alloc (.cells #[.int .i64 d.k, .int .i64 d.n, sV d.s, .slice d.la d.ln d.lc, .slice d.fa d.fn d.fc] 25)).alloc (.cells #[.int .i64 g.k, .int .i64 g.n, sV g.s, .slice g.la g.ln g.lc, .slice g.fa g.fn g.fc] 25)) (w.heap.size + 1 + 1) [.int .i64 g.k, .int .i64 g.n, sV g.s, .slice g.la g.ln g.lc, .slice g.fa g.fn g.fc] 25 := Own.new_at (by rw [size_alloc, size_alloc]) _ _
  replace ic := ic.all hB
  replace id := id.all hB
  replace ig := ig.all hB
  have HS := Lib.hid (And.intro hB (And.intro oc (And.intro od (And.intro og (And.intro ic (And.intro id ig))))))
  clear hB oc od og ic id ig
  go_enter Try.func7, Try.ntmps7
  go_upto_region 1 with (fail)
  change Code.wp Try.prog _ _ _ (((w.alloc (.cells #[.int .i64 c.k, .int .i64 c.n, sV c.s, .slice c.la c.ln c.lc, .slice c.fa c.fn c.fc] 25)).alloc (.cells #[.int .i64 d.k, .int .i64 d.n, sV d.s, .slice d.la d.ln d.lc, .slice d.fa d.fn d.fc] 25)).alloc (.cells #[.int .i64 g.k, .int .i64 g.n, sV g.s, .slice g.la g.ln g.lc, .slice g.fa g.fn g.fc] 25))
  generalize (((w.alloc (.cells #[.int .i64 c.k, .int .i64 c.n, sV c.s, .slice c.la c.ln c.lc, .slice c.fa c.fn c.fc] 25)).alloc (.cells #[.int .i64 d.k, .int .i64 d.n, sV d.s, .slice d.la d.ln d.lc, .slice d.fa d.fn d.fc] 25)).alloc (.cells #[.int .i64 g.k, .int .i64 g.n, sV g.s, .slice g.la g.ln g.lc, .slice g.fa g.fn g.fc] 25)) = V1 at *
  obtain ⟨hB, oc, od, og, ic, id, ig⟩ := HS.out
  clear HS
  have a00 := oc.cell (i := 0) rfl
  have a01 := oc.cell (i := 1) rfl
  have a02 := oc.cell (i := 2) rfl
  have a03 := oc.cell (i := 3) rfl
  have a04 := oc.cell (i := 4) rfl
  have a10 := od.cell (i := 0) rfl
  have a11 := od.cell (i := 1) rfl
  have a12 := od.cell (i := 2) rfl
  have a13 := od.cell (i := 3) rfl
  have a14 := od.cell (i := 4) rfl
  have a20 := og.cell (i := 0) rfl
  have a21 := og.cell (i := 1) rfl
  have a22 := og.cell (i := 2) rfl
  have a23 := og.cell (i := 3) rfl
  have a24 := og.cell (i := 4) rfl
  have HS := Lib.hid (And.intro hB (And.intro oc (And.intro od (And.intro og (And.intro ic (And.intro id ig))))))
  clear hB oc od og ic id ig
  go_wp2_with fail
  clear a00 a01 a02 a03 a04 a10 a11 a12 a13 a14 a20 a21 a22 a23 a24
  obtain ⟨hB, oc, od, og, ic, id, ig⟩ := HS.out
  clear HS
  have hbN := below_alloc V1 (.cells #[.int .i64 c.k, .int .i64 c.n, sV c.s, .slice c.la c.ln c.lc, .slice c.fa c.fn c.fc, .int .i64 d.k, .int .i64 d.n, sV d.s, .slice d.la d.ln d.lc, .slice d.fa d.fn d.fc, .int .i64 g.k, .int .i64 g.n, sV g.s, .slice g.la g.ln g.lc, .slice g.fa g.fn g.fc] 25)
  replace hB := below_all hB hbN
  replace oc := oc.all hbN
  replace od := od.all hbN
  replace og := og.all hbN
  replace ic := ic.all hbN
  replace id := id.all hbN
  replace ig := ig.all hbN
  clear hbN
  have oS : Own (V1.alloc (.cells #[.int .i64 c.k, .int .i64 c.n, sV c.s, .slice c.la c.ln c.lc, .slice c.fa c.fn c.fc, .int .i64 d.k, .int .i64 d.n, sV d.s, .slice d.la d.ln d.lc, .slice d.fa d.fn d.fc, .int .i64 g.k, .int .i64 g.n, sV g.s, .slice g.la g.ln g.lc, .slice g.fa g.fn g.fc] 25)) V1.heap.size (VC.cells c ++ VC.cells d ++ VC.cells g) 25 := Own.new _ _ _
  have hv := vals_three oS ic id ig
  clear oS
  refine (sound_any [t, u, v] _ _ hv (by intro t ht; simp only [List.mem_cons, List.not_mem_nil, or_false] at ht; rcases ht with rfl | rfl | rfl <;> assumption)).mono ?_
  rintro e w1 HR
  obtain ⟨r, rfl, hb, hr⟩ := HR.out
  clear HR hv
  replace hB := below_all hB hb
  replace oc := oc.all hb
  replace od := od.all hb
  replace og := og.all hb
  replace ic := ic.all hb
  replace id := id.all hb
  replace ig := ig.all hb
  clear hb
  cases r with
  | false =>
    clear hr
    clear oc od og ic id ig
    have HB := Lib.hid hB
    clear hB
    go_wp2_with fail
    refine (lives_any _).mono ?_
    rintro e wz ⟨rfl, hbz⟩
    go_wp2
    go_ret
    exact ⟨rfl, below_all HB.out hbz⟩
  | true =>
  have HV := Lib.hid (show (Val 12 t ∧ t.size ≤ 600) ∧ (Val 12 u ∧ u.size ≤ 600) ∧ (Val 12 v ∧ v.size ≤ 600) from ⟨hr rfl t (by simp), hr rfl u (by simp), hr rfl v (by simp)⟩)
  clear hr
  have HS := Lib.hid (And.intro hB (And.intro oc (And.intro od (And.intro og (And.intro ic (And.intro id ig))))))
  clear hB oc od og ic id ig
  go_upto_region 3 with (fail)
  change Code.wp Try.prog _ _ _ w1
  generalize w1 = V3 at *
  obtain ⟨hB, oc, od, og, ic, id, ig⟩ := HS.out
  clear HS
  obtain ⟨B, hBv⟩ : ∃ B, clnT u = B := ⟨_, rfl⟩
  have hcl : ∀ W, Is W d u → Calls Try.prog 20 #[.agg #[.int .i64 d.k, .int .i64 d.n, sV d.s, .slice d.la d.ln d.lc, .slice d.fa d.fn d.fc]] W fun e w' => e = .returned (.bool B) ∧ Below W.heap.size W w' := fun W h => by rw [← hBv]; exact clean_any _ u (Nat.le_refl _) d W h
  have HCL := Lib.hid hcl
  clear hcl
  cases B with
  | true =>
    have HBV := Lib.hid hBv
    clear hBv
    have a0 := cell_regrown (oc.cell (i := 0) rfl)
    have a1 := cell_regrown (oc.cell (i := 1) rfl)
    have a2 := cell_regrown (oc.cell (i := 2) rfl)
    have a3 := cell_regrown (oc.cell (i := 3) rfl)
    have a4 := cell_regrown (oc.cell (i := 4) rfl)
    have b0 := cell_regrown (od.cell (i := 0) rfl)
    have b1 := cell_regrown (od.cell (i := 1) rfl)
    have b2 := cell_regrown (od.cell (i := 2) rfl)
    have b3 := cell_regrown (od.cell (i := 3) rfl)
    have b4 := cell_regrown (od.cell (i := 4) rfl)
    have HS := Lib.hid (And.intro hB (And.intro oc (And.intro od (And.intro og (And.intro ic (And.intro id ig))))))
    clear hB oc od og ic id ig
    refine Dep.wp_region_multi 11 (fun i => i == 1 || i == 6 || i == 7 || i == 9)
      (fun ii _ uu ww => VV [(6, difT u t), (7, mrgT (difT u t) t)] ii uu ww) (VS [(6, difT u t), (7, mrgT (difT u t) t)] []) (fun i => if i = 7 then [6] else if i = 9 then [7] else []) (by kernel_rfl) (by kernel_rfl) (by kernel_rfl)
      (fun i xs u w1 w2 h hb => VV.up h hb) (VS.some _ _) ?_
    simp only [List.take_succ_cons, List.take_zero, List.drop_succ_cons, List.drop_zero]
    refine Dep.wpM_stretch 1 rfl rfl rfl rfl ?_
    simp only [List.take_succ_cons, List.take_zero, List.drop_succ_cons, List.drop_zero]
    repeat (first | go_big_quiet_step (fail) | quiet_step (fail))
    refine wpQuiet_nil ?_
    refine Dep.wpM_dem rfl rfl rfl ?_ ?_
    · rintro _ ⟨pp, rfl⟩ hd
      go_simp
      simp only [demUpon]
      obtain ⟨hB, oc, od, og, ic, id, ig⟩ := HS.out
      clear HS
      refine ⟨trivial, (HCL.out _ (id.all (below_regrown V3 pp.d pp.os))).mono ?_⟩
      rintro e wA ⟨rfl, hbA⟩
      exact ⟨_, rfl, rfl, hbA, trivial⟩
    rintro vv hvv
    obtain rfl : vv = .bool true := hvv
    try clear hvv
    refine Dep.wpM_stretch 4 rfl rfl rfl rfl ?_
    simp only [List.take_succ_cons, List.take_zero, List.drop_succ_cons, List.drop_zero]
    repeat (first | go_big_quiet_step (fail) | quiet_step (fail))
    refine wpQuiet_nil ?_
    refine Dep.wpM_dem rfl rfl rfl ?_ ?_
    · rintro _ ⟨pp, rfl⟩ hd
      go_simp
      simp only [demUpon]
      obtain ⟨hB, oc, od, og, ic, id, ig⟩ := HS.out
      clear HS
      refine ⟨trivial, (diff_any _ u t (Nat.le_refl _) (by have h1 := HV.out.1.2; have h2 := HV.out.2.1.2; have h3 := HV.out.2.2.2; have h4 := dif_size _ u t (Nat.le_refl _) (snd_mp HV.out.2.1) (snd_mp HV.out.1); omega) (by have h1 := HV.out.1.2; have h2 := HV.out.2.1.2; have h3 := HV.out.2.2.2; have h4 := dif_size _ u t (Nat.le_refl _) (snd_mp HV.out.2.1) (snd_mp HV.out.1); omega) (snd_mp HV.out.2.1) (snd_mp HV.out.1) c d _ (ic.all (below_regrown V3 pp.d pp.os)) (id.all (below_regrown V3 pp.d pp.os))).mono ?_⟩
      rintro e wA ⟨c', rfl, hbA, hN⟩
      exact ⟨_, rfl, ⟨c', rfl⟩, hbA, c', rfl, hN.is⟩
    rintro vv hvv
    obtain ⟨m1, rfl⟩ : ∃ c' : VC, vv = c'.val := hvv
    try clear hvv
    refine Dep.wpM_dem rfl rfl rfl ?_ ?_
    · rintro _ ⟨pp, rfl⟩ hd
      go_simp
      simp only [demUpon]
      obtain ⟨hB, oc, od, og, ic, id, ig⟩ := HS.out
      clear HS
      obtain ⟨e6, he6, hI6⟩ := (show ∃ c' : VC, m1.val = c'.val ∧ Is (grow (redrawn V3 pp.d) pp.os) c' (difT u t) from hd 6 (by decide))
      obtain rfl := VC.val_inj he6
      refine ⟨trivial, (merge_any _ (difT u t) t (Nat.le_refl _) (by have h1 := HV.out.1.2; have h2 := HV.out.2.1.2; have h3 := HV.out.2.2.2; have h4 := dif_size _ u t (Nat.le_refl _) (snd_mp HV.out.2.1) (snd_mp HV.out.1); omega) (by have h1 := HV.out.1.2; have h2 := HV.out.2.1.2; have h3 := HV.out.2.2.2; have h4 := dif_size _ u t (Nat.le_refl _) (snd_mp HV.out.2.1) (snd_mp HV.out.1); omega) (dif_mp (snd_mp HV.out.2.1) (snd_mp HV.out.1)) (snd_mp HV.out.1) c m1 _ (ic.all (below_regrown V3 pp.d pp.os)) hI6).mono ?_⟩
      rintro e wA ⟨c', rfl, hbA, hN⟩
      exact ⟨_, rfl, ⟨c', rfl⟩, hbA, c', rfl, hN.is⟩
    rintro vv hvv
    obtain ⟨m2, rfl⟩ : ∃ c' : VC, vv = c'.val := hvv
    try clear hvv
    refine Dep.wpM_stretch 1 rfl rfl rfl rfl ?_
    simp only [List.take_succ_cons, List.take_zero, List.drop_succ_cons, List.drop_zero]
    repeat (first | go_big_quiet_step (fail) | quiet_step (fail))
    refine wpQuiet_nil ?_
    refine Dep.wpM_dem rfl rfl rfl ?_ ?_
    · rintro _ ⟨pp, rfl⟩ hd
      go_simp
      simp only [demUpon]
      obtain ⟨hB, oc, od, og, ic, id, ig⟩ := HS.out
      clear HS
      obtain ⟨e7, he7, hI7⟩ := (show ∃ c' : VC, m2.val = c'.val ∧ Is (grow (redrawn V3 pp.d) pp.os) c' (mrgT (difT u t) t) from hd 7 (by decide))
      obtain rfl := VC.val_inj he7
      refine ⟨trivial, (alike_true (mrg_dif _ u t (Nat.le_refl _) (snd_mp HV.out.2.1) (snd_mp HV.out.1) HBV.out) hI7 (id.all (below_regrown V3 pp.d pp.os))).mono ?_⟩
      rintro e wA ⟨rfl, hbA⟩
      exact ⟨_, rfl, rfl, hbA, trivial⟩
    rintro vv hvv
    obtain rfl : vv = .bool true := hvv
    try clear hvv
    refine Dep.wpM_stretch 1 rfl rfl rfl rfl ?_
    simp only [List.take_succ_cons, List.take_zero, List.drop_succ_cons, List.drop_zero]
    repeat (first | go_big_quiet_step (fail) | quiet_step (fail))
    refine wpQuiet_nil ?_
    refine Dep.wpM_end ?_
    rintro U hbU -
    obtain ⟨hB, oc, od, og, ic, id, ig⟩ := HS.out
    clear HS
    replace hB := below_all hB hbU
    replace oc := oc.all hbU
    replace od := od.all hbU
    replace og := og.all hbU
    replace ic := ic.all hbU
    replace id := id.all hbU
    replace ig := ig.all hbU
    clear hbU
    clear a0 a1 a2 a3 a4 b0 b1 b2 b3 b4
    obtain ⟨B2, hB2⟩ : ∃ B2, clnT t = B2 := ⟨_, rfl⟩
    have C2 := clean_any _ t (Nat.le_refl _) c _ ic
    rw [hB2] at C2
    have x0 := oc.cell (i := 0) rfl
    have x1 := oc.cell (i := 1) rfl
    have x2 := oc.cell (i := 2) rfl
    have x3 := oc.cell (i := 3) rfl
    have x4 := oc.cell (i := 4) rfl
    have HC2 := Lib.hid C2
    clear C2
    have HS := Lib.hid (And.intro hB (And.intro oc (And.intro od (And.intro og (And.intro ic (And.intro id ig))))))
    clear hB oc od og ic id ig
    go_wp2_with fail
    clear x0 x1 x2 x3 x4
    obtain ⟨hB, oc, od, og, ic, id, ig⟩ := HS.out
    clear HS
    refine (HC2.out).mono ?_
    rintro e w2 ⟨rfl, hb⟩
    replace hB := below_all hB hb
    replace oc := oc.all hb
    replace od := od.all hb
    replace og := og.all hb
    replace ic := ic.all hb
    replace id := id.all hb
    replace ig := ig.all hb
    clear hb
    clear HC2
    cases B2 with
    | false =>
      clear hB2
      clear oc od og ic id ig
      have HB := Lib.hid hB
      clear hB
      go_wp2_with fail
      refine (lives_any _).mono ?_
      rintro e wz ⟨rfl, hbz⟩
      go_wp2
      go_ret
      exact ⟨rfl, below_all HB.out hbz⟩
    | true =>
    have HB2 := Lib.hid hB2
    clear hB2
    have x0 := oc.cell (i := 0) rfl
    have x1 := oc.cell (i := 1) rfl
    have x2 := oc.cell (i := 2) rfl
    have x3 := oc.cell (i := 3) rfl
    have x4 := oc.cell (i := 4) rfl
    have y0 := og.cell (i := 0) rfl
    have y1 := og.cell (i := 1) rfl
    have y2 := og.cell (i := 2) rfl
    have y3 := og.cell (i := 3) rfl
    have y4 := og.cell (i := 4) rfl
    have HS := Lib.hid (And.intro hB (And.intro oc (And.intro od (And.intro og (And.intro ic (And.intro id ig))))))
    clear hB oc od og ic id ig
    go_wp2_with fail
    clear x0 x1 x2 x3 x4 y0 y1 y2 y3 y4
    obtain ⟨hB, oc, od, og, ic, id, ig⟩ := HS.out
    clear HS
    refine (merge_any _ v t (Nat.le_refl _) (by have h1 := HV.out.1.2; have h2 := HV.out.2.1.2; have h3 := HV.out.2.2.2; have h4 := dif_size _ u t (Nat.le_refl _) (snd_mp HV.out.2.1) (snd_mp HV.out.1); omega) (by have h1 := HV.out.1.2; have h2 := HV.out.2.1.2; have h3 := HV.out.2.2.2; have h4 := dif_size _ u t (Nat.le_refl _) (snd_mp HV.out.2.1) (snd_mp HV.out.1); omega) (snd_mp HV.out.2.2) (snd_mp HV.out.1) c g _ ic ig).mono ?_
    rintro e w3 ⟨h, rfl, hb, hN⟩
    replace hB := below_all hB hb
    replace oc := oc.all hb
    replace od := od.all hb
    replace og := og.all hb
    replace ic := ic.all hb
    replace id := id.all hb
    replace ig := ig.all hb
    clear hb
    have ih := hN.is
    clear hN
    have HS := Lib.hid (And.intro hB (And.intro oc (And.intro od (And.intro og (And.intro ic (And.intro id (And.intro ig ih)))))))
    clear hB oc od og ic id ig ih
    go_wp2_with fail
    obtain ⟨hB, oc, od, og, ic, id, ig, ih⟩ := HS.out
    clear HS
    have C3 := clean_any _ (mrgT v t) (Nat.le_refl _) h _ ih
    rw [mrg_cln _ v t (Nat.le_refl _) (snd_mp HV.out.2.2) (snd_mp HV.out.1) HB2.out] at C3
    refine (C3).mono ?_
    rintro e w4 ⟨rfl, hb⟩
    replace hB := below_all hB hb
    replace oc := oc.all hb
    replace od := od.all hb
    replace og := og.all hb
    replace ic := ic.all hb
    replace id := id.all hb
    replace ig := ig.all hb
    replace ih := ih.all hb
    clear hb
    clear C3
    clear oc od og ic id ig ih
    have HB := Lib.hid hB
    clear hB
    go_wp2_with fail
    refine (lives_any _).mono ?_
    rintro e wz ⟨rfl, hbz⟩
    go_wp2
    go_ret
    exact ⟨rfl, below_all HB.out hbz⟩
  | false =>
    clear hBv
    have a0 := cell_regrown (oc.cell (i := 0) rfl)
    have a1 := cell_regrown (oc.cell (i := 1) rfl)
    have a2 := cell_regrown (oc.cell (i := 2) rfl)
    have a3 := cell_regrown (oc.cell (i := 3) rfl)
    have a4 := cell_regrown (oc.cell (i := 4) rfl)
    have b0 := cell_regrown (od.cell (i := 0) rfl)
    have b1 := cell_regrown (od.cell (i := 1) rfl)
    have b2 := cell_regrown (od.cell (i := 2) rfl)
    have b3 := cell_regrown (od.cell (i := 3) rfl)
    have b4 := cell_regrown (od.cell (i := 4) rfl)
    have HS := Lib.hid (And.intro hB (And.intro oc (And.intro od (And.intro og (And.intro ic (And.intro id ig))))))
    clear hB oc od og ic id ig
    refine Dep.wp_region_multi 11 (fun i => i == 1 || i == 6 || i == 7 || i == 9)
      (fun ii _ uu ww => VV [(6, difT u t), (7, mrgT (difT u t) t)] ii uu ww) (VS [(6, difT u t), (7, mrgT (difT u t) t)] [(1, false)]) (fun i => if i = 7 then [6] else if i = 9 then [7] else []) (by kernel_rfl) (by kernel_rfl) (by kernel_rfl)
      (fun i xs u w1 w2 h hb => VV.up h hb) (VS.some _ _) ?_
    simp only [List.take_succ_cons, List.take_zero, List.drop_succ_cons, List.drop_zero]
    refine Dep.wpM_stretch 1 rfl rfl rfl rfl ?_
    simp only [List.take_succ_cons, List.take_zero, List.drop_succ_cons, List.drop_zero]
    repeat (first | go_big_quiet_step (fail) | quiet_step (fail))
    refine wpQuiet_nil ?_
    refine Dep.wpM_dem rfl rfl rfl ?_ ?_
    · rintro _ ⟨pp, rfl⟩ hd
      go_simp
      simp only [demUpon]
      obtain ⟨hB, oc, od, og, ic, id, ig⟩ := HS.out
      clear HS
      refine ⟨trivial, (HCL.out _ (id.all (below_regrown V3 pp.d pp.os))).mono ?_⟩
      rintro e wA ⟨rfl, hbA⟩
      exact ⟨_, rfl, rfl, hbA, trivial⟩
    rintro vv hvv
    obtain rfl : vv = .bool false := hvv
    try clear hvv
    refine Dep.wpM_stretch 4 rfl rfl rfl rfl ?_
    simp only [List.take_succ_cons, List.take_zero, List.drop_succ_cons, List.drop_zero]
    repeat (first | go_big_quiet_step (fail) | quiet_step (fail))
    refine wpQuiet_nil ?_
    refine Dep.wpM_skip rfl rfl ?_
    refine Dep.wpM_skip rfl rfl ?_
    refine Dep.wpM_stretch 1 rfl rfl rfl rfl ?_
    simp only [List.take_succ_cons, List.take_zero, List.drop_succ_cons, List.drop_zero]
    repeat (first | go_big_quiet_step (fail) | quiet_step (fail))
    refine wpQuiet_nil ?_
    refine Dep.wpM_skip rfl rfl ?_
    refine Dep.wpM_stretch 1 rfl rfl rfl rfl ?_
    simp only [List.take_succ_cons, List.take_zero, List.drop_succ_cons, List.drop_zero]
    repeat (first | go_big_quiet_step (fail) | quiet_step (fail))
    refine wpQuiet_nil ?_
    refine Dep.wpM_end ?_
    rintro U hbU -
    obtain ⟨hB, oc, od, og, ic, id, ig⟩ := HS.out
    clear HS
    replace hB := below_all hB hbU
    replace oc := oc.all hbU
    replace od := od.all hbU
    replace og := og.all hbU
    replace ic := ic.all hbU
    replace id := id.all hbU
    replace ig := ig.all hbU
    clear hbU
    clear a0 a1 a2 a3 a4 b0 b1 b2 b3 b4
    obtain ⟨B2, hB2⟩ : ∃ B2, clnT t = B2 := ⟨_, rfl⟩
    have C2 := clean_any _ t (Nat.le_refl _) c _ ic
    rw [hB2] at C2
    have x0 := oc.cell (i := 0) rfl
    have x1 := oc.cell (i := 1) rfl
    have x2 := oc.cell (i := 2) rfl
    have x3 := oc.cell (i := 3) rfl
    have x4 := oc.cell (i := 4) rfl
    have HC2 := Lib.hid C2
    clear C2
    have HS := Lib.hid (And.intro hB (And.intro oc (And.intro od (And.intro og (And.intro ic (And.intro id ig))))))
    clear hB oc od og ic id ig
    go_wp2_with fail
    clear x0 x1 x2 x3 x4
    obtain ⟨hB, oc, od, og, ic, id, ig⟩ := HS.out
    clear HS
    refine (HC2.out).mono ?_
    rintro e w2 ⟨rfl, hb⟩
    replace hB := below_all hB hb
    replace oc := oc.all hb
    replace od := od.all hb
    replace og := og.all hb
    replace ic := ic.all hb
    replace id := id.all hb
    replace ig := ig.all hb
    clear hb
    clear HC2
    cases B2 with
    | false =>
      clear hB2
      clear oc od og ic id ig
      have HB := Lib.hid hB
      clear hB
      go_wp2_with fail
      refine (lives_any _).mono ?_
      rintro e wz ⟨rfl, hbz⟩
      go_wp2
      go_ret
      exact ⟨rfl, below_all HB.out hbz⟩
    | true =>
    have HB2 := Lib.hid hB2
    clear hB2
    have x0 := oc.cell (i := 0) rfl
    have x1 := oc.cell (i := 1) rfl
    have x2 := oc.cell (i := 2) rfl
    have x3 := oc.cell (i := 3) rfl
    have x4 := oc.cell (i := 4) rfl
    have y0 := og.cell (i := 0) rfl
    have y1 := og.cell (i := 1) rfl
    have y2 := og.cell (i := 2) rfl
    have y3 := og.cell (i := 3) rfl
    have y4 := og.cell (i := 4) rfl
    have HS := Lib.hid (And.intro hB (And.intro oc (And.intro od (And.intro og (And.intro ic (And.intro id ig))))))
    clear hB oc od og ic id ig
    go_wp2_with fail
    clear x0 x1 x2 x3 x4 y0 y1 y2 y3 y4
    obtain ⟨hB, oc, od, og, ic, id, ig⟩ := HS.out
    clear HS
    refine (merge_any _ v t (Nat.le_refl _) (by have h1 := HV.out.1.2; have h2 := HV.out.2.1.2; have h3 := HV.out.2.2.2; have h4 := dif_size _ u t (Nat.le_refl _) (snd_mp HV.out.2.1) (snd_mp HV.out.1); omega) (by have h1 := HV.out.1.2; have h2 := HV.out.2.1.2; have h3 := HV.out.2.2.2; have h4 := dif_size _ u t (Nat.le_refl _) (snd_mp HV.out.2.1) (snd_mp HV.out.1); omega) (snd_mp HV.out.2.2) (snd_mp HV.out.1) c g _ ic ig).mono ?_
    rintro e w3 ⟨h, rfl, hb, hN⟩
    replace hB := below_all hB hb
    replace oc := oc.all hb
    replace od := od.all hb
    replace og := og.all hb
    replace ic := ic.all hb
    replace id := id.all hb
    replace ig := ig.all hb
    clear hb
    have ih := hN.is
    clear hN
    have HS := Lib.hid (And.intro hB (And.intro oc (And.intro od (And.intro og (And.intro ic (And.intro id (And.intro ig ih)))))))
    clear hB oc od og ic id ig ih
    go_wp2_with fail
    obtain ⟨hB, oc, od, og, ic, id, ig, ih⟩ := HS.out
    clear HS
    have C3 := clean_any _ (mrgT v t) (Nat.le_refl _) h _ ih
    rw [mrg_cln _ v t (Nat.le_refl _) (snd_mp HV.out.2.2) (snd_mp HV.out.1) HB2.out] at C3
    refine (C3).mono ?_
    rintro e w4 ⟨rfl, hb⟩
    replace hB := below_all hB hb
    replace oc := oc.all hb
    replace od := od.all hb
    replace og := og.all hb
    replace ic := ic.all hb
    replace id := id.all hb
    replace ig := ig.all hb
    replace ih := ih.all hb
    clear hb
    clear C3
    clear oc od og ic id ig ih
    have HB := Lib.hid hB
    clear hB
    go_wp2_with fail
    refine (lives_any _).mono ?_
    rintro e wz ⟨rfl, hbz⟩
    go_wp2
    go_ret
    exact ⟨rfl, below_all HB.out hbz⟩
end Go.Proofs.Ytinenbgdkchghaa
