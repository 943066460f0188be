/- The walk of PatchCompose. -/
import Derived.Test.YtinenbgdkchghaaId
import Derived.Test.YtinenbgdkchghaaIe
set_option linter.unusedSimpArgs false
set_option linter.unusedVariables false
namespace Go.Proofs.Ytinenbgdkchghaa
open Go.RowKit Go.Sort Go.Proofs.LawFrame

set_option maxHeartbeats 32000000 in
set_option maxRecDepth 4000 in
theorem compose_walk (c d g : VC) (t u v : T) (w : World) (ic : Is w c t) (id : Is w d u) (ig : Is w g v) (hst : t.strB 140737488355328) (hsu : u.strB 140737488355328) (hsv : v.strB 140737488355328) :
    Calls Try.prog 6 #[.agg #[.int .i64 c.k, .int .i64 c.n, sV c.s, .slice c.la c.ln c.lc, .slice c.fa c.fn c.fc], .agg #[.int .i64 d.k, .int .i64 d.n, sV d.s, .slice d.la d.ln d.lc, .slice d.fa d.fn d.fc], .agg #[.int .i64 g.k, .int .i64 g.n, sV g.s, .slice g.la g.ln g.lc, .slice g.fa g.fn g.fc]] w fun e w' => e = .returned (.bool true) ∧ Below w.heap.size w w' := by
  have hB : Below w.heap.size w (((w.alloc (.cells #[.int .i64 c.k, .int .i64 c.n, sV c.s, .slice c.la c.ln c.lc, .slice c.fa c.fn c.fc] 25)).alloc (.cells #[.int .i64 d.k, .int .i64 d.n, sV d.s, .slice d.la d.ln d.lc, .slice d.fa d.fn d.fc] 25)).alloc (.cells #[.int .i64 g.k, .int .i64 g.n, sV g.s, .slice g.la g.ln g.lc, .slice g.fa g.fn g.fc] 25)) := ((((Below.refl _ _).alloc (Nat.le_refl _) _).alloc (by simp) _).alloc (by simp; omega) _)
  have oc : Own (((w.alloc (.cells #[.int .i64 c.k, .int .i64 c.n, sV c.s, .slice c.la c.ln c.lc, .slice c.fa c.fn c.fc] 25)).alloc (.cells #[.int .i64 d.k, .int .i64 d.n, sV d.s, .slice d.la d.ln d.lc, .slice d.fa d.fn d.fc] 25)).alloc (.cells #[.int .i64 g.k, .int .i64 g.n, sV g.s, .slice g.la g.ln g.lc, .slice g.fa g.fn g.fc] 25)) (w.heap.size) [.int .i64 c.k, .int .i64 c.n, sV c.s, .slice c.la c.ln c.lc, .slice c.fa c.fn c.fc] 25 := ((Own.new _ _ _).alloc _).alloc _
  have od : Own (((w.alloc (.cells #[.int .i64 c.k, .int .i64 c.n, sV c.s, .slice c.la c.ln c.lc, .slice c.fa c.fn c.fc] 25)).alloc (.cells #[.int .i64 d.k, .int .i64 d.n, sV d.s, .slice d.la d.ln d.lc, .slice d.fa d.fn d.fc] 25)).alloc (.cells #[.int .i64 g.k, .int .i64 g.n, sV g.s, .slice g.la g.ln g.lc, .slice g.fa g.fn g.fc] 25)) (w.heap.size + 1) [.int .i64 d.k, .int .i64 d.n, sV d.s, .slice d.la d.ln d.lc, .slice d.fa d.fn d.fc] 25 := (Own.new_at (by rw [size_alloc]) _ _).alloc _
  have og : Own (((w.alloc (.cells #[.int .i64 c.k, .int .i64 c.n, sV c.s, .slice c.la c.ln c.lc, .slice c.fa c.fn c.fc] 25)).alloc (.cells #[.int .i64 d.k, .int .i64 d.n, sV d.s, .slice d.la d.ln d.lc, .slice d.fa d.fn d.fc] 25)).alloc (.cells #[.int .i64 g.k, .int .i64 g.n, sV g.s, .slice g.la g.ln g.lc, .slice g.fa g.fn g.fc] 25)) (w.heap.size + 1 + 1) [.int .i64 g.k, .int .i64 g.n, sV g.s, .slice g.la g.ln g.lc, .slice g.fa g.fn g.fc] 25 := Own.new_at (by rw [size_alloc, size_alloc]) _ _
  replace ic := ic.all hB
  replace id := id.all hB
  replace ig := ig.all hB
  have HS := Lib.hid (And.intro hB (And.intro oc (And.intro od (And.intro og (And.intro ic (And.intro id ig))))))
  clear hB oc od og ic id ig
  go_enter Try.func6, Try.ntmps6
  go_upto_region 1 with (fail)
  change Code.wp Try.prog _ _ _ (((w.alloc (.cells #[.int .i64 c.k, .int .i64 c.n, sV c.s, .slice c.la c.ln c.lc, .slice c.fa c.fn c.fc] 25)).alloc (.cells #[.int .i64 d.k, .int .i64 d.n, sV d.s, .slice d.la d.ln d.lc, .slice d.fa d.fn d.fc] 25)).alloc (.cells #[.int .i64 g.k, .int .i64 g.n, sV g.s, .slice g.la g.ln g.lc, .slice g.fa g.fn g.fc] 25))
  generalize (((w.alloc (.cells #[.int .i64 c.k, .int .i64 c.n, sV c.s, .slice c.la c.ln c.lc, .slice c.fa c.fn c.fc] 25)).alloc (.cells #[.int .i64 d.k, .int .i64 d.n, sV d.s, .slice d.la d.ln d.lc, .slice d.fa d.fn d.fc] 25)).alloc (.cells #[.int .i64 g.k, .int .i64 g.n, sV g.s, .slice g.la g.ln g.lc, .slice g.fa g.fn g.fc] 25)) = V1 at *
  obtain ⟨hB, oc, od, og, ic, id, ig⟩ := HS.out
  clear HS
  have a00 := oc.cell (i := 0) rfl
  have a01 := oc.cell (i := 1) rfl
  have a02 := oc.cell (i := 2) rfl
  have a03 := oc.cell (i := 3) rfl
  have a04 := oc.cell (i := 4) rfl
  have a10 := od.cell (i := 0) rfl
  have a11 := od.cell (i := 1) rfl
  have a12 := od.cell (i := 2) rfl
  have a13 := od.cell (i := 3) rfl
  have a14 := od.cell (i := 4) rfl
  have a20 := og.cell (i := 0) rfl
  have a21 := og.cell (i := 1) rfl
  have a22 := og.cell (i := 2) rfl
  have a23 := og.cell (i := 3) rfl
  have a24 := og.cell (i := 4) rfl
  have HS := Lib.hid (And.intro hB (And.intro oc (And.intro od (And.intro og (And.intro ic (And.intro id ig))))))
  clear hB oc od og ic id ig
  go_wp2_with fail
  clear a00 a01 a02 a03 a04 a10 a11 a12 a13 a14 a20 a21 a22 a23 a24
  obtain ⟨hB, oc, od, og, ic, id, ig⟩ := HS.out
  clear HS
  have hbN := below_alloc V1 (.cells #[.int .i64 c.k, .int .i64 c.n, sV c.s, .slice c.la c.ln c.lc, .slice c.fa c.fn c.fc, .int .i64 d.k, .int .i64 d.n, sV d.s, .slice d.la d.ln d.lc, .slice d.fa d.fn d.fc, .int .i64 g.k, .int .i64 g.n, sV g.s, .slice g.la g.ln g.lc, .slice g.fa g.fn g.fc] 25)
  replace hB := below_all hB hbN
  replace oc := oc.all hbN
  replace od := od.all hbN
  replace og := og.all hbN
  replace ic := ic.all hbN
  replace id := id.all hbN
  replace ig := ig.all hbN
  clear hbN
  have oS : Own (V1.alloc (.cells #[.int .i64 c.k, .int .i64 c.n, sV c.s, .slice c.la c.ln c.lc, .slice c.fa c.fn c.fc, .int .i64 d.k, .int .i64 d.n, sV d.s, .slice d.la d.ln d.lc, .slice d.fa d.fn d.fc, .int .i64 g.k, .int .i64 g.n, sV g.s, .slice g.la g.ln g.lc, .slice g.fa g.fn g.fc] 25)) V1.heap.size (VC.cells c ++ VC.cells d ++ VC.cells g) 25 := Own.new _ _ _
  have hv := vals_three oS ic id ig
  clear oS
  refine (sound_any [t, u, v] _ _ hv (by intro t ht; simp only [List.mem_cons, List.not_mem_nil, or_false] at ht; rcases ht with rfl | rfl | rfl <;> assumption)).mono ?_
  rintro e w1 HR
  obtain ⟨r, rfl, hb, hr⟩ := HR.out
  clear HR hv
  replace hB := below_all hB hb
  replace oc := oc.all hb
  replace od := od.all hb
  replace og := og.all hb
  replace ic := ic.all hb
  replace id := id.all hb
  replace ig := ig.all hb
  clear hb
  cases r with
  | false =>
    clear hr
    clear oc od og ic id ig
    have HB := Lib.hid hB
    clear hB
    go_wp2_with fail
    refine (lives_any _).mono ?_
    rintro e wz ⟨rfl, hbz⟩
    go_wp2
    go_ret
    exact ⟨rfl, below_all HB.out hbz⟩
  | true =>
  have HV := Lib.hid (show (Val 12 t ∧ t.size ≤ 600) ∧ (Val 12 u ∧ u.size ≤ 600) ∧ (Val 12 v ∧ v.size ≤ 600) from ⟨hr rfl t (by simp), hr rfl u (by simp), hr rfl v (by simp)⟩)
  clear hr
  obtain ⟨B, hBv⟩ : ∃ B, cptT v u = B := ⟨_, rfl⟩
  have a0 := od.cell (i := 0) rfl
  have a1 := od.cell (i := 1) rfl
  have a2 := od.cell (i := 2) rfl
  have a3 := od.cell (i := 3) rfl
  have a4 := od.cell (i := 4) rfl
  have b0 := og.cell (i := 0) rfl
  have b1 := og.cell (i := 1) rfl
  have b2 := og.cell (i := 2) rfl
  have b3 := og.cell (i := 3) rfl
  have b4 := og.cell (i := 4) rfl
  have HS := Lib.hid (And.intro hB (And.intro oc (And.intro od (And.intro og (And.intro ic (And.intro id ig))))))
  clear hB oc od og ic id ig
  go_wp2_with fail
  clear a0 a1 a2 a3 a4 b0 b1 b2 b3 b4
  obtain ⟨hB, oc, od, og, ic, id, ig⟩ := HS.out
  clear HS
  have C2 := compat_any _ v u (Nat.le_refl _) (by have := HV.out.2.1.2; omega) d g _ id ig
  rw [hBv] at C2
  refine (C2).mono ?_
  rintro e w2 ⟨rfl, hb⟩
  replace hB := below_all hB hb
  replace oc := oc.all hb
  replace od := od.all hb
  replace og := og.all hb
  replace ic := ic.all hb
  replace id := id.all hb
  replace ig := ig.all hb
  clear hb
  clear C2
  cases B with
  | false =>
    clear hBv
    clear oc od og ic id ig
    have HB := Lib.hid hB
    clear hB
    go_wp2_with fail
    refine (lives_any _).mono ?_
    rintro e wz ⟨rfl, hbz⟩
    go_wp2
    go_ret
    exact ⟨rfl, below_all HB.out hbz⟩
  | true =>
  have HBV := Lib.hid hBv
  clear hBv
  have HS := Lib.hid (And.intro hB (And.intro oc (And.intro od (And.intro og (And.intro ic (And.intro id ig))))))
  clear hB oc od og ic id ig
  go_upto_region 3 with (fail)
  change Code.wp Try.prog _ _ _ w2
  generalize w2 = V3 at *
  obtain ⟨hB, oc, od, og, ic, id, ig⟩ := HS.out
  clear HS
  have a0 := cell_regrown (oc.cell (i := 0) rfl)
  have a1 := cell_regrown (oc.cell (i := 1) rfl)
  have a2 := cell_regrown (oc.cell (i := 2) rfl)
  have a3 := cell_regrown (oc.cell (i := 3) rfl)
  have a4 := cell_regrown (oc.cell (i := 4) rfl)
  have b0 := cell_regrown (od.cell (i := 0) rfl)
  have b1 := cell_regrown (od.cell (i := 1) rfl)
  have b2 := cell_regrown (od.cell (i := 2) rfl)
  have b3 := cell_regrown (od.cell (i := 3) rfl)
  have b4 := cell_regrown (od.cell (i := 4) rfl)
  have e0 := cell_regrown (og.cell (i := 0) rfl)
  have e1 := cell_regrown (og.cell (i := 1) rfl)
  have e2 := cell_regrown (og.cell (i := 2) rfl)
  have e3 := cell_regrown (og.cell (i := 3) rfl)
  have e4 := cell_regrown (og.cell (i := 4) rfl)
  have HS := Lib.hid (And.intro hB (And.intro oc (And.intro od (And.intro og (And.intro ic (And.intro id ig))))))
  clear hB oc od og ic id ig
  refine Dep.wp_region_multi 14 (fun i => i == 2 || i == 4 || i == 8 || i == 9 || i == 10 || i == 12)
    (fun ii _ uu ww => VV [(2, mrgT u t), (4, mrgT v (mrgT u t)), (8, cpoT v u), (9, mrgT (cpoT v u) t)] ii uu ww) (VS [(2, mrgT u t), (4, mrgT v (mrgT u t)), (8, cpoT v u), (9, mrgT (cpoT v u) t)] []) (fun i => if i = 4 then [2] else if i = 9 then [8] else if i = 10 then [4, 9] else []) (by kernel_rfl) (by kernel_rfl) (by kernel_rfl)
    (fun i xs u w1 w2 h hb => VV.up h hb) (VS.some _ _) ?_
  simp only [List.take_succ_cons, List.take_zero, List.drop_succ_cons, List.drop_zero]
  refine Dep.wpM_stretch 2 rfl rfl rfl rfl ?_
  simp only [List.take_succ_cons, List.take_zero, List.drop_succ_cons, List.drop_zero]
  repeat (first | go_big_quiet_step (fail) | quiet_step (fail))
  refine wpQuiet_nil ?_
  refine Dep.wpM_dem rfl rfl rfl ?_ ?_
  · rintro _ ⟨pp, rfl⟩ hd
    go_simp
    simp only [demUpon]
    obtain ⟨hB, oc, od, og, ic, id, ig⟩ := HS.out
    clear HS
    refine ⟨trivial, (merge_any _ (u) (t) (Nat.le_refl _) (by have h1 := HV.out.1.2; have h2 := HV.out.2.1.2; have h3 := HV.out.2.2.2; have h4 := mrgT_size2 u t; have h5 := cpo_size _ v u (Nat.le_refl _) (snd_mp HV.out.2.2) (snd_mp HV.out.2.1); omega) (by have h1 := HV.out.1.2; have h2 := HV.out.2.1.2; have h3 := HV.out.2.2.2; have h4 := mrgT_size2 u t; have h5 := cpo_size _ v u (Nat.le_refl _) (snd_mp HV.out.2.2) (snd_mp HV.out.2.1); omega) (snd_mp HV.out.2.1) (snd_mp HV.out.1) c d _ (ic.all (below_regrown V3 pp.d pp.os)) (id.all (below_regrown V3 pp.d pp.os))).mono ?_⟩
    rintro e wA ⟨c', rfl, hbA, hN⟩
    exact ⟨_, rfl, ⟨c', rfl⟩, hbA, c', rfl, hN.is⟩
  rintro vv hvv
  obtain ⟨m1, rfl⟩ : ∃ c' : VC, vv = c'.val := hvv
  try clear hvv
  refine Dep.wpM_stretch 1 rfl rfl rfl rfl ?_
  simp only [List.take_succ_cons, List.take_zero, List.drop_succ_cons, List.drop_zero]
  repeat (first | go_big_quiet_step (fail) | quiet_step (fail))
  refine wpQuiet_nil ?_
  refine Dep.wpM_dem rfl rfl rfl ?_ ?_
  · rintro _ ⟨pp, rfl⟩ hd
    go_simp
    simp only [demUpon]
    obtain ⟨hB, oc, od, og, ic, id, ig⟩ := HS.out
    clear HS
    obtain ⟨e2, he2, hI2⟩ := (show ∃ c' : VC, m1.val = c'.val ∧ Is (grow (redrawn V3 pp.d) pp.os) c' (mrgT u t) from hd 2 (by decide))
    obtain rfl := VC.val_inj he2
    refine ⟨trivial, (merge_any _ (v) (mrgT u t) (Nat.le_refl _) (by have h1 := HV.out.1.2; have h2 := HV.out.2.1.2; have h3 := HV.out.2.2.2; have h4 := mrgT_size2 u t; have h5 := cpo_size _ v u (Nat.le_refl _) (snd_mp HV.out.2.2) (snd_mp HV.out.2.1); omega) (by have h1 := HV.out.1.2; have h2 := HV.out.2.1.2; have h3 := HV.out.2.2.2; have h4 := mrgT_size2 u t; have h5 := cpo_size _ v u (Nat.le_refl _) (snd_mp HV.out.2.2) (snd_mp HV.out.2.1); omega) (snd_mp HV.out.2.2) (mrg_mp (snd_mp HV.out.2.1) (snd_mp HV.out.1)) m1 g _ hI2 (ig.all (below_regrown V3 pp.d pp.os))).mono ?_⟩
    rintro e wA ⟨c', rfl, hbA, hN⟩
    exact ⟨_, rfl, ⟨c', rfl⟩, hbA, c', rfl, hN.is⟩
  rintro vv hvv
  obtain ⟨m2, rfl⟩ : ∃ c' : VC, vv = c'.val := hvv
  try clear hvv
  refine Dep.wpM_stretch 3 rfl rfl rfl rfl ?_
  simp only [List.take_succ_cons, List.take_zero, List.drop_succ_cons, List.drop_zero]
  repeat (first | go_big_quiet_step (fail) | quiet_step (fail))
  refine wpQuiet_nil ?_
  refine Dep.wpM_dem rfl rfl rfl ?_ ?_
  · rintro _ ⟨pp, rfl⟩ hd
    go_simp
    simp only [demUpon]
    obtain ⟨hB, oc, od, og, ic, id, ig⟩ := HS.out
    clear HS
    refine ⟨trivial, (compose_any _ v u (Nat.le_refl _) (by have h1 := HV.out.1.2; have h2 := HV.out.2.1.2; have h3 := HV.out.2.2.2; have h4 := mrgT_size2 u t; have h5 := cpo_size _ v u (Nat.le_refl _) (snd_mp HV.out.2.2) (snd_mp HV.out.2.1); omega) (by have h1 := HV.out.1.2; have h2 := HV.out.2.1.2; have h3 := HV.out.2.2.2; have h4 := mrgT_size2 u t; have h5 := cpo_size _ v u (Nat.le_refl _) (snd_mp HV.out.2.2) (snd_mp HV.out.2.1); omega) (snd_mp HV.out.2.2) (snd_mp HV.out.2.1) d g _ (id.all (below_regrown V3 pp.d pp.os)) (ig.all (below_regrown V3 pp.d pp.os))).mono ?_⟩
    rintro e wA ⟨c', rfl, hbA, hN⟩
    exact ⟨_, rfl, ⟨c', rfl⟩, hbA, c', rfl, hN.is⟩
  rintro vv hvv
  obtain ⟨m3, rfl⟩ : ∃ c' : VC, vv = c'.val := hvv
  try clear hvv
  refine Dep.wpM_dem rfl rfl rfl ?_ ?_
  · rintro _ ⟨pp, rfl⟩ hd
    go_simp
    simp only [demUpon]
    obtain ⟨hB, oc, od, og, ic, id, ig⟩ := HS.out
    clear HS
    obtain ⟨e8, he8, hI8⟩ := (show ∃ c' : VC, m3.val = c'.val ∧ Is (grow (redrawn V3 pp.d) pp.os) c' (cpoT v u) from hd 8 (by decide))
    obtain rfl := VC.val_inj he8
    refine ⟨trivial, (merge_any _ (cpoT v u) (t) (Nat.le_refl _) (by have h1 := HV.out.1.2; have h2 := HV.out.2.1.2; have h3 := HV.out.2.2.2; have h4 := mrgT_size2 u t; have h5 := cpo_size _ v u (Nat.le_refl _) (snd_mp HV.out.2.2) (snd_mp HV.out.2.1); omega) (by have h1 := HV.out.1.2; have h2 := HV.out.2.1.2; have h3 := HV.out.2.2.2; have h4 := mrgT_size2 u t; have h5 := cpo_size _ v u (Nat.le_refl _) (snd_mp HV.out.2.2) (snd_mp HV.out.2.1); omega) (cpo_mp (snd_mp HV.out.2.2) (snd_mp HV.out.2.1)) (snd_mp HV.out.1) c m3 _ (ic.all (below_regrown V3 pp.d pp.os)) hI8).mono ?_⟩
    rintro e wA ⟨c', rfl, hbA, hN⟩
    exact ⟨_, rfl, ⟨c', rfl⟩, hbA, c', rfl, hN.is⟩
  rintro vv hvv
  obtain ⟨m4, rfl⟩ : ∃ c' : VC, vv = c'.val := hvv
  try clear hvv
  refine Dep.wpM_dem rfl rfl rfl ?_ ?_
  · rintro _ ⟨pp, rfl⟩ hd
    go_simp
    simp only [demUpon]
    obtain ⟨hB, oc, od, og, ic, id, ig⟩ := HS.out
    clear HS
    obtain ⟨e4, he4, hI4⟩ := (show ∃ c' : VC, m2.val = c'.val ∧ Is (grow (redrawn V3 pp.d) pp.os) c' (mrgT v (mrgT u t)) from hd 4 (by decide))
    obtain rfl := VC.val_inj he4
    obtain ⟨e9, he9, hI9⟩ := (show ∃ c' : VC, m4.val = c'.val ∧ Is (grow (redrawn V3 pp.d) pp.os) c' (mrgT (cpoT v u) t) from hd 9 (by decide))
    obtain rfl := VC.val_inj he9
    refine ⟨trivial, (alike_true (mrg_cpo _ v u t (Nat.le_refl _) (snd_mp HV.out.2.2) (snd_mp HV.out.2.1) (snd_mp HV.out.1) HBV.out) hI4 hI9).mono ?_⟩
    rintro e wA ⟨rfl, hbA⟩
    exact ⟨_, rfl, rfl, hbA, trivial⟩
  rintro vv hvv
  obtain rfl : vv = .bool true := hvv
  try clear hvv
  refine Dep.wpM_stretch 1 rfl rfl rfl rfl ?_
  simp only [List.take_succ_cons, List.take_zero, List.drop_succ_cons, List.drop_zero]
  repeat (first | go_big_quiet_step (fail) | quiet_step (fail))
  refine wpQuiet_nil ?_
  refine Dep.wpM_dem rfl rfl rfl ?_ ?_
  · rintro _ ⟨pp, rfl⟩ hd
    go_simp
    simp only [demUpon]
    obtain ⟨hB, oc, od, og, ic, id, ig⟩ := HS.out
    clear HS
    refine ⟨trivial, (lives_any _).mono ?_⟩
    rintro e wA ⟨rfl, hbA⟩
    exact ⟨_, rfl, rfl, hbA, trivial⟩
  rintro vv hvv
  obtain rfl : vv = .bool true := hvv
  try clear hvv
  refine Dep.wpM_stretch 1 rfl rfl rfl rfl ?_
  simp only [List.take_succ_cons, List.take_zero, List.drop_succ_cons, List.drop_zero]
  repeat (first | go_big_quiet_step (fail) | quiet_step (fail))
  refine wpQuiet_nil ?_
  refine Dep.wpM_end ?_
  rintro U hbU -
  obtain ⟨hB, oc, od, og, ic, id, ig⟩ := HS.out
  clear HS
  go_wp2
  go_ret
  exact ⟨rfl, below_all hB hbU⟩
end Go.Proofs.Ytinenbgdkchghaa
