/- The walk of PatchAgain. -/
import Derived.Test.YtinenbgdkchghaaIb
import Derived.Test.YtinenbgdkchghaaIc
set_option linter.unusedSimpArgs false
set_option linter.unusedVariables false
namespace Go.Proofs.Ytinenbgdkchghaa
open Go.RowKit Go.Sort Go.Proofs.LawFrame

theorem vals_two {w : World} {b : Nat} {c d : VC} {t u : T} (o : Own w b (VC.cells c ++ VC.cells d) 25) (h : Is w c t) (h' : Is w d u) : Vals w (.slice (some ⟨b, 0, none⟩) 2 2) [t, u] :=
  ⟨[c, d], rfl, ⟨some ⟨b, 0, none⟩, 2, rfl, Nat.le_refl _, by unfold maxLen; omega, fun _ => ⟨b, 0, rfl, o.lt, fun j u hj => by have := o.cell (i := j) (v := u) (by simpa using hj); simpa using this⟩⟩,
    fun i z p h1 h2 => by
      match i, h1, h2 with
      | 0, h1, h2 => simp at h1 h2; subst h1; subst h2; exact h
      | 1, h1, h2 => simp at h1 h2; subst h1; subst h2; exact h'
      | i + 2, h1, h2 => simp at h1⟩
theorem vals_three {w : World} {b : Nat} {c d g : VC} {t u v : T} (o : Own w b (VC.cells c ++ VC.cells d ++ VC.cells g) 25) (h : Is w c t) (h' : Is w d u) (h2 : Is w g v) : Vals w (.slice (some ⟨b, 0, none⟩) 3 3) [t, u, v] :=
  ⟨[c, d, g], rfl, ⟨some ⟨b, 0, none⟩, 3, rfl, Nat.le_refl _, by unfold maxLen; omega, fun _ => ⟨b, 0, rfl, o.lt, fun j u hj => by have := o.cell (i := j) (v := u) (by simpa using hj); simpa using this⟩⟩,
    fun i z p h1 h2 => by
      match i, h1, h2 with
      | 0, h1, h2 => simp at h1 h2; subst h1; subst h2; exact h
      | 1, h1, h2 => simp at h1 h2; subst h1; subst h2; exact h'
      | 2, h1, hh => simp at h1 hh; subst h1; subst hh; assumption
      | i + 3, h1, h2 => simp at h1⟩
/-- of some operations the value is a tree, of the others true -/
def VV (L : List (Nat × T)) (i : Nat) (u : Value) (w : World) : Prop := match L.lookup i with
  | some t => ∃ c' : VC, u = c'.val ∧ Is w c' t
  | none => True
theorem VV.up {L : List (Nat × T)} {i : Nat} {u : Value} {w w' : World} (h : VV L i u w) (hb : Below w.heap.size w w') : VV L i u w' := by
  unfold VV at *
  cases hl : L.lookup i with
  | some t => rw [hl] at h; obtain ⟨c', a1, a2⟩ := h; exact ⟨c', a1, a2.all hb⟩
  | none => trivial
def VS (L : List (Nat × T)) (B : List (Nat × Bool)) (i : Nat) (u : Value) : Prop := match L.lookup i with
  | some _ => ∃ c' : VC, u = c'.val
  | none => u = .bool ((B.lookup i).getD true)
theorem VS.some (L : List (Nat × T)) (B : List (Nat × Bool)) (i : Nat) : ∃ u, VS L B i u := by
  unfold VS
  cases L.lookup i with
  | some t => exact ⟨VC0.val, VC0, rfl⟩
  | none => exact ⟨_, rfl⟩

set_option maxHeartbeats 16000000 in
set_option maxRecDepth 4000 in
theorem again_walk (c d : VC) (t u : T) (w : World) (ic : Is w c t) (id : Is w d u) (hst : t.strB 140737488355328) (hsu : u.strB 140737488355328) :
    Calls Try.prog 9 #[.agg #[.int .i64 c.k, .int .i64 c.n, sV c.s, .slice c.la c.ln c.lc, .slice c.fa c.fn c.fc], .agg #[.int .i64 d.k, .int .i64 d.n, sV d.s, .slice d.la d.ln d.lc, .slice d.fa d.fn d.fc]] w fun e w' => e = .returned (.bool true) ∧ Below w.heap.size w w' := by
  have hB : Below w.heap.size w ((w.alloc (.cells #[.int .i64 c.k, .int .i64 c.n, sV c.s, .slice c.la c.ln c.lc, .slice c.fa c.fn c.fc] 25)).alloc (.cells #[.int .i64 d.k, .int .i64 d.n, sV d.s, .slice d.la d.ln d.lc, .slice d.fa d.fn d.fc] 25)) := (((Below.refl _ _).alloc (Nat.le_refl _) _).alloc (by simp) _)
  have oc : Own ((w.alloc (.cells #[.int .i64 c.k, .int .i64 c.n, sV c.s, .slice c.la c.ln c.lc, .slice c.fa c.fn c.fc] 25)).alloc (.cells #[.int .i64 d.k, .int .i64 d.n, sV d.s, .slice d.la d.ln d.lc, .slice d.fa d.fn d.fc] 25)) (w.heap.size) [.int .i64 c.k, .int .i64 c.n, sV c.s, .slice c.la c.ln c.lc, .slice c.fa c.fn c.fc] 25 := (Own.new _ _ _).alloc _
  have od : Own ((w.alloc (.cells #[.int .i64 c.k, .int .i64 c.n, sV c.s, .slice c.la c.ln c.lc, .slice c.fa c.fn c.fc] 25)).alloc (.cells #[.int .i64 d.k, .int .i64 d.n, sV d.s, .slice d.la d.ln d.lc, .slice d.fa d.fn d.fc] 25)) (w.heap.size + 1) [.int .i64 d.k, .int .i64 d.n, sV d.s, .slice d.la d.ln d.lc, .slice d.fa d.fn d.fc] 25 := Own.new_at (by rw [size_alloc]) _ _
  replace ic := ic.all hB
  replace id := id.all hB
  have HS := Lib.hid (And.intro hB (And.intro oc (And.intro od (And.intro ic id))))
  clear hB oc od ic id
  go_enter Try.func9, Try.ntmps9
  go_upto_region 1 with (fail)
  change Code.wp Try.prog _ _ _ ((w.alloc (.cells #[.int .i64 c.k, .int .i64 c.n, sV c.s, .slice c.la c.ln c.lc, .slice c.fa c.fn c.fc] 25)).alloc (.cells #[.int .i64 d.k, .int .i64 d.n, sV d.s, .slice d.la d.ln d.lc, .slice d.fa d.fn d.fc] 25))
  generalize ((w.alloc (.cells #[.int .i64 c.k, .int .i64 c.n, sV c.s, .slice c.la c.ln c.lc, .slice c.fa c.fn c.fc] 25)).alloc (.cells #[.int .i64 d.k, .int .i64 d.n, sV d.s, .slice d.la d.ln d.lc, .slice d.fa d.fn d.fc] 25)) = V1 at *
  obtain ⟨hB, oc, od, ic, id⟩ := HS.out
  clear HS
  have a00 := oc.cell (i := 0) rfl
  have a01 := oc.cell (i := 1) rfl
  have a02 := oc.cell (i := 2) rfl
  have a03 := oc.cell (i := 3) rfl
  have a04 := oc.cell (i := 4) rfl
  have a10 := od.cell (i := 0) rfl
  have a11 := od.cell (i := 1) rfl
  have a12 := od.cell (i := 2) rfl
  have a13 := od.cell (i := 3) rfl
  have a14 := od.cell (i := 4) rfl
  have HS := Lib.hid (And.intro hB (And.intro oc (And.intro od (And.intro ic id))))
  clear hB oc od ic id
  go_wp2_with fail
  clear a00 a01 a02 a03 a04 a10 a11 a12 a13 a14
  obtain ⟨hB, oc, od, ic, id⟩ := HS.out
  clear HS
  have hbN := below_alloc V1 (.cells #[.int .i64 c.k, .int .i64 c.n, sV c.s, .slice c.la c.ln c.lc, .slice c.fa c.fn c.fc, .int .i64 d.k, .int .i64 d.n, sV d.s, .slice d.la d.ln d.lc, .slice d.fa d.fn d.fc] 25)
  replace hB := below_all hB hbN
  replace oc := oc.all hbN
  replace od := od.all hbN
  replace ic := ic.all hbN
  replace id := id.all hbN
  clear hbN
  have oS : Own (V1.alloc (.cells #[.int .i64 c.k, .int .i64 c.n, sV c.s, .slice c.la c.ln c.lc, .slice c.fa c.fn c.fc, .int .i64 d.k, .int .i64 d.n, sV d.s, .slice d.la d.ln d.lc, .slice d.fa d.fn d.fc] 25)) V1.heap.size (VC.cells c ++ VC.cells d) 25 := Own.new _ _ _
  have hv := vals_two oS ic id
  clear oS
  refine (sound_any [t, u] _ _ hv (by intro t ht; simp only [List.mem_cons, List.not_mem_nil, or_false] at ht; rcases ht with rfl | rfl <;> assumption)).mono ?_
  rintro e w1 HR
  obtain ⟨r, rfl, hb, hr⟩ := HR.out
  clear HR hv
  replace hB := below_all hB hb
  replace oc := oc.all hb
  replace od := od.all hb
  replace ic := ic.all hb
  replace id := id.all hb
  clear hb
  cases r with
  | false =>
    clear hr
    clear oc od ic id
    have HB := Lib.hid hB
    clear hB
    go_wp2_with fail
    refine (lives_any _).mono ?_
    rintro e wz ⟨rfl, hbz⟩
    go_wp2
    go_ret
    exact ⟨rfl, below_all HB.out hbz⟩
  | true =>
  have HV := Lib.hid (show (Val 12 t ∧ t.size ≤ 600) ∧ (Val 12 u ∧ u.size ≤ 600) from ⟨hr rfl t (by simp), hr rfl u (by simp)⟩)
  clear hr
  have a00 := oc.cell (i := 0) rfl
  have a01 := oc.cell (i := 1) rfl
  have a02 := oc.cell (i := 2) rfl
  have a03 := oc.cell (i := 3) rfl
  have a04 := oc.cell (i := 4) rfl
  have a10 := od.cell (i := 0) rfl
  have a11 := od.cell (i := 1) rfl
  have a12 := od.cell (i := 2) rfl
  have a13 := od.cell (i := 3) rfl
  have a14 := od.cell (i := 4) rfl
  have HS := Lib.hid (And.intro hB (And.intro oc (And.intro od (And.intro ic id))))
  clear hB oc od ic id
  go_wp2_with fail
  clear a00 a01 a02 a03 a04 a10 a11 a12 a13 a14
  obtain ⟨hB, oc, od, ic, id⟩ := HS.out
  clear HS
  refine (merge_any _ u t (Nat.le_refl _) (by have h1 := HV.out.1.2; have h2 := HV.out.2.2; have h3 := mrgT_size2 u t; omega) (by have h1 := HV.out.1.2; have h2 := HV.out.2.2; have h3 := mrgT_size2 u t; omega) (snd_mp HV.out.2) (snd_mp HV.out.1) c d _ ic id).mono ?_
  rintro e w2 ⟨g, rfl, hb, hN⟩
  replace hB := below_all hB hb
  replace oc := oc.all hb
  replace od := od.all hb
  replace ic := ic.all hb
  replace id := id.all hb
  clear hb
  have ig := hN.is
  clear hN
  have hbN := below_alloc w2 (.cells #[.int .i64 g.k, .int .i64 g.n, sV g.s, .slice g.la g.ln g.lc, .slice g.fa g.fn g.fc] 25)
  replace hB := below_all hB hbN
  replace oc := oc.all hbN
  replace od := od.all hbN
  replace ic := ic.all hbN
  replace id := id.all hbN
  replace ig := ig.all hbN
  clear hbN
  have og : Own (w2.alloc (.cells #[.int .i64 g.k, .int .i64 g.n, sV g.s, .slice g.la g.ln g.lc, .slice g.fa g.fn g.fc] 25)) w2.heap.size [.int .i64 g.k, .int .i64 g.n, sV g.s, .slice g.la g.ln g.lc, .slice g.fa g.fn g.fc] 25 := Own.new _ _ _
  have HS := Lib.hid (And.intro hB (And.intro oc (And.intro od (And.intro ic (And.intro id (And.intro ig og))))))
  clear hB oc od ic id ig og
  go_upto_region 4 with (fail)
  change Code.wp Try.prog _ _ _ (w2.alloc (.cells #[.int .i64 g.k, .int .i64 g.n, sV g.s, .slice g.la g.ln g.lc, .slice g.fa g.fn g.fc] 25))
  generalize (w2.alloc (.cells #[.int .i64 g.k, .int .i64 g.n, sV g.s, .slice g.la g.ln g.lc, .slice g.fa g.fn g.fc] 25)) = V4 at *
  obtain ⟨hB, oc, od, ic, id, ig, og⟩ := HS.out
  clear HS
  have a0 := cell_regrown (og.cell (i := 0) rfl)
  have a1 := cell_regrown (og.cell (i := 1) rfl)
  have a2 := cell_regrown (og.cell (i := 2) rfl)
  have a3 := cell_regrown (og.cell (i := 3) rfl)
  have a4 := cell_regrown (og.cell (i := 4) rfl)
  have b0 := cell_regrown (od.cell (i := 0) rfl)
  have b1 := cell_regrown (od.cell (i := 1) rfl)
  have b2 := cell_regrown (od.cell (i := 2) rfl)
  have b3 := cell_regrown (od.cell (i := 3) rfl)
  have b4 := cell_regrown (od.cell (i := 4) rfl)
  have HS := Lib.hid (And.intro hB (And.intro oc (And.intro od (And.intro ic (And.intro id (And.intro ig og))))))
  clear hB oc od ic id ig og
  refine Dep.wp_region_multi 8 (fun i => i == 2 || i == 4 || i == 6)
    (fun ii _ uu ww => VV [(2, mrgT u (mrgT u t))] ii uu ww) (VS [(2, mrgT u (mrgT u t))] []) (fun i => if i = 4 then [2] else []) (by kernel_rfl) (by kernel_rfl) (by kernel_rfl)
    (fun i xs u w1 w2 h hb => VV.up h hb) (VS.some _ _) ?_
  simp only [List.take_succ_cons, List.take_zero, List.drop_succ_cons, List.drop_zero]
  refine Dep.wpM_stretch 2 rfl rfl rfl rfl ?_
  simp only [List.take_succ_cons, List.take_zero, List.drop_succ_cons, List.drop_zero]
  repeat (first | go_big_quiet_step (fail) | quiet_step (fail))
  refine wpQuiet_nil ?_
  refine Dep.wpM_dem rfl rfl rfl ?_ ?_
  · rintro _ ⟨pp, rfl⟩ hd
    go_simp
    simp only [demUpon]
    obtain ⟨hB, oc, od, ic, id, ig, og⟩ := HS.out
    clear HS
    refine ⟨trivial, (merge_any _ u (mrgT u t) (Nat.le_refl _) (by have h1 := HV.out.1.2; have h2 := HV.out.2.2; have h3 := mrgT_size2 u t; omega) (by have h1 := HV.out.1.2; have h2 := HV.out.2.2; have h3 := mrgT_size2 u t; omega) (snd_mp HV.out.2) (mrg_mp (snd_mp HV.out.2) (snd_mp HV.out.1)) g d _ (ig.all (below_regrown V4 pp.d pp.os)) (id.all (below_regrown V4 pp.d pp.os))).mono ?_⟩
    rintro e wA ⟨c', rfl, hbA, hN⟩
    exact ⟨_, rfl, ⟨c', rfl⟩, hbA, c', rfl, hN.is⟩
  rintro vv hvv
  obtain ⟨m1, rfl⟩ : ∃ c' : VC, vv = c'.val := hvv
  try clear hvv
  refine Dep.wpM_stretch 1 rfl rfl rfl rfl ?_
  simp only [List.take_succ_cons, List.take_zero, List.drop_succ_cons, List.drop_zero]
  repeat (first | go_big_quiet_step (fail) | quiet_step (fail))
  refine wpQuiet_nil ?_
  refine Dep.wpM_dem rfl rfl rfl ?_ ?_
  · rintro _ ⟨pp, rfl⟩ hd
    go_simp
    simp only [demUpon]
    obtain ⟨hB, oc, od, ic, id, ig, og⟩ := HS.out
    clear HS
    obtain ⟨e2, he2, hI2⟩ := (show ∃ c' : VC, m1.val = c'.val ∧ Is (grow (redrawn V4 pp.d) pp.os) c' (mrgT u (mrgT u t)) from hd 2 (by decide))
    obtain rfl := VC.val_inj he2
    refine ⟨trivial, (alike_true (mrg_again _ u t (Nat.le_refl _) (snd_mp HV.out.2) (snd_mp HV.out.1)) hI2 (ig.all (below_regrown V4 pp.d pp.os))).mono ?_⟩
    rintro e wA ⟨rfl, hbA⟩
    exact ⟨_, rfl, rfl, hbA, trivial⟩
  rintro vv hvv
  obtain rfl : vv = .bool true := hvv
  try clear hvv
  refine Dep.wpM_stretch 1 rfl rfl rfl rfl ?_
  simp only [List.take_succ_cons, List.take_zero, List.drop_succ_cons, List.drop_zero]
  repeat (first | go_big_quiet_step (fail) | quiet_step (fail))
  refine wpQuiet_nil ?_
  refine Dep.wpM_dem rfl rfl rfl ?_ ?_
  · rintro _ ⟨pp, rfl⟩ hd
    go_simp
    simp only [demUpon]
    obtain ⟨hB, oc, od, ic, id, ig, og⟩ := HS.out
    clear HS
    refine ⟨trivial, (lives_any _).mono ?_⟩
    rintro e wA ⟨rfl, hbA⟩
    exact ⟨_, rfl, rfl, hbA, trivial⟩
  rintro vv hvv
  obtain rfl : vv = .bool true := hvv
  try clear hvv
  refine Dep.wpM_stretch 1 rfl rfl rfl rfl ?_
  simp only [List.take_succ_cons, List.take_zero, List.drop_succ_cons, List.drop_zero]
  repeat (first | go_big_quiet_step (fail) | quiet_step (fail))
  refine wpQuiet_nil ?_
  refine Dep.wpM_end ?_
  rintro U hbU -
  obtain ⟨hB, oc, od, ic, id, ig, og⟩ := HS.out
  clear HS
  go_wp2
  go_ret
  exact ⟨rfl, below_all hB hbU⟩
end Go.Proofs.Ytinenbgdkchghaa
