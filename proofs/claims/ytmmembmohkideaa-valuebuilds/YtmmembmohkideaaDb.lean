/- The walk of ValueFields. -/
import Derived.Test.YtmmembmohkideaaEdJ
import Derived.Test.YtmmembmohkideaaRq
import Derived.Test.YtmmembmohkideaaWu
import Derived.Test.YtmmembmohkideaaWx
namespace Go.Proofs.Ytmmembmohkideaa
open Go.RowKit Go.Sort Go.Proofs.LawFrame

theorem eqv_true {t t' : T} (h : t = t') {c d : VC} {w : World} (hI : Is w c t) (hJ : Is w d t') : Calls Try.prog 20 #[c.val, d.val] w fun e w' => e = .returned (.bool true) ∧ Below w.heap.size w w' := by
  subst h
  have := requal_any t t c d w hI hJ
  rw [cmpT_refl] at this
  exact this
theorem Wout.unique {k : Int} {nm : Str} {f : List (Str × T)} {t t1 t2 : T} (h1 : Wout k nm f t t1) (h2 : Wout k nm f t t2) : t1 = t2 := by
  by_cases hk : k = 5
  · obtain ⟨M, rfl, hM⟩ := h1.map hk
    obtain ⟨M', rfl, hM'⟩ := h2.map hk
    rw [hM.unique hM']
  · rw [h1.same hk, h2.same hk]

/-- what is known of the values that region 5 makes -/
def FV (k : Int) (nm : Str) (f : List (Str × T)) (x t : T) (i : Nat) (u : Value) (w : World) : Prop :=
  if i = 12 ∨ i = 16 then ∃ (c' : VC) (M : List (Str × T)), u = c'.val ∧ Is w c' (.mk 5 0 [] [] M) ∧ MapOf (othK k nm f ++ [(nm, x)]) M
  else if i = 22 ∨ i = 25 then ∃ (c' : VC) (t' : T), u = c'.val ∧ Is w c' t' ∧ Wout k nm f t t' else True
theorem FV.up {k : Int} {nm : Str} {f : List (Str × T)} {x t : T} {i : Nat} {u : Value} {w w' : World} (h : FV k nm f x t i u w) (hb : Below w.heap.size w w') : FV k nm f x t i u w' := by
  unfold FV at *
  split
  · rename_i e; rw [if_pos e] at h; obtain ⟨c', M, a1, a2, a3⟩ := h; exact ⟨c', M, a1, a2.all hb, a3⟩
  · rename_i e
    rw [if_neg e] at h
    split
    · rename_i e'; rw [if_pos e'] at h; obtain ⟨c', M, a1, a2, a3⟩ := h; exact ⟨c', M, a1, a2.all hb, a3⟩
    · trivial
def FS (i : Nat) (u : Value) : Prop := if i = 12 ∨ i = 16 ∨ i = 22 ∨ i = 25 then ∃ c' : VC, u = c'.val else u = .bool true

set_option maxHeartbeats 16000000 in
set_option maxRecDepth 4000 in
theorem fields_walk (c cx : VC) (nm : Str) (t x : T) (w : World) (iV : Is w c t) (iX : Is w cx x) :
    Calls Try.prog 7 #[.agg #[.int .i64 c.k, .int .i64 c.n, sV c.s, .slice c.la c.ln c.lc, .slice c.fa c.fn c.fc], sV nm, .agg #[.int .i64 cx.k, .int .i64 cx.n, sV cx.s, .slice cx.la cx.ln cx.lc, .slice cx.fa cx.fn cx.fc]] w fun e w' => e = .returned (.bool true) ∧ Below w.heap.size w w' := by
  have hB : Below w.heap.size w ((w.alloc (.cells #[.int .i64 c.k, .int .i64 c.n, sV c.s, .slice c.la c.ln c.lc, .slice c.fa c.fn c.fc] 25)).alloc (.cells #[.int .i64 cx.k, .int .i64 cx.n, sV cx.s, .slice cx.la cx.ln cx.lc, .slice cx.fa cx.fn cx.fc] 25)) := ((Below.refl _ _).alloc (Nat.le_refl _) _).alloc (by simp) _
  have oA : Own ((w.alloc (.cells #[.int .i64 c.k, .int .i64 c.n, sV c.s, .slice c.la c.ln c.lc, .slice c.fa c.fn c.fc] 25)).alloc (.cells #[.int .i64 cx.k, .int .i64 cx.n, sV cx.s, .slice cx.la cx.ln cx.lc, .slice cx.fa cx.fn cx.fc] 25)) w.heap.size [.int .i64 c.k, .int .i64 c.n, sV c.s, .slice c.la c.ln c.lc, .slice c.fa c.fn c.fc] 25 := (Own.new _ _ _).alloc _
  have oX : Own ((w.alloc (.cells #[.int .i64 c.k, .int .i64 c.n, sV c.s, .slice c.la c.ln c.lc, .slice c.fa c.fn c.fc] 25)).alloc (.cells #[.int .i64 cx.k, .int .i64 cx.n, sV cx.s, .slice cx.la cx.ln cx.lc, .slice cx.fa cx.fn cx.fc] 25)) (w.heap.size + 1) [.int .i64 cx.k, .int .i64 cx.n, sV cx.s, .slice cx.la cx.ln cx.lc, .slice cx.fa cx.fn cx.fc] 25 := Own.new_at (by rw [size_alloc]) _ _
  replace iV := iV.all hB
  replace iX := iX.all hB
  have a0 := oA.cell (i := 0) rfl
  have a1 := oA.cell (i := 1) rfl
  have a2 := oA.cell (i := 2) rfl
  have a3 := oA.cell (i := 3) rfl
  have a4 := oA.cell (i := 4) rfl
  have HS := Lib.hid (And.intro hB (And.intro oA (And.intro oX (And.intro iV (iX)))))
  clear hB oA oX iV iX
  go_enter Try.func7, Try.ntmps7
  go_wp2_with fail
  clear a0 a1 a2 a3 a4
  generalize ((w.alloc (.cells #[.int .i64 c.k, .int .i64 c.n, sV c.s, .slice c.la c.ln c.lc, .slice c.fa c.fn c.fc] 25)).alloc (.cells #[.int .i64 cx.k, .int .i64 cx.n, sV cx.s, .slice cx.la cx.ln cx.lc, .slice cx.fa cx.fn cx.fc] 25)) = V at *
  obtain ⟨hB, oA, oX, iV, iX⟩ := HS.out
  clear HS
  refine (small_any t c V iV).mono ?_
  rintro e w1 ⟨r1, rfl, hb1, hr1⟩
  replace hB := below_all hB hb1
  replace oA := oA.all hb1
  replace oX := oX.all hb1
  replace iV := iV.all hb1
  replace iX := iX.all hb1
  clear hb1
  cases r1 with
  | false =>
    clear oA oX iV iX hr1
    go_wp2_with fail
    refine (awake_any _).mono ?_
    rintro e wz ⟨rfl, hbz⟩
    go_wp2
    go_ret
    exact ⟨rfl, below_all hB hbz⟩
  | true =>
  obtain ⟨hz1, -⟩ := hr1 rfl
  clear hr1
  have a0 := oX.cell (i := 0) rfl
  have a1 := oX.cell (i := 1) rfl
  have a2 := oX.cell (i := 2) rfl
  have a3 := oX.cell (i := 3) rfl
  have a4 := oX.cell (i := 4) rfl
  have HS := Lib.hid (And.intro hB (And.intro oA (And.intro oX (And.intro iV (iX)))))
  clear hB oA oX iV iX
  go_wp2_with fail
  clear a0 a1 a2 a3 a4
  obtain ⟨hB, oA, oX, iV, iX⟩ := HS.out
  clear HS
  refine (small_any x cx w1 iX).mono ?_
  rintro e w2 ⟨r2, rfl, hb2, hr2⟩
  replace hB := below_all hB hb2
  replace oA := oA.all hb2
  replace oX := oX.all hb2
  replace iV := iV.all hb2
  replace iX := iX.all hb2
  clear hb2
  cases r2 with
  | false =>
    clear oA oX iV iX hr2
    go_wp2_with fail
    refine (awake_any _).mono ?_
    rintro e wz ⟨rfl, hbz⟩
    go_wp2
    go_ret
    exact ⟨rfl, below_all hB hbz⟩
  | true =>
  obtain ⟨hz2, -⟩ := hr2 rfl
  clear hr2
  by_cases hl1 : 200 < nm.length
  · clear oA oX iV iX
    go_wp2_with fail
    refine (awake_any _).mono ?_
    rintro e wz ⟨rfl, hbz⟩
    go_wp2
    go_ret
    exact ⟨rfl, below_all hB hbz⟩
  obtain ⟨k, n, s, l, f⟩ := t
  have hsf : ∀ p ∈ f, p.2.size ≤ 1000 := fun p hp => Int.le_trans (size_in_f (k := k) (n := n) (s := s) (l := l) hp) (by omega)
  have hsz9 : (T.mk k n s l f).size ≤ 900 := by omega
  have hsz8 : (T.mk k n s l f).size ≤ 800 := by omega
  have hszk : (T.mk k n s l f).size ≤ 1000 := by omega
  have hsx : x.size ≤ 1000 := by omega
  have C := Lib.hid (get_any c k n s l f nm w2 iV hsf)
  have a0 := oA.cell (i := 0) rfl
  have a1 := oA.cell (i := 1) rfl
  have a2 := oA.cell (i := 2) rfl
  have a3 := oA.cell (i := 3) rfl
  have a4 := oA.cell (i := 4) rfl
  have HS := Lib.hid (And.intro hB (And.intro oA (And.intro oX (And.intro iV (iX)))))
  clear hB oA oX iV iX
  go_wp2_with fail
  clear a0 a1 a2 a3 a4
  obtain ⟨hB, oA, oX, iV, iX⟩ := HS.out
  clear HS
  refine C.out.mono ?_
  rintro e w3 ⟨c1, rfl, hb3, i9'⟩
  have i9 := i9'.is
  clear C i9'
  replace hB := below_all hB hb3
  replace oA := oA.all hb3
  replace oX := oX.all hb3
  replace iV := iV.all hb3
  replace iX := iX.all hb3
  clear hb3
  have o9 := Own.new w3 [.int .i64 c1.k, .int .i64 c1.n, sV c1.s, .slice c1.la c1.ln c1.lc, .slice c1.fa c1.fn c1.fc] 25
  have hbN := below_alloc w3 (.cells #[.int .i64 c1.k, .int .i64 c1.n, sV c1.s, .slice c1.la c1.ln c1.lc, .slice c1.fa c1.fn c1.fc] 25)
  replace hB := below_all hB hbN
  replace oA := oA.all hbN
  replace oX := oX.all hbN
  replace iV := iV.all hbN
  replace iX := iX.all hbN
  replace i9 := i9.all hbN
  clear hbN
  have HS := Lib.hid (And.intro hB (And.intro oA (And.intro oX (And.intro iV (And.intro iX (And.intro i9 (o9)))))))
  clear hB oA oX iV iX i9 o9
  go_upto_region 4 with (fail)
  change Code.wp Try.prog _ _ _ (w3.alloc (.cells #[.int .i64 c1.k, .int .i64 c1.n, sV c1.s, .slice c1.la c1.ln c1.lc, .slice c1.fa c1.fn c1.fc] 25))
  generalize (w3.alloc (.cells #[.int .i64 c1.k, .int .i64 c1.n, sV c1.s, .slice c1.la c1.ln c1.lc, .slice c1.fa c1.fn c1.fc] 25)) = V3 at *
  obtain ⟨hB, oA, oX, iV, iX, i9, o9⟩ := HS.out
  clear HS
  have C := Lib.hid (rget_any c k n s l f nm V3 iV hsf)
  have a0 := oA.cell (i := 0) rfl
  have a1 := oA.cell (i := 1) rfl
  have a2 := oA.cell (i := 2) rfl
  have a3 := oA.cell (i := 3) rfl
  have a4 := oA.cell (i := 4) rfl
  have HS := Lib.hid (And.intro hB (And.intro oA (And.intro oX (And.intro iV (And.intro iX (And.intro i9 (o9)))))))
  clear hB oA oX iV iX i9 o9
  go_wp2_with fail
  clear a0 a1 a2 a3 a4
  obtain ⟨hB, oA, oX, iV, iX, i9, o9⟩ := HS.out
  clear HS
  refine C.out.mono ?_
  rintro e w4 ⟨c2, rfl, hb4, i10'⟩
  have i10 := i10'.is
  clear C i10'
  replace hB := below_all hB hb4
  replace oA := oA.all hb4
  replace oX := oX.all hb4
  replace iV := iV.all hb4
  replace iX := iX.all hb4
  replace i9 := i9.all hb4
  replace o9 := o9.all hb4
  clear hb4
  have o10 := Own.new w4 [.int .i64 c2.k, .int .i64 c2.n, sV c2.s, .slice c2.la c2.ln c2.lc, .slice c2.fa c2.fn c2.fc] 25
  have hbN := below_alloc w4 (.cells #[.int .i64 c2.k, .int .i64 c2.n, sV c2.s, .slice c2.la c2.ln c2.lc, .slice c2.fa c2.fn c2.fc] 25)
  replace hB := below_all hB hbN
  replace oA := oA.all hbN
  replace oX := oX.all hbN
  replace iV := iV.all hbN
  replace iX := iX.all hbN
  replace i9 := i9.all hbN
  replace o9 := o9.all hbN
  replace i10 := i10.all hbN
  clear hbN
  have HS := Lib.hid (And.intro hB (And.intro oA (And.intro oX (And.intro iV (And.intro iX (And.intro i9 (And.intro o9 (And.intro i10 (o10)))))))))
  clear hB oA oX iV iX i9 o9 i10 o10
  go_upto_region 5 with (fail)
  change Code.wp Try.prog _ _ _ (w4.alloc (.cells #[.int .i64 c2.k, .int .i64 c2.n, sV c2.s, .slice c2.la c2.ln c2.lc, .slice c2.fa c2.fn c2.fc] 25))
  generalize (w4.alloc (.cells #[.int .i64 c2.k, .int .i64 c2.n, sV c2.s, .slice c2.la c2.ln c2.lc, .slice c2.fa c2.fn c2.fc] 25)) = V4 at *
  obtain ⟨hB, oA, oX, iV, iX, i9, o9, i10, o10⟩ := HS.out
  clear HS
  generalize getK k nm f = Q at *
  obtain ⟨B, hBq⟩ : ∃ B : Bool, Q.isSome = B := ⟨_, rfl⟩
  rw [hBq]
  clear hBq
  have p0 := cell_regrown (o9.cell (i := 0) rfl)
  have p1 := cell_regrown (o9.cell (i := 1) rfl)
  have p2 := cell_regrown (o9.cell (i := 2) rfl)
  have p3 := cell_regrown (o9.cell (i := 3) rfl)
  have p4 := cell_regrown (o9.cell (i := 4) rfl)
  have q0 := cell_regrown (o10.cell (i := 0) rfl)
  have q1 := cell_regrown (o10.cell (i := 1) rfl)
  have q2 := cell_regrown (o10.cell (i := 2) rfl)
  have q3 := cell_regrown (o10.cell (i := 3) rfl)
  have q4 := cell_regrown (o10.cell (i := 4) rfl)
  have a0 := cell_regrown (oA.cell (i := 0) rfl)
  have a1 := cell_regrown (oA.cell (i := 1) rfl)
  have a2 := cell_regrown (oA.cell (i := 2) rfl)
  have a3 := cell_regrown (oA.cell (i := 3) rfl)
  have a4 := cell_regrown (oA.cell (i := 4) rfl)
  have r0 := cell_regrown (oX.cell (i := 0) rfl)
  have r1 := cell_regrown (oX.cell (i := 1) rfl)
  have r2 := cell_regrown (oX.cell (i := 2) rfl)
  have r3 := cell_regrown (oX.cell (i := 3) rfl)
  have r4 := cell_regrown (oX.cell (i := 4) rfl)
  have HS := Lib.hid (And.intro hB (And.intro oA (And.intro oX (And.intro iV (And.intro iX (And.intro i9 (And.intro o9 (And.intro i10 (o10)))))))))
  clear hB oA oX iV iX i9 o9 i10 o10
  refine Dep.wp_region_multi 31 (fun i => i == 2 || i == 12 || i == 16 || i == 17 || i == 22 || i == 25 || i == 26 || i == 29)
    (fun i _ u w' => FV k nm f x (.mk k n s l f) i u w') FS (fun i => if i = 17 then [12, 16] else if i = 26 then [22, 25] else []) (by kernel_rfl) (by kernel_rfl) (by kernel_rfl)
    (fun i xs u w1 w2 h hb => FV.up h hb)
    (fun i => by
      unfold FS; split
      · exact ⟨VC0.val, VC0, rfl⟩
      · exact ⟨_, rfl⟩) ?_
  simp only [List.take_succ_cons, List.take_zero, List.drop_succ_cons, List.drop_zero]
  refine Dep.wpM_stretch 2 rfl rfl rfl rfl ?_
  simp only [List.take_succ_cons, List.take_zero, List.drop_succ_cons, List.drop_zero]
  repeat (first | go_big_quiet_step (fail) | quiet_step (fail))
  refine wpQuiet_nil ?_
  refine Dep.wpM_dem rfl rfl rfl ?_ ?_
  · rintro _ ⟨pp, rfl⟩ hd
    go_simp
    simp only [demUpon]
    obtain ⟨hB, oA, oX, iV, iX, i9, o9, i10, o10⟩ := HS.out
    clear HS
    refine ⟨trivial, (eqv_true rfl (i9.all (below_regrown V4 pp.d pp.os)) (i10.all (below_regrown V4 pp.d pp.os))).mono ?_⟩
    rintro e wA ⟨rfl, hbA⟩
    exact ⟨_, rfl, rfl, hbA, trivial⟩
  · rintro u hu
    obtain rfl : u = .bool true := hu
    try clear hu
    refine Dep.wpM_stretch 9 rfl rfl rfl rfl ?_
    simp only [List.take_succ_cons, List.take_zero, List.drop_succ_cons, List.drop_zero]
    repeat (first | go_big_quiet_step (fail) | quiet_step (fail))
    refine wpQuiet_nil ?_
    refine Dep.wpM_dem rfl rfl rfl ?_ ?_
    · rintro _ ⟨pp, rfl⟩ hd
      go_simp
      simp only [demUpon]
      obtain ⟨hB, oA, oX, iV, iX, i9, o9, i10, o10⟩ := HS.out
      clear HS
      refine ⟨trivial, (with_any c cx k n s l f nm x _ (iV.all (below_regrown V4 pp.d pp.os)) (iX.all (below_regrown V4 pp.d pp.os)) hsz9 hsx).mono ?_⟩
      rintro e wA ⟨c', M, rfl, hbA, hN, hM⟩
      exact ⟨_, rfl, ⟨c', rfl⟩, hbA, c', M, rfl, hN.is, hM⟩
    · rintro u hu
      obtain ⟨d1, rfl⟩ : ∃ c' : VC, u = c'.val := hu
      try clear hu
      refine Dep.wpM_stretch 3 rfl rfl rfl rfl ?_
      simp only [List.take_succ_cons, List.take_zero, List.drop_succ_cons, List.drop_zero]
      repeat (first | go_big_quiet_step (fail) | quiet_step (fail))
      refine wpQuiet_nil ?_
      refine Dep.wpM_dem rfl rfl rfl ?_ ?_
      · rintro _ ⟨pp, rfl⟩ hd
        go_simp
        simp only [demUpon]
        obtain ⟨hB, oA, oX, iV, iX, i9, o9, i10, o10⟩ := HS.out
        clear HS
        refine ⟨trivial, (rwith_any c cx k n s l f nm x _ (iV.all (below_regrown V4 pp.d pp.os)) (iX.all (below_regrown V4 pp.d pp.os)) hsz8 hsx).mono ?_⟩
        rintro e wA ⟨c', M, rfl, hbA, hN, hM⟩
        exact ⟨_, rfl, ⟨c', rfl⟩, hbA, c', M, rfl, hN.is, hM⟩
      · rintro u hu
        obtain ⟨d2, rfl⟩ : ∃ c' : VC, u = c'.val := hu
        try clear hu
        refine Dep.wpM_dem rfl rfl rfl ?_ ?_
        · rintro _ ⟨pp, rfl⟩ hd
          go_simp
          simp only [demUpon]
          obtain ⟨hB, oA, oX, iV, iX, i9, o9, i10, o10⟩ := HS.out
          clear HS
          obtain ⟨e1, t1, he1, hI1, hW1⟩ := (show FV k nm f x (.mk k n s l f) 12 d1.val (grow (redrawn V4 pp.d) pp.os) from hd 12 (by decide))
          obtain ⟨e2, t2, he2, hI2, hW2⟩ := (show FV k nm f x (.mk k n s l f) 16 d2.val (grow (redrawn V4 pp.d) pp.os) from hd 16 (by decide))
          obtain rfl := VC.val_inj he1
          obtain rfl := VC.val_inj he2
          refine ⟨trivial, (eqv_true (by rw [hW1.unique hW2]) hI1 hI2).mono ?_⟩
          rintro e wA ⟨rfl, hbA⟩
          exact ⟨_, rfl, rfl, hbA, trivial⟩
        · rintro u hu
          obtain rfl : u = .bool true := hu
          try clear hu
          refine Dep.wpM_stretch 4 rfl rfl rfl rfl ?_
          simp only [List.take_succ_cons, List.take_zero, List.drop_succ_cons, List.drop_zero]
          repeat (first | go_big_quiet_step (fail) | quiet_step (fail))
          refine wpQuiet_nil ?_
          refine Dep.wpM_dem rfl rfl rfl ?_ ?_
          · rintro _ ⟨pp, rfl⟩ hd
            go_simp
            simp only [demUpon]
            obtain ⟨hB, oA, oX, iV, iX, i9, o9, i10, o10⟩ := HS.out
            clear HS
            refine ⟨trivial, (without_any c k n s l f nm _ (iV.all (below_regrown V4 pp.d pp.os)) hszk).mono ?_⟩
            rintro e wA ⟨c', t', rfl, hbA, hN, hW⟩
            exact ⟨_, rfl, ⟨c', rfl⟩, hbA, c', t', rfl, hN.is, hW⟩
          · rintro u hu
            obtain ⟨d3, rfl⟩ : ∃ c' : VC, u = c'.val := hu
            try clear hu
            refine Dep.wpM_stretch 2 rfl rfl rfl rfl ?_
            simp only [List.take_succ_cons, List.take_zero, List.drop_succ_cons, List.drop_zero]
            repeat (first | go_big_quiet_step (fail) | quiet_step (fail))
            refine wpQuiet_nil ?_
            refine Dep.wpM_dem rfl rfl rfl ?_ ?_
            · rintro _ ⟨pp, rfl⟩ hd
              go_simp
              simp only [demUpon]
              obtain ⟨hB, oA, oX, iV, iX, i9, o9, i10, o10⟩ := HS.out
              clear HS
              refine ⟨trivial, (rwithout_any c k n s l f nm _ (iV.all (below_regrown V4 pp.d pp.os)) hsz9).mono ?_⟩
              rintro e wA ⟨c', t', rfl, hbA, hN, hW⟩
              exact ⟨_, rfl, ⟨c', rfl⟩, hbA, c', t', rfl, hN.is, hW⟩
            · rintro u hu
              obtain ⟨d4, rfl⟩ : ∃ c' : VC, u = c'.val := hu
              try clear hu
              refine Dep.wpM_dem rfl rfl rfl ?_ ?_
              · rintro _ ⟨pp, rfl⟩ hd
                go_simp
                simp only [demUpon]
                obtain ⟨hB, oA, oX, iV, iX, i9, o9, i10, o10⟩ := HS.out
                clear HS
                obtain ⟨e1, t1, he1, hI1, hW1⟩ := (show FV k nm f x (.mk k n s l f) 22 d3.val (grow (redrawn V4 pp.d) pp.os) from hd 22 (by decide))
                obtain ⟨e2, t2, he2, hI2, hW2⟩ := (show FV k nm f x (.mk k n s l f) 25 d4.val (grow (redrawn V4 pp.d) pp.os) from hd 25 (by decide))
                obtain rfl := VC.val_inj he1
                obtain rfl := VC.val_inj he2
                refine ⟨trivial, (eqv_true (hW1.unique hW2) hI1 hI2).mono ?_⟩
                rintro e wA ⟨rfl, hbA⟩
                exact ⟨_, rfl, rfl, hbA, trivial⟩
              · rintro u hu
                obtain rfl : u = .bool true := hu
                try clear hu
                refine Dep.wpM_stretch 2 rfl rfl rfl rfl ?_
                simp only [List.take_succ_cons, List.take_zero, List.drop_succ_cons, List.drop_zero]
                repeat (first | go_big_quiet_step (fail) | quiet_step (fail))
                refine wpQuiet_nil ?_
                refine Dep.wpM_dem rfl rfl rfl ?_ ?_
                · rintro _ ⟨pp, rfl⟩ hd
                  go_simp
                  simp only [demUpon]
                  obtain ⟨hB, oA, oX, iV, iX, i9, o9, i10, o10⟩ := HS.out
                  clear HS
                  refine ⟨trivial, (awake_any _).mono ?_⟩
                  rintro e wA ⟨rfl, hbA⟩
                  exact ⟨_, rfl, rfl, hbA, trivial⟩
                · rintro u hu
                  obtain rfl : u = .bool true := hu
                  try clear hu
                  refine Dep.wpM_stretch 1 rfl rfl rfl rfl ?_
                  simp only [List.take_succ_cons, List.take_zero, List.drop_succ_cons, List.drop_zero]
                  repeat (first | go_big_quiet_step (fail) | quiet_step (fail))
                  refine wpQuiet_nil ?_
                  refine Dep.wpM_end ?_
                  rintro U hbU -
                  clear p0 p1 p2 p3 p4 q0 q1 q2 q3 q4 a0 a1 a2 a3 a4 r0 r1 r2 r3 r4
                  obtain ⟨hB, oA, oX, iV, iX, i9, o9, i10, o10⟩ := HS.out
                  clear HS
                  replace hB := below_all hB hbU
                  clear hbU oA oX iV iX i9 o9 i10 o10
                  go_wp2
                  go_ret
                  exact ⟨rfl, hB⟩
end Go.Proofs.Ytmmembmohkideaa
