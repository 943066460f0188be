/- The walk of ValueMaps. -/
import Derived.Test.YtmmembmohkideaaCg
import Derived.Test.YtmmembmohkideaaMv
import Derived.Test.YtmmembmohkideaaWy
namespace Go.Proofs.Ytmmembmohkideaa
open Go.RowKit Go.Sort Go.Proofs.LawFrame

theorem rb_out {w w' : World} {P : Prop} {e : Ending} (h : RB w P e w') : ∃ r : Bool, e = .returned (.bool r) ∧ Below w.heap.size w w' ∧ (r = true → P) := by
  obtain ⟨r, h1, h2, h3⟩ := h.out
  exact ⟨r, h1, h2, fun e => h3.1 e⟩
theorem eq_true {t t' : T} (h : t = t') {c d : VC} {w : World} (hI : Is w c t) (hJ : Is w d t') : Calls Try.prog 20 #[c.val, d.val] w fun e w' => e = .returned (.bool true) ∧ Below w.heap.size w w' := by
  subst h
  have := requal_any t t c d w hI hJ
  rw [cmpT_refl] at this
  exact this
theorem getK_map (nm : Str) (f : List (Str × T)) : getK 5 nm f = look nm f := if_pos rfl
theorem othK_map (nm : Str) (f : List (Str × T)) : othK 5 nm f = oth nm f := if_pos rfl

set_option maxHeartbeats 16000000 in
set_option maxRecDepth 4000 in
theorem maps_walk (c cx : VC) (nm o : Str) (t x : T) (w : World) (iV : Is w c t) (iX : Is w cx x) :
    Calls Try.prog 8 #[.agg #[.int .i64 c.k, .int .i64 c.n, sV c.s, .slice c.la c.ln c.lc, .slice c.fa c.fn c.fc], sV nm, sV o, .agg #[.int .i64 cx.k, .int .i64 cx.n, sV cx.s, .slice cx.la cx.ln cx.lc, .slice cx.fa cx.fn cx.fc]] w fun e w' => e = .returned (.bool true) ∧ Below w.heap.size w w' := by
  have hB : Below w.heap.size w ((w.alloc (.cells #[.int .i64 c.k, .int .i64 c.n, sV c.s, .slice c.la c.ln c.lc, .slice c.fa c.fn c.fc] 25)).alloc (.cells #[.int .i64 cx.k, .int .i64 cx.n, sV cx.s, .slice cx.la cx.ln cx.lc, .slice cx.fa cx.fn cx.fc] 25)) := ((Below.refl _ _).alloc (Nat.le_refl _) _).alloc (by simp) _
  have oA : Own ((w.alloc (.cells #[.int .i64 c.k, .int .i64 c.n, sV c.s, .slice c.la c.ln c.lc, .slice c.fa c.fn c.fc] 25)).alloc (.cells #[.int .i64 cx.k, .int .i64 cx.n, sV cx.s, .slice cx.la cx.ln cx.lc, .slice cx.fa cx.fn cx.fc] 25)) w.heap.size [.int .i64 c.k, .int .i64 c.n, sV c.s, .slice c.la c.ln c.lc, .slice c.fa c.fn c.fc] 25 := (Own.new _ _ _).alloc _
  have oX : Own ((w.alloc (.cells #[.int .i64 c.k, .int .i64 c.n, sV c.s, .slice c.la c.ln c.lc, .slice c.fa c.fn c.fc] 25)).alloc (.cells #[.int .i64 cx.k, .int .i64 cx.n, sV cx.s, .slice cx.la cx.ln cx.lc, .slice cx.fa cx.fn cx.fc] 25)) (w.heap.size + 1) [.int .i64 cx.k, .int .i64 cx.n, sV cx.s, .slice cx.la cx.ln cx.lc, .slice cx.fa cx.fn cx.fc] 25 := Own.new_at (by rw [size_alloc]) _ _
  replace iV := iV.all hB
  replace iX := iX.all hB
  have a0 := oA.cell (i := 0) rfl
  have a1 := oA.cell (i := 1) rfl
  have a2 := oA.cell (i := 2) rfl
  have a3 := oA.cell (i := 3) rfl
  have a4 := oA.cell (i := 4) rfl
  have HS := Lib.hid (And.intro hB (And.intro oA (And.intro oX (And.intro iV (iX)))))
  clear hB oA oX iV iX
  go_enter Try.func8, Try.ntmps8
  go_wp2_with fail
  clear a0 a1 a2 a3 a4
  generalize ((w.alloc (.cells #[.int .i64 c.k, .int .i64 c.n, sV c.s, .slice c.la c.ln c.lc, .slice c.fa c.fn c.fc] 25)).alloc (.cells #[.int .i64 cx.k, .int .i64 cx.n, sV cx.s, .slice cx.la cx.ln cx.lc, .slice cx.fa cx.fn cx.fc] 25)) = V at *
  obtain ⟨hB, oA, oX, iV, iX⟩ := HS.out
  clear HS
  refine (small_any t c V iV).mono ?_
  rintro e w1 ⟨r1, rfl, hb1, hr1⟩
  replace hB := below_all hB hb1
  replace oA := oA.all hb1
  replace oX := oX.all hb1
  replace iV := iV.all hb1
  replace iX := iX.all hb1
  clear hb1
  cases r1 with
  | false =>
    clear oA oX iV iX hr1
    go_wp2_with fail
    refine (awake_any _).mono ?_
    rintro e wz ⟨rfl, hbz⟩
    go_wp2
    go_ret
    exact ⟨rfl, below_all hB hbz⟩
  | true =>
  obtain ⟨hz1, -⟩ := hr1 rfl
  clear hr1
  have a0 := oX.cell (i := 0) rfl
  have a1 := oX.cell (i := 1) rfl
  have a2 := oX.cell (i := 2) rfl
  have a3 := oX.cell (i := 3) rfl
  have a4 := oX.cell (i := 4) rfl
  have HS := Lib.hid (And.intro hB (And.intro oA (And.intro oX (And.intro iV (iX)))))
  clear hB oA oX iV iX
  go_wp2_with fail
  clear a0 a1 a2 a3 a4
  obtain ⟨hB, oA, oX, iV, iX⟩ := HS.out
  clear HS
  refine (small_any x cx w1 iX).mono ?_
  rintro e w2 ⟨r2, rfl, hb2, hr2⟩
  replace hB := below_all hB hb2
  replace oA := oA.all hb2
  replace oX := oX.all hb2
  replace iV := iV.all hb2
  replace iX := iX.all hb2
  clear hb2
  cases r2 with
  | false =>
    clear oA oX iV iX hr2
    go_wp2_with fail
    refine (awake_any _).mono ?_
    rintro e wz ⟨rfl, hbz⟩
    go_wp2
    go_ret
    exact ⟨rfl, below_all hB hbz⟩
  | true =>
  obtain ⟨hz2, -⟩ := hr2 rfl
  clear hr2
  by_cases hl1 : 200 < nm.length
  · clear oA oX iV iX
    go_wp2_with fail
    refine (awake_any _).mono ?_
    rintro e wz ⟨rfl, hbz⟩
    go_wp2
    go_ret
    exact ⟨rfl, below_all hB hbz⟩
  by_cases hl2 : 200 < o.length
  · clear oA oX iV iX
    go_wp2_with fail
    refine (awake_any _).mono ?_
    rintro e wz ⟨rfl, hbz⟩
    go_wp2
    go_ret
    exact ⟨rfl, below_all hB hbz⟩
  have a0 := oA.cell (i := 0) rfl
  have a1 := oA.cell (i := 1) rfl
  have a2 := oA.cell (i := 2) rfl
  have a3 := oA.cell (i := 3) rfl
  have a4 := oA.cell (i := 4) rfl
  have HS := Lib.hid (And.intro hB (And.intro oA (And.intro oX (And.intro iV (iX)))))
  clear hB oA oX iV iX
  go_wp2_with fail
  clear a0 a1 a2 a3 a4
  obtain ⟨hB, oA, oX, iV, iX⟩ := HS.out
  clear HS
  refine (valid_any t c w2 iV).mono ?_
  rintro e w3 hRB
  obtain ⟨r3, rfl, hb3, hr3⟩ := rb_out hRB
  replace hB := below_all hB hb3
  replace oA := oA.all hb3
  replace oX := oX.all hb3
  replace iV := iV.all hb3
  replace iX := iX.all hb3
  clear hb3 hRB
  cases r3 with
  | false =>
    clear oA oX iV iX hr3
    go_wp2_with fail
    refine (awake_any _).mono ?_
    rintro e wz ⟨rfl, hbz⟩
    go_wp2
    go_ret
    exact ⟨rfl, below_all hB hbz⟩
  | true =>
  have hval := (hr3 rfl).1
  clear hr3
  have a0 := oA.cell (i := 0) rfl
  by_cases h5 : c.k = 5
  case neg =>
    have hne : (c.k != 5) = true := by simpa using h5
    clear oA oX iV iX hval h5
    go_wp2_with fail
    refine (awake_any _).mono ?_
    rintro e wz ⟨rfl, hbz⟩
    go_wp2
    go_ret
    exact ⟨rfl, below_all hB hbz⟩
  have hne : (c.k != 5) = false := by simpa using h5
  obtain ⟨k, n, s, l, f⟩ := t
  obtain ⟨hk, -, -⟩ := iV.same
  have hf : k = 5 ∧ n = 0 ∧ s = [] ∧ l = [] ∧ SSrt f := by
    have hk5 : k = 5 := hk.symm.trans h5
    obtain ⟨h1, h2, h3, h4, h6, h7, -, -⟩ := hval
    refine ⟨hk5, ?_, ?_, ?_, ssrt_of_nm h7⟩
    · rcases h1 with h | h | h | h <;> omega
    · rcases h1 with ⟨h, -⟩ | ⟨h, -⟩ | ⟨h, -⟩ | h
      · omega
      · omega
      · omega
      · exact h.2.2
    · rcases h4 with h | h
      · omega
      · exact List.eq_nil_of_length_eq_zero h
  obtain ⟨rfl, rfl, rfl, rfl, hsr⟩ := hf
  clear hval hk h5
  have HSR := Lib.hid hsr
  clear hsr
  have C := Lib.hid (with_any c cx 5 0 [] [] f nm x w3 iV iX (by omega) (by omega))
  have a1 := oA.cell (i := 1) rfl
  have a2 := oA.cell (i := 2) rfl
  have a3 := oA.cell (i := 3) rfl
  have a4 := oA.cell (i := 4) rfl
  have b0 := oX.cell (i := 0) rfl
  have b1 := oX.cell (i := 1) rfl
  have b2 := oX.cell (i := 2) rfl
  have b3 := oX.cell (i := 3) rfl
  have b4 := oX.cell (i := 4) rfl
  have HS := Lib.hid (And.intro hB (And.intro oA (And.intro oX (And.intro iV (iX)))))
  clear hB oA oX iV iX
  go_wp2_with fail
  clear a0 a1 a2 a3 a4 b0 b1 b2 b3 b4
  obtain ⟨hB, oA, oX, iV, iX⟩ := HS.out
  clear HS
  refine C.out.mono ?_
  rintro e w4 ⟨c1, M1, rfl, hb4, i9', hM1⟩
  rw [othK_map] at hM1
  have i9 := i9'.is
  clear C i9'
  replace hB := below_all hB hb4
  replace oA := oA.all hb4
  replace oX := oX.all hb4
  replace iV := iV.all hb4
  replace iX := iX.all hb4
  clear hb4
  have o9 := Own.new w4 [.int .i64 c1.k, .int .i64 c1.n, sV c1.s, .slice c1.la c1.ln c1.lc, .slice c1.fa c1.fn c1.fc] 25
  have hbN := below_alloc w4 (.cells #[.int .i64 c1.k, .int .i64 c1.n, sV c1.s, .slice c1.la c1.ln c1.lc, .slice c1.fa c1.fn c1.fc] 25)
  replace hB := below_all hB hbN
  replace oA := oA.all hbN
  replace oX := oX.all hbN
  replace iV := iV.all hbN
  replace iX := iX.all hbN
  replace i9 := i9.all hbN
  clear hbN
  have HS := Lib.hid (And.intro hB (And.intro oA (And.intro oX (And.intro iV (And.intro iX (And.intro i9 (o9)))))))
  clear hB oA oX iV iX i9 o9
  go_upto_region 4 with (fail)
  change Code.wp Try.prog _ _ _ (w4.alloc (.cells #[.int .i64 c1.k, .int .i64 c1.n, sV c1.s, .slice c1.la c1.ln c1.lc, .slice c1.fa c1.fn c1.fc] 25))
  generalize (w4.alloc (.cells #[.int .i64 c1.k, .int .i64 c1.n, sV c1.s, .slice c1.la c1.ln c1.lc, .slice c1.fa c1.fn c1.fc] 25)) = V4 at *
  obtain ⟨hB, oA, oX, iV, iX, i9, o9⟩ := HS.out
  clear HS
  have hs1 : (T.mk 5 0 [] [] M1).size ≤ 900 := by
    have h1 := hM1.size.1
    rw [sizeF_append] at h1
    have h2 := oth_size nm f
    simp [T.size, sizeL, sizeF] at hz1 h1 ⊢
    omega
  have hsm : ∀ p ∈ M1, p.2.size ≤ 1000 := fun p hp => Int.le_trans (size_in_f (k := 5) (n := 0) (s := []) (l := []) hp) (by omega)
  have hsf : ∀ p ∈ f, p.2.size ≤ 1000 := fun p hp => Int.le_trans (size_in_f (k := 5) (n := 0) (s := []) (l := []) hp) (by omega)
  have HM := Lib.hid hM1
  clear hM1
  have C := Lib.hid (get_any c1 5 0 [] [] M1 nm V4 i9 hsm)
  rw [getK_map, law_found HM.out] at C
  have a0 := o9.cell (i := 0) rfl
  have a1 := o9.cell (i := 1) rfl
  have a2 := o9.cell (i := 2) rfl
  have a3 := o9.cell (i := 3) rfl
  have a4 := o9.cell (i := 4) rfl
  have HS := Lib.hid (And.intro hB (And.intro oA (And.intro oX (And.intro iV (And.intro iX (And.intro i9 (o9)))))))
  clear hB oA oX iV iX i9 o9
  go_wp2_with fail
  clear a0 a1 a2 a3 a4
  obtain ⟨hB, oA, oX, iV, iX, i9, o9⟩ := HS.out
  clear HS
  refine C.out.mono ?_
  rintro e w5 ⟨c2, rfl, hb5, i10'⟩
  have i10 : Is w5 c2 x := i10'.is
  clear C i10'
  replace hB := below_all hB hb5
  replace oA := oA.all hb5
  replace oX := oX.all hb5
  replace iV := iV.all hb5
  replace iX := iX.all hb5
  replace i9 := i9.all hb5
  replace o9 := o9.all hb5
  clear hb5
  have o10 := Own.new w5 [.int .i64 c2.k, .int .i64 c2.n, sV c2.s, .slice c2.la c2.ln c2.lc, .slice c2.fa c2.fn c2.fc] 25
  have hbN := below_alloc w5 (.cells #[.int .i64 c2.k, .int .i64 c2.n, sV c2.s, .slice c2.la c2.ln c2.lc, .slice c2.fa c2.fn c2.fc] 25)
  replace hB := below_all hB hbN
  replace oA := oA.all hbN
  replace oX := oX.all hbN
  replace iV := iV.all hbN
  replace iX := iX.all hbN
  replace i9 := i9.all hbN
  replace o9 := o9.all hbN
  replace i10 := i10.all hbN
  clear hbN
  have HS := Lib.hid (And.intro hB (And.intro oA (And.intro oX (And.intro iV (And.intro iX (And.intro i9 (And.intro o9 (And.intro i10 (o10)))))))))
  clear hB oA oX iV iX i9 o9 i10 o10
  go_upto_region 5 with (fail)
  change Code.wp Try.prog _ _ _ (w5.alloc (.cells #[.int .i64 c2.k, .int .i64 c2.n, sV c2.s, .slice c2.la c2.ln c2.lc, .slice c2.fa c2.fn c2.fc] 25))
  generalize (w5.alloc (.cells #[.int .i64 c2.k, .int .i64 c2.n, sV c2.s, .slice c2.la c2.ln c2.lc, .slice c2.fa c2.fn c2.fc] 25)) = V5 at *
  obtain ⟨hB, oA, oX, iV, iX, i9, o9, i10, o10⟩ := HS.out
  clear HS
  have p0 := cell_regrown (o10.cell (i := 0) rfl)
  have p1 := cell_regrown (o10.cell (i := 1) rfl)
  have p2 := cell_regrown (o10.cell (i := 2) rfl)
  have p3 := cell_regrown (o10.cell (i := 3) rfl)
  have p4 := cell_regrown (o10.cell (i := 4) rfl)
  have q0 := cell_regrown (oX.cell (i := 0) rfl)
  have q1 := cell_regrown (oX.cell (i := 1) rfl)
  have q2 := cell_regrown (oX.cell (i := 2) rfl)
  have q3 := cell_regrown (oX.cell (i := 3) rfl)
  have q4 := cell_regrown (oX.cell (i := 4) rfl)
  have r0 := cell_regrown (o9.cell (i := 0) rfl)
  have r1 := cell_regrown (o9.cell (i := 1) rfl)
  have r2 := cell_regrown (o9.cell (i := 2) rfl)
  have r3 := cell_regrown (o9.cell (i := 3) rfl)
  have r4 := cell_regrown (o9.cell (i := 4) rfl)
  have a0 := cell_regrown (oA.cell (i := 0) rfl)
  have a1 := cell_regrown (oA.cell (i := 1) rfl)
  have a2 := cell_regrown (oA.cell (i := 2) rfl)
  have a3 := cell_regrown (oA.cell (i := 3) rfl)
  have a4 := cell_regrown (oA.cell (i := 4) rfl)
  have HS := Lib.hid (And.intro hB (And.intro oA (And.intro oX (And.intro iV (And.intro iX (And.intro i9 (And.intro o9 (And.intro i10 (o10)))))))))
  clear hB oA oX iV iX i9 o9 i10 o10
  refine wp_region_multi 15 (fun i => i == 5 || i == 11 || i == 14)
    (fun i _ u w' => (i = 11 → ∃ (c' : VC) (M : List (Str × T)), u = c'.val ∧ Is w' c' (.mk 5 0 [] [] M) ∧ MapOf (oth nm M1) M) ∧ (i = 14 → ∃ (c' : VC) (M : List (Str × T)), u = c'.val ∧ Is w' c' (.mk 5 0 [] [] M) ∧ MapOf (oth nm f) M))
    (fun i u => (i = 5 → u = .bool true) ∧ (i = 11 → ∃ c' : VC, u = c'.val) ∧ (i = 14 → ∃ c' : VC, u = c'.val)) (by kernel_rfl) (by kernel_rfl)
    (fun i xs u w1 w2 h hb => ⟨fun e => by obtain ⟨c', M, a1, a2, a3⟩ := h.1 e; exact ⟨c', M, a1, a2.all hb, a3⟩, fun e => by obtain ⟨c', M, a1, a2, a3⟩ := h.2 e; exact ⟨c', M, a1, a2.all hb, a3⟩⟩)
    (fun i => by
      by_cases e : i = 5
      · exact ⟨.bool true, fun _ => rfl, fun e' => by omega, fun e' => by omega⟩
      · exact ⟨VC0.val, fun e' => absurd e' e, fun _ => ⟨VC0, rfl⟩, fun _ => ⟨VC0, rfl⟩⟩) ?_
  simp only [List.take_succ_cons, List.take_zero, List.drop_succ_cons, List.drop_zero]
  refine wpM_stretch 5 rfl rfl rfl rfl ?_
  simp only [List.take_succ_cons, List.take_zero, List.drop_succ_cons, List.drop_zero]
  repeat (first | go_big_quiet_step (fail) | quiet_step (fail))
  refine wpQuiet_nil ?_
  refine wpM_dem rfl rfl rfl ?_ ?_
  · rintro _ ⟨pp, rfl⟩
    go_simp
    simp only [demUpon]
    obtain ⟨hB, oA, oX, iV, iX, i9, o9, i10, o10⟩ := HS.out
    clear HS
    refine ⟨trivial, (eq_true rfl (i10.all (below_regrown V5 pp.d pp.os)) (iX.all (below_regrown V5 pp.d pp.os))).mono ?_⟩
    rintro e w6 ⟨rfl, hb6⟩
    exact ⟨_, rfl, rfl, hb6, trivial⟩
  · rintro u hu
    obtain rfl := hu.1 rfl
    clear hu
    refine wpM_stretch 5 rfl rfl rfl rfl ?_
    simp only [List.take_succ_cons, List.take_zero, List.drop_succ_cons, List.drop_zero]
    repeat (first | go_big_quiet_step (fail) | quiet_step (fail))
    refine wpQuiet_nil ?_
    refine wpM_dem rfl rfl rfl ?_ ?_
    · rintro _ ⟨pp, rfl⟩
      go_simp
      simp only [demUpon]
      obtain ⟨hB, oA, oX, iV, iX, i9, o9, i10, o10⟩ := HS.out
      clear HS
      refine ⟨trivial, (without_any c1 5 0 [] [] M1 nm _ (i9.all (below_regrown V5 pp.d pp.os)) (by omega)).mono ?_⟩
      rintro e w6 ⟨c', t', rfl, hb6, hN, hW⟩
      obtain ⟨M, rfl, hM⟩ := hW.map rfl
      exact ⟨_, rfl, ⟨c', rfl⟩, hb6, c', rfl, M, hN.is, hM⟩
    · rintro u hu
      obtain ⟨d1, rfl⟩ := hu.2.1 rfl
      clear hu
      refine wpM_stretch 2 rfl rfl rfl rfl ?_
      simp only [List.take_succ_cons, List.take_zero, List.drop_succ_cons, List.drop_zero]
      repeat (first | go_big_quiet_step (fail) | quiet_step (fail))
      refine wpQuiet_nil ?_
      refine wpM_dem rfl rfl rfl ?_ ?_
      · rintro _ ⟨pp, rfl⟩
        go_simp
        simp only [demUpon]
        obtain ⟨hB, oA, oX, iV, iX, i9, o9, i10, o10⟩ := HS.out
        clear HS
        refine ⟨trivial, (without_any c 5 0 [] [] f nm _ (iV.all (below_regrown V5 pp.d pp.os)) (by omega)).mono ?_⟩
        rintro e w6 ⟨c', t', rfl, hb6, hN, hW⟩
        obtain ⟨M, rfl, hM⟩ := hW.map rfl
        exact ⟨_, rfl, ⟨c', rfl⟩, hb6, c', rfl, M, hN.is, hM⟩
      · rintro u hu
        obtain ⟨d2, rfl⟩ := hu.2.2 rfl
        clear hu
        refine wpM_end ?_
        rintro U hbU ⟨⟨⟨-, -⟩, hV1⟩, hV2⟩
        obtain ⟨e1, M2, he1, hI2, hM2⟩ := hV1.1 (by first | rfl | trivial)
        obtain ⟨e2, M3, he2, hI3, hM3⟩ := hV2.2 (by first | rfl | trivial)
        obtain rfl := VC.val_inj he1
        obtain rfl := VC.val_inj he2
        obtain rfl := law_without HM.out hM2 hM3
        clear hV1 hV2 he1 he2 hM2 hM3
        clear p0 p1 p2 p3 p4 q0 q1 q2 q3 q4 r0 r1 r2 r3 r4 a0 a1 a2 a3 a4
        obtain ⟨hB, oA, oX, iV, iX, i9, o9, i10, o10⟩ := HS.out
        clear HS
        replace hB := below_all hB hbU
        replace oA := oA.all hbU
        replace oX := oX.all hbU
        replace iV := iV.all hbU
        replace iX := iX.all hbU
        replace i9 := i9.all hbU
        replace o9 := o9.all hbU
        replace i10 := i10.all hbU
        replace o10 := o10.all hbU
        clear hbU
        have HS := Lib.hid (And.intro hB (And.intro oA (And.intro oX (And.intro iV (And.intro iX (And.intro i9 (And.intro o9 (And.intro i10 (o10)))))))))
        clear hB oA oX iV iX i9 o9 i10 o10
        have CE := Lib.hid (eq_true rfl hI2 hI3)
        clear hI2 hI3
        go_wp2_with fail
        refine CE.out.mono ?_
        rintro e w6 ⟨rfl, hb6⟩
        clear CE
        obtain ⟨hB, oA, oX, iV, iX, i9, o9, i10, o10⟩ := HS.out
        clear HS
        replace hB := below_all hB hb6
        replace oA := oA.all hb6
        replace oX := oX.all hb6
        replace iV := iV.all hb6
        replace iX := iX.all hb6
        replace i9 := i9.all hb6
        replace o9 := o9.all hb6
        replace i10 := i10.all hb6
        replace o10 := o10.all hb6
        clear hb6
        have C := Lib.hid (without_any c 5 0 [] [] f nm w6 iV (by omega))
        have a0 := oA.cell (i := 0) rfl
        have a1 := oA.cell (i := 1) rfl
        have a2 := oA.cell (i := 2) rfl
        have a3 := oA.cell (i := 3) rfl
        have a4 := oA.cell (i := 4) rfl
        have HS := Lib.hid (And.intro hB (And.intro oA (And.intro oX (And.intro iV (And.intro iX (And.intro i9 (And.intro o9 (And.intro i10 (o10)))))))))
        clear hB oA oX iV iX i9 o9 i10 o10
        go_wp2_with fail
        clear a0 a1 a2 a3 a4
        obtain ⟨hB, oA, oX, iV, iX, i9, o9, i10, o10⟩ := HS.out
        clear HS
        refine C.out.mono ?_
        rintro e w7 ⟨c3, t3, rfl, hb7, i11', hW⟩
        obtain ⟨M3, rfl, hM3⟩ := hW.map rfl
        have i11 := i11'.is
        clear C i11' hW
        replace hB := below_all hB hb7
        replace oA := oA.all hb7
        replace oX := oX.all hb7
        replace iV := iV.all hb7
        replace iX := iX.all hb7
        replace i9 := i9.all hb7
        replace o9 := o9.all hb7
        replace i10 := i10.all hb7
        replace o10 := o10.all hb7
        clear hb7
        have hs3 : ∀ p ∈ M3, p.2.size ≤ 1000 := fun p hp => hsf p (oth_mem (hM3.mem hp))
        have C := Lib.hid (get_any c3 5 0 [] [] M3 nm w7 i11 hs3)
        rw [getK_map, law_gone hM3] at C
        have HS := Lib.hid (And.intro hB (And.intro oA (And.intro oX (And.intro iV (And.intro iX (And.intro i9 (And.intro o9 (And.intro i10 (And.intro o10 (i11))))))))))
        clear hB oA oX iV iX i9 o9 i10 o10 i11
        go_wp2_with fail
        obtain ⟨hB, oA, oX, iV, iX, i9, o9, i10, o10, i11⟩ := HS.out
        clear HS
        refine C.out.mono ?_
        rintro e w8 ⟨c4, rfl, hb8, -⟩
        clear C hM3 hs3
        replace hB := below_all hB hb8
        replace oA := oA.all hb8
        replace oX := oX.all hb8
        replace iV := iV.all hb8
        replace iX := iX.all hb8
        replace i9 := i9.all hb8
        replace o9 := o9.all hb8
        replace i10 := i10.all hb8
        replace o10 := o10.all hb8
        replace i11 := i11.all hb8
        clear hb8
        have o12 := Own.new w8 [.int .i64 c4.k, .int .i64 c4.n, sV c4.s, .slice c4.la c4.ln c4.lc, .slice c4.fa c4.fn c4.fc] 25
        have hbN := below_alloc w8 (.cells #[.int .i64 c4.k, .int .i64 c4.n, sV c4.s, .slice c4.la c4.ln c4.lc, .slice c4.fa c4.fn c4.fc] 25)
        replace hB := below_all hB hbN
        replace oA := oA.all hbN
        replace oX := oX.all hbN
        replace iV := iV.all hbN
        replace iX := iX.all hbN
        replace i9 := i9.all hbN
        replace o9 := o9.all hbN
        replace i10 := i10.all hbN
        replace o10 := o10.all hbN
        replace i11 := i11.all hbN
        clear hbN
        have HS := Lib.hid (And.intro hB (And.intro oA (And.intro oX (And.intro iV (And.intro iX (And.intro i9 (And.intro o9 (And.intro i10 (And.intro o10 (And.intro i11 (o12)))))))))))
        clear hB oA oX iV iX i9 o9 i10 o10 i11 o12
        go_upto_region 8 with (fail)
        change Code.wp Try.prog _ _ _ (w8.alloc (.cells #[.int .i64 c4.k, .int .i64 c4.n, sV c4.s, .slice c4.la c4.ln c4.lc, .slice c4.fa c4.fn c4.fc] 25))
        generalize (w8.alloc (.cells #[.int .i64 c4.k, .int .i64 c4.n, sV c4.s, .slice c4.la c4.ln c4.lc, .slice c4.fa c4.fn c4.fc] 25)) = V8 at *
        obtain ⟨hB, oA, oX, iV, iX, i9, o9, i10, o10, i11, o12⟩ := HS.out
        clear HS
        have C := Lib.hid (get_any c 5 0 [] [] f nm V8 iV hsf)
        rw [getK_map] at C
        have a0 := oA.cell (i := 0) rfl
        have a1 := oA.cell (i := 1) rfl
        have a2 := oA.cell (i := 2) rfl
        have a3 := oA.cell (i := 3) rfl
        have a4 := oA.cell (i := 4) rfl
        have HS := Lib.hid (And.intro hB (And.intro oA (And.intro oX (And.intro iV (And.intro iX (And.intro i9 (And.intro o9 (And.intro i10 (And.intro o10 (And.intro i11 (o12)))))))))))
        clear hB oA oX iV iX i9 o9 i10 o10 i11 o12
        go_wp2_with fail
        clear a0 a1 a2 a3 a4
        obtain ⟨hB, oA, oX, iV, iX, i9, o9, i10, o10, i11, o12⟩ := HS.out
        clear HS
        refine C.out.mono ?_
        rintro e w9 ⟨c5, rfl, hb9, i14'⟩
        have i14 := i14'.is
        clear C i14'
        replace hB := below_all hB hb9
        replace oA := oA.all hb9
        replace oX := oX.all hb9
        replace iV := iV.all hb9
        replace iX := iX.all hb9
        replace i9 := i9.all hb9
        replace o9 := o9.all hb9
        replace i10 := i10.all hb9
        replace o10 := o10.all hb9
        replace i11 := i11.all hb9
        replace o12 := o12.all hb9
        clear hb9
        have o14 := Own.new w9 [.int .i64 c5.k, .int .i64 c5.n, sV c5.s, .slice c5.la c5.ln c5.lc, .slice c5.fa c5.fn c5.fc] 25
        have hbN := below_alloc w9 (.cells #[.int .i64 c5.k, .int .i64 c5.n, sV c5.s, .slice c5.la c5.ln c5.lc, .slice c5.fa c5.fn c5.fc] 25)
        replace hB := below_all hB hbN
        replace oA := oA.all hbN
        replace oX := oX.all hbN
        replace iV := iV.all hbN
        replace iX := iX.all hbN
        replace i9 := i9.all hbN
        replace o9 := o9.all hbN
        replace i10 := i10.all hbN
        replace o10 := o10.all hbN
        replace i11 := i11.all hbN
        replace o12 := o12.all hbN
        replace i14 := i14.all hbN
        clear hbN
        have HS := Lib.hid (And.intro hB (And.intro oA (And.intro oX (And.intro iV (And.intro iX (And.intro i9 (And.intro o9 (And.intro i10 (And.intro o10 (And.intro i11 (And.intro o12 (And.intro i14 (o14)))))))))))))
        clear hB oA oX iV iX i9 o9 i10 o10 i11 o12 i14 o14
        go_upto_region 11 with (fail)
        change Code.wp Try.prog _ _ _ (w9.alloc (.cells #[.int .i64 c5.k, .int .i64 c5.n, sV c5.s, .slice c5.la c5.ln c5.lc, .slice c5.fa c5.fn c5.fc] 25))
        generalize (w9.alloc (.cells #[.int .i64 c5.k, .int .i64 c5.n, sV c5.s, .slice c5.la c5.ln c5.lc, .slice c5.fa c5.fn c5.fc] 25)) = V9 at *
        obtain ⟨hB, oA, oX, iV, iX, i9, o9, i10, o10, i11, o12, i14, o14⟩ := HS.out
        clear HS
        cases hlk : look nm f with
        | none =>
          rw [hlk] at i14
          have HLK := Lib.hid hlk
          clear hlk
          have HS := Lib.hid (And.intro hB (And.intro oA (And.intro oX (And.intro iV (And.intro iX (And.intro i9 (And.intro o9 (And.intro i10 (And.intro o10 (And.intro i11 (And.intro o12 (And.intro i14 (o14)))))))))))))
          clear hB oA oX iV iX i9 o9 i10 o10 i11 o12 i14 o14
          refine wp_region_quiet_below (by kernel_rfl) (by kernel_rfl) ?_
          repeat (first | go_big_quiet_step (fail) | quiet_step (fail))
          refine wpQuiet_nil ?_
          intro _ hw'
          obtain ⟨⟨dq, osq⟩, hw''⟩ := hw'
          subst hw''
          have hbQ := below_regrown V9 dq osq
          obtain ⟨hB, oA, oX, iV, iX, i9, o9, i10, o10, i11, o12, i14, o14⟩ := HS.out
          clear HS
          replace hB := below_all hB hbQ
          replace oA := oA.all hbQ
          replace oX := oX.all hbQ
          replace iV := iV.all hbQ
          replace iX := iX.all hbQ
          replace i9 := i9.all hbQ
          replace o9 := o9.all hbQ
          replace i10 := i10.all hbQ
          replace o10 := o10.all hbQ
          replace i11 := i11.all hbQ
          replace o12 := o12.all hbQ
          replace i14 := i14.all hbQ
          replace o14 := o14.all hbQ
          clear hbQ
          generalize grow (redrawn V9 dq) osq = Wc at *
          have C := Lib.hid (get_any c 5 0 [] [] f o Wc iV hsf)
          rw [getK_map] at C
          have a0 := oA.cell (i := 0) rfl
          have a1 := oA.cell (i := 1) rfl
          have a2 := oA.cell (i := 2) rfl
          have a3 := oA.cell (i := 3) rfl
          have a4 := oA.cell (i := 4) rfl
          have HS := Lib.hid (And.intro hB (And.intro oA (And.intro oX (And.intro iV (And.intro iX (And.intro i9 (And.intro o9 (And.intro i10 (And.intro o10 (And.intro i11 (And.intro o12 (And.intro i14 (o14)))))))))))))
          clear hB oA oX iV iX i9 o9 i10 o10 i11 o12 i14 o14
          go_wp2_with fail
          clear a0 a1 a2 a3 a4
          obtain ⟨hB, oA, oX, iV, iX, i9, o9, i10, o10, i11, o12, i14, o14⟩ := HS.out
          clear HS
          refine C.out.mono ?_
          rintro e wA ⟨c6, rfl, hbA, iE'⟩
          have iE : Is wA c6 ((look o f).getD T0) := iE'.is
          clear C iE'
          replace hB := below_all hB hbA
          replace oA := oA.all hbA
          replace oX := oX.all hbA
          replace iV := iV.all hbA
          replace iX := iX.all hbA
          replace i9 := i9.all hbA
          replace o9 := o9.all hbA
          replace i10 := i10.all hbA
          replace o10 := o10.all hbA
          replace i11 := i11.all hbA
          replace o12 := o12.all hbA
          replace i14 := i14.all hbA
          replace o14 := o14.all hbA
          clear hbA
          have oE := Own.new wA [.int .i64 c6.k, .int .i64 c6.n, sV c6.s, .slice c6.la c6.ln c6.lc, .slice c6.fa c6.fn c6.fc] 25
          have hbN := below_alloc wA (.cells #[.int .i64 c6.k, .int .i64 c6.n, sV c6.s, .slice c6.la c6.ln c6.lc, .slice c6.fa c6.fn c6.fc] 25)
          replace hB := below_all hB hbN
          replace oA := oA.all hbN
          replace oX := oX.all hbN
          replace iV := iV.all hbN
          replace iX := iX.all hbN
          replace i9 := i9.all hbN
          replace o9 := o9.all hbN
          replace i10 := i10.all hbN
          replace o10 := o10.all hbN
          replace i11 := i11.all hbN
          replace o12 := o12.all hbN
          replace i14 := i14.all hbN
          replace o14 := o14.all hbN
          replace iE := iE.all hbN
          clear hbN
          have HS := Lib.hid (And.intro hB (And.intro oA (And.intro oX (And.intro iV (And.intro iX (And.intro i9 (And.intro o9 (And.intro i10 (And.intro o10 (And.intro i11 (And.intro o12 (And.intro i14 (And.intro o14 (And.intro iE (oE)))))))))))))))
          clear hB oA oX iV iX i9 o9 i10 o10 i11 o12 i14 o14 iE oE
          go_upto_region 14 with (fail)
          change Code.wp Try.prog _ _ _ (wA.alloc (.cells #[.int .i64 c6.k, .int .i64 c6.n, sV c6.s, .slice c6.la c6.ln c6.lc, .slice c6.fa c6.fn c6.fc] 25))
          generalize (wA.alloc (.cells #[.int .i64 c6.k, .int .i64 c6.n, sV c6.s, .slice c6.la c6.ln c6.lc, .slice c6.fa c6.fn c6.fc] 25)) = VA at *
          obtain ⟨hB, oA, oX, iV, iX, i9, o9, i10, o10, i11, o12, i14, o14, iE, oE⟩ := HS.out
          clear HS
          have C := Lib.hid (get_any c1 5 0 [] [] M1 o VA i9 hsm)
          rw [getK_map] at C
          have a0 := o9.cell (i := 0) rfl
          have a1 := o9.cell (i := 1) rfl
          have a2 := o9.cell (i := 2) rfl
          have a3 := o9.cell (i := 3) rfl
          have a4 := o9.cell (i := 4) rfl
          have HS := Lib.hid (And.intro hB (And.intro oA (And.intro oX (And.intro iV (And.intro iX (And.intro i9 (And.intro o9 (And.intro i10 (And.intro o10 (And.intro i11 (And.intro o12 (And.intro i14 (And.intro o14 (And.intro iE (oE)))))))))))))))
          clear hB oA oX iV iX i9 o9 i10 o10 i11 o12 i14 o14 iE oE
          go_wp2_with fail
          clear a0 a1 a2 a3 a4
          obtain ⟨hB, oA, oX, iV, iX, i9, o9, i10, o10, i11, o12, i14, o14, iE, oE⟩ := HS.out
          clear HS
          refine C.out.mono ?_
          rintro e wD ⟨c7, rfl, hbD, iF'⟩
          have iF : Is wD c7 ((look o M1).getD T0) := iF'.is
          clear C iF'
          replace hB := below_all hB hbD
          replace oA := oA.all hbD
          replace oX := oX.all hbD
          replace iV := iV.all hbD
          replace iX := iX.all hbD
          replace i9 := i9.all hbD
          replace o9 := o9.all hbD
          replace i10 := i10.all hbD
          replace o10 := o10.all hbD
          replace i11 := i11.all hbD
          replace o12 := o12.all hbD
          replace i14 := i14.all hbD
          replace o14 := o14.all hbD
          replace iE := iE.all hbD
          replace oE := oE.all hbD
          clear hbD
          have oF := Own.new wD [.int .i64 c7.k, .int .i64 c7.n, sV c7.s, .slice c7.la c7.ln c7.lc, .slice c7.fa c7.fn c7.fc] 25
          have hbN := below_alloc wD (.cells #[.int .i64 c7.k, .int .i64 c7.n, sV c7.s, .slice c7.la c7.ln c7.lc, .slice c7.fa c7.fn c7.fc] 25)
          replace hB := below_all hB hbN
          replace oA := oA.all hbN
          replace oX := oX.all hbN
          replace iV := iV.all hbN
          replace iX := iX.all hbN
          replace i9 := i9.all hbN
          replace o9 := o9.all hbN
          replace i10 := i10.all hbN
          replace o10 := o10.all hbN
          replace i11 := i11.all hbN
          replace o12 := o12.all hbN
          replace i14 := i14.all hbN
          replace o14 := o14.all hbN
          replace iE := iE.all hbN
          replace oE := oE.all hbN
          replace iF := iF.all hbN
          clear hbN
          have HS := Lib.hid (And.intro hB (And.intro oA (And.intro oX (And.intro iV (And.intro iX (And.intro i9 (And.intro o9 (And.intro i10 (And.intro o10 (And.intro i11 (And.intro o12 (And.intro i14 (And.intro o14 (And.intro iE (And.intro oE (And.intro iF (oF)))))))))))))))))
          clear hB oA oX iV iX i9 o9 i10 o10 i11 o12 i14 o14 iE oE iF oF
          go_upto_region 15 with (fail)
          change Code.wp Try.prog _ _ _ (wD.alloc (.cells #[.int .i64 c7.k, .int .i64 c7.n, sV c7.s, .slice c7.la c7.ln c7.lc, .slice c7.fa c7.fn c7.fc] 25))
          generalize (wD.alloc (.cells #[.int .i64 c7.k, .int .i64 c7.n, sV c7.s, .slice c7.la c7.ln c7.lc, .slice c7.fa c7.fn c7.fc] 25)) = VD at *
          obtain ⟨hB, oA, oX, iV, iX, i9, o9, i10, o10, i11, o12, i14, o14, iE, oE, iF, oF⟩ := HS.out
          clear HS
          by_cases ho : o = nm
          · have hoe : (o == nm) = true := by simpa using ho
            clear oA oX iV iX i9 o9 i10 o10 i11 o12 i14 o14 iE oE iF oF ho
            go_wp2_with fail
            refine (awake_any _).mono ?_
            rintro e wz ⟨rfl, hbz⟩
            go_wp2
            go_ret
            exact ⟨rfl, below_all hB hbz⟩
          · have hoe : (o == nm) = false := by simpa using ho
            rw [← law_other HSR.out HM.out (fun e => ho e.symm)] at iF
            rw [← law_other HSR.out HM.out (fun e => ho e.symm)]
            generalize look o f = Q at *
            clear ho
            have CE := Lib.hid (eq_true rfl iE iF)
            have a0 := oE.cell (i := 0) rfl
            have a1 := oE.cell (i := 1) rfl
            have a2 := oE.cell (i := 2) rfl
            have a3 := oE.cell (i := 3) rfl
            have a4 := oE.cell (i := 4) rfl
            have b0 := oF.cell (i := 0) rfl
            have b1 := oF.cell (i := 1) rfl
            have b2 := oF.cell (i := 2) rfl
            have b3 := oF.cell (i := 3) rfl
            have b4 := oF.cell (i := 4) rfl
            have HS := Lib.hid (And.intro hB (And.intro oA (And.intro oX (And.intro iV (And.intro iX (And.intro i9 (And.intro o9 (And.intro i10 (And.intro o10 (And.intro i11 (And.intro o12 (And.intro i14 (And.intro o14 (And.intro iE (And.intro oE (And.intro iF (oF)))))))))))))))))
            clear hB oA oX iV iX i9 o9 i10 o10 i11 o12 i14 o14 iE oE iF oF
            obtain ⟨B, hBq⟩ : ∃ B : Bool, Q.isSome = B := ⟨_, rfl⟩
            rw [hBq]
            clear hBq
            go_wp2_with fail
            clear a0 a1 a2 a3 a4 b0 b1 b2 b3 b4
            obtain ⟨hB, oA, oX, iV, iX, i9, o9, i10, o10, i11, o12, i14, o14, iE, oE, iF, oF⟩ := HS.out
            clear HS
            refine CE.out.mono ?_
            rintro e wG ⟨rfl, hbG⟩
            replace hB := below_all hB hbG
            clear CE hbG oA oX iV iX i9 o9 i10 o10 i11 o12 i14 o14 iE oE iF oF
            go_wp2_with fail
            refine (awake_any _).mono ?_
            rintro e wz ⟨rfl, hbz⟩
            go_wp2
            go_ret
            exact ⟨rfl, below_all hB hbz⟩
        | some y =>
          rw [hlk] at i14
          replace i14 : Is V9 c5 y := i14
          have hym : (nm, y) ∈ f := lastOf_mem (by rw [lastOf_ssrt HSR.out]; exact hlk)
          have hys := hsf _ hym
          simp only at hys
          have HLK := Lib.hid hlk
          clear hlk hym
          have a0 := cell_regrown (oA.cell (i := 0) rfl)
          have a1 := cell_regrown (oA.cell (i := 1) rfl)
          have a2 := cell_regrown (oA.cell (i := 2) rfl)
          have a3 := cell_regrown (oA.cell (i := 3) rfl)
          have a4 := cell_regrown (oA.cell (i := 4) rfl)
          have p0 := cell_regrown (o14.cell (i := 0) rfl)
          have p1 := cell_regrown (o14.cell (i := 1) rfl)
          have p2 := cell_regrown (o14.cell (i := 2) rfl)
          have p3 := cell_regrown (o14.cell (i := 3) rfl)
          have p4 := cell_regrown (o14.cell (i := 4) rfl)
          have HS := Lib.hid (And.intro hB (And.intro oA (And.intro oX (And.intro iV (And.intro iX (And.intro i9 (And.intro o9 (And.intro i10 (And.intro o10 (And.intro i11 (And.intro o12 (And.intro i14 (o14)))))))))))))
          clear hB oA oX iV iX i9 o9 i10 o10 i11 o12 i14 o14
          refine wp_region_multi 7 (fun i => i == 5)
            (fun _ _ u w' => ∃ (c' : VC) (M : List (Str × T)), u = c'.val ∧ Is w' c' (.mk 5 0 [] [] M) ∧ MapOf (oth nm f ++ [(nm, y)]) M)
            (fun _ u => ∃ c' : VC, u = c'.val) (by kernel_rfl) (by kernel_rfl)
            (fun i xs u w1 w2 h hb => by obtain ⟨c', M, a1, a2, a3⟩ := h; exact ⟨c', M, a1, a2.all hb, a3⟩)
            (fun i => ⟨VC0.val, VC0, rfl⟩) ?_
          simp only [List.take_succ_cons, List.take_zero, List.drop_succ_cons, List.drop_zero]
          refine wpM_stretch 5 rfl rfl rfl rfl ?_
          simp only [List.take_succ_cons, List.take_zero, List.drop_succ_cons, List.drop_zero]
          repeat (first | go_big_quiet_step (fail) | quiet_step (fail))
          refine wpQuiet_nil ?_
          refine wpM_dem rfl rfl rfl ?_ ?_
          · rintro _ ⟨pp, rfl⟩
            go_simp
            simp only [demUpon]
            obtain ⟨hB, oA, oX, iV, iX, i9, o9, i10, o10, i11, o12, i14, o14⟩ := HS.out
            clear HS
            refine ⟨trivial, (with_any c c5 5 0 [] [] f nm y _ (iV.all (below_regrown V9 pp.d pp.os)) (i14.all (below_regrown V9 pp.d pp.os)) (by omega) hys).mono ?_⟩
            rintro e wA ⟨c', M, rfl, hbA, hN, hM⟩
            rw [othK_map] at hM
            exact ⟨_, rfl, ⟨c', rfl⟩, hbA, c', rfl, M, hN.is, hM⟩
          · rintro u ⟨d1, rfl⟩
            refine wpM_stretch 1 rfl rfl rfl rfl ?_
            simp only [List.take_succ_cons, List.take_zero, List.drop_succ_cons, List.drop_zero]
            repeat (first | go_big_quiet_step (fail) | quiet_step (fail))
            refine wpQuiet_nil ?_
            refine wpM_end ?_
            rintro U hbU ⟨-, hV1⟩
            obtain ⟨e1, M4, he1, hI4, hM4⟩ := hV1
            obtain rfl := VC.val_inj he1
            obtain rfl : f = M4 := (law_same HSR.out HLK.out hM4).symm
            clear he1 hM4
            clear a0 a1 a2 a3 a4 p0 p1 p2 p3 p4
            obtain ⟨hB, oA, oX, iV, iX, i9, o9, i10, o10, i11, o12, i14, o14⟩ := HS.out
            clear HS
            replace hB := below_all hB hbU
            replace oA := oA.all hbU
            replace oX := oX.all hbU
            replace iV := iV.all hbU
            replace iX := iX.all hbU
            replace i9 := i9.all hbU
            replace o9 := o9.all hbU
            replace i10 := i10.all hbU
            replace o10 := o10.all hbU
            replace i11 := i11.all hbU
            replace o12 := o12.all hbU
            replace i14 := i14.all hbU
            replace o14 := o14.all hbU
            clear hbU
            have CE := Lib.hid (eq_true rfl hI4 iV)
            clear hI4
            have HS := Lib.hid (And.intro hB (And.intro oA (And.intro oX (And.intro iV (And.intro iX (And.intro i9 (And.intro o9 (And.intro i10 (And.intro o10 (And.intro i11 (And.intro o12 (And.intro i14 (o14)))))))))))))
            clear hB oA oX iV iX i9 o9 i10 o10 i11 o12 i14 o14
            go_wp2_with fail
            refine CE.out.mono ?_
            rintro e Wc ⟨rfl, hbC⟩
            clear CE
            obtain ⟨hB, oA, oX, iV, iX, i9, o9, i10, o10, i11, o12, i14, o14⟩ := HS.out
            clear HS
            replace hB := below_all hB hbC
            replace oA := oA.all hbC
            replace oX := oX.all hbC
            replace iV := iV.all hbC
            replace iX := iX.all hbC
            replace i9 := i9.all hbC
            replace o9 := o9.all hbC
            replace i10 := i10.all hbC
            replace o10 := o10.all hbC
            replace i11 := i11.all hbC
            replace o12 := o12.all hbC
            replace i14 := i14.all hbC
            replace o14 := o14.all hbC
            clear hbC
            have C := Lib.hid (get_any c 5 0 [] [] f o Wc iV hsf)
            rw [getK_map] at C
            have a0 := oA.cell (i := 0) rfl
            have a1 := oA.cell (i := 1) rfl
            have a2 := oA.cell (i := 2) rfl
            have a3 := oA.cell (i := 3) rfl
            have a4 := oA.cell (i := 4) rfl
            have HS := Lib.hid (And.intro hB (And.intro oA (And.intro oX (And.intro iV (And.intro iX (And.intro i9 (And.intro o9 (And.intro i10 (And.intro o10 (And.intro i11 (And.intro o12 (And.intro i14 (o14)))))))))))))
            clear hB oA oX iV iX i9 o9 i10 o10 i11 o12 i14 o14
            go_wp2_with fail
            clear a0 a1 a2 a3 a4
            obtain ⟨hB, oA, oX, iV, iX, i9, o9, i10, o10, i11, o12, i14, o14⟩ := HS.out
            clear HS
            refine C.out.mono ?_
            rintro e wA ⟨c6, rfl, hbA, iE'⟩
            have iE : Is wA c6 ((look o f).getD T0) := iE'.is
            clear C iE'
            replace hB := below_all hB hbA
            replace oA := oA.all hbA
            replace oX := oX.all hbA
            replace iV := iV.all hbA
            replace iX := iX.all hbA
            replace i9 := i9.all hbA
            replace o9 := o9.all hbA
            replace i10 := i10.all hbA
            replace o10 := o10.all hbA
            replace i11 := i11.all hbA
            replace o12 := o12.all hbA
            replace i14 := i14.all hbA
            replace o14 := o14.all hbA
            clear hbA
            have oE := Own.new wA [.int .i64 c6.k, .int .i64 c6.n, sV c6.s, .slice c6.la c6.ln c6.lc, .slice c6.fa c6.fn c6.fc] 25
            have hbN := below_alloc wA (.cells #[.int .i64 c6.k, .int .i64 c6.n, sV c6.s, .slice c6.la c6.ln c6.lc, .slice c6.fa c6.fn c6.fc] 25)
            replace hB := below_all hB hbN
            replace oA := oA.all hbN
            replace oX := oX.all hbN
            replace iV := iV.all hbN
            replace iX := iX.all hbN
            replace i9 := i9.all hbN
            replace o9 := o9.all hbN
            replace i10 := i10.all hbN
            replace o10 := o10.all hbN
            replace i11 := i11.all hbN
            replace o12 := o12.all hbN
            replace i14 := i14.all hbN
            replace o14 := o14.all hbN
            replace iE := iE.all hbN
            clear hbN
            have HS := Lib.hid (And.intro hB (And.intro oA (And.intro oX (And.intro iV (And.intro iX (And.intro i9 (And.intro o9 (And.intro i10 (And.intro o10 (And.intro i11 (And.intro o12 (And.intro i14 (And.intro o14 (And.intro iE (oE)))))))))))))))
            clear hB oA oX iV iX i9 o9 i10 o10 i11 o12 i14 o14 iE oE
            go_upto_region 14 with (fail)
            change Code.wp Try.prog _ _ _ (wA.alloc (.cells #[.int .i64 c6.k, .int .i64 c6.n, sV c6.s, .slice c6.la c6.ln c6.lc, .slice c6.fa c6.fn c6.fc] 25))
            generalize (wA.alloc (.cells #[.int .i64 c6.k, .int .i64 c6.n, sV c6.s, .slice c6.la c6.ln c6.lc, .slice c6.fa c6.fn c6.fc] 25)) = VA at *
            obtain ⟨hB, oA, oX, iV, iX, i9, o9, i10, o10, i11, o12, i14, o14, iE, oE⟩ := HS.out
            clear HS
            have C := Lib.hid (get_any c1 5 0 [] [] M1 o VA i9 hsm)
            rw [getK_map] at C
            have a0 := o9.cell (i := 0) rfl
            have a1 := o9.cell (i := 1) rfl
            have a2 := o9.cell (i := 2) rfl
            have a3 := o9.cell (i := 3) rfl
            have a4 := o9.cell (i := 4) rfl
            have HS := Lib.hid (And.intro hB (And.intro oA (And.intro oX (And.intro iV (And.intro iX (And.intro i9 (And.intro o9 (And.intro i10 (And.intro o10 (And.intro i11 (And.intro o12 (And.intro i14 (And.intro o14 (And.intro iE (oE)))))))))))))))
            clear hB oA oX iV iX i9 o9 i10 o10 i11 o12 i14 o14 iE oE
            go_wp2_with fail
            clear a0 a1 a2 a3 a4
            obtain ⟨hB, oA, oX, iV, iX, i9, o9, i10, o10, i11, o12, i14, o14, iE, oE⟩ := HS.out
            clear HS
            refine C.out.mono ?_
            rintro e wD ⟨c7, rfl, hbD, iF'⟩
            have iF : Is wD c7 ((look o M1).getD T0) := iF'.is
            clear C iF'
            replace hB := below_all hB hbD
            replace oA := oA.all hbD
            replace oX := oX.all hbD
            replace iV := iV.all hbD
            replace iX := iX.all hbD
            replace i9 := i9.all hbD
            replace o9 := o9.all hbD
            replace i10 := i10.all hbD
            replace o10 := o10.all hbD
            replace i11 := i11.all hbD
            replace o12 := o12.all hbD
            replace i14 := i14.all hbD
            replace o14 := o14.all hbD
            replace iE := iE.all hbD
            replace oE := oE.all hbD
            clear hbD
            have oF := Own.new wD [.int .i64 c7.k, .int .i64 c7.n, sV c7.s, .slice c7.la c7.ln c7.lc, .slice c7.fa c7.fn c7.fc] 25
            have hbN := below_alloc wD (.cells #[.int .i64 c7.k, .int .i64 c7.n, sV c7.s, .slice c7.la c7.ln c7.lc, .slice c7.fa c7.fn c7.fc] 25)
            replace hB := below_all hB hbN
            replace oA := oA.all hbN
            replace oX := oX.all hbN
            replace iV := iV.all hbN
            replace iX := iX.all hbN
            replace i9 := i9.all hbN
            replace o9 := o9.all hbN
            replace i10 := i10.all hbN
            replace o10 := o10.all hbN
            replace i11 := i11.all hbN
            replace o12 := o12.all hbN
            replace i14 := i14.all hbN
            replace o14 := o14.all hbN
            replace iE := iE.all hbN
            replace oE := oE.all hbN
            replace iF := iF.all hbN
            clear hbN
            have HS := Lib.hid (And.intro hB (And.intro oA (And.intro oX (And.intro iV (And.intro iX (And.intro i9 (And.intro o9 (And.intro i10 (And.intro o10 (And.intro i11 (And.intro o12 (And.intro i14 (And.intro o14 (And.intro iE (And.intro oE (And.intro iF (oF)))))))))))))))))
            clear hB oA oX iV iX i9 o9 i10 o10 i11 o12 i14 o14 iE oE iF oF
            go_upto_region 15 with (fail)
            change Code.wp Try.prog _ _ _ (wD.alloc (.cells #[.int .i64 c7.k, .int .i64 c7.n, sV c7.s, .slice c7.la c7.ln c7.lc, .slice c7.fa c7.fn c7.fc] 25))
            generalize (wD.alloc (.cells #[.int .i64 c7.k, .int .i64 c7.n, sV c7.s, .slice c7.la c7.ln c7.lc, .slice c7.fa c7.fn c7.fc] 25)) = VD at *
            obtain ⟨hB, oA, oX, iV, iX, i9, o9, i10, o10, i11, o12, i14, o14, iE, oE, iF, oF⟩ := HS.out
            clear HS
            by_cases ho : o = nm
            · have hoe : (o == nm) = true := by simpa using ho
              clear oA oX iV iX i9 o9 i10 o10 i11 o12 i14 o14 iE oE iF oF ho
              go_wp2_with fail
              refine (awake_any _).mono ?_
              rintro e wz ⟨rfl, hbz⟩
              go_wp2
              go_ret
              exact ⟨rfl, below_all hB hbz⟩
            · have hoe : (o == nm) = false := by simpa using ho
              rw [← law_other HSR.out HM.out (fun e => ho e.symm)] at iF
              rw [← law_other HSR.out HM.out (fun e => ho e.symm)]
              generalize look o f = Q at *
              clear ho
              have CE := Lib.hid (eq_true rfl iE iF)
              have a0 := oE.cell (i := 0) rfl
              have a1 := oE.cell (i := 1) rfl
              have a2 := oE.cell (i := 2) rfl
              have a3 := oE.cell (i := 3) rfl
              have a4 := oE.cell (i := 4) rfl
              have b0 := oF.cell (i := 0) rfl
              have b1 := oF.cell (i := 1) rfl
              have b2 := oF.cell (i := 2) rfl
              have b3 := oF.cell (i := 3) rfl
              have b4 := oF.cell (i := 4) rfl
              have HS := Lib.hid (And.intro hB (And.intro oA (And.intro oX (And.intro iV (And.intro iX (And.intro i9 (And.intro o9 (And.intro i10 (And.intro o10 (And.intro i11 (And.intro o12 (And.intro i14 (And.intro o14 (And.intro iE (And.intro oE (And.intro iF (oF)))))))))))))))))
              clear hB oA oX iV iX i9 o9 i10 o10 i11 o12 i14 o14 iE oE iF oF
              obtain ⟨B, hBq⟩ : ∃ B : Bool, Q.isSome = B := ⟨_, rfl⟩
              rw [hBq]
              clear hBq
              go_wp2_with fail
              clear a0 a1 a2 a3 a4 b0 b1 b2 b3 b4
              obtain ⟨hB, oA, oX, iV, iX, i9, o9, i10, o10, i11, o12, i14, o14, iE, oE, iF, oF⟩ := HS.out
              clear HS
              refine CE.out.mono ?_
              rintro e wG ⟨rfl, hbG⟩
              replace hB := below_all hB hbG
              clear CE hbG oA oX iV iX i9 o9 i10 o10 i11 o12 i14 o14 iE oE iF oF
              go_wp2_with fail
              refine (awake_any _).mono ?_
              rintro e wz ⟨rfl, hbz⟩
              go_wp2
              go_ret
              exact ⟨rfl, below_all hB hbz⟩
end Go.Proofs.Ytmmembmohkideaa
