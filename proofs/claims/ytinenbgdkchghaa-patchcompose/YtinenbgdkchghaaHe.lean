/- The program's Compose. -/
import Derived.Test.YtinenbgdkchghaaHd
set_option linter.unusedSimpArgs false
set_option linter.unusedVariables false
namespace Go.Proofs.Ytinenbgdkchghaa
open Go.RowKit Go.Sort Go.Proofs.LawFrame

set_option maxHeartbeats 32000000 in
set_option maxRecDepth 4000 in
theorem compose_any : ∀ (N : Nat) (p v : T), SizeOf.sizeOf p ≤ N → p.size ≤ 1900 → v.size ≤ 1900 → Mp p → Mp v → ∀ (c d : VC) (w : World), Is w c v → Is w d p →
    Calls Try.prog 17 #[c.val, d.val] w fun e w' => ∃ c' : VC, e = .returned c'.val ∧ Below w.heap.size w w' ∧ IsA w' (fun b => w.heap.size ≤ b) c' (cpoT p v) := by
  intro N
  induction N with
  | zero => intro p v h; cases p; simp at h
  | succ N ih =>
    intro p v hN hpz hvz hpm hvm c d w hI hJ
    obtain ⟨i35, hi35, hz35, hs35, hy35⟩ := info_parts info35
    have IH := Lib.hid ih
    have HS := Lib.hid (And.intro hN (And.intro hpz (And.intro hvz (And.intro hpm hvm))))
    have hb0 : Below w.heap.size w (((w.alloc (.cells #[.int .i64 c.k, .int .i64 c.n, sV c.s, .slice c.la c.ln c.lc, .slice c.fa c.fn c.fc] 25)).alloc (.cells #[.int .i64 d.k, .int .i64 d.n, sV d.s, .slice d.la d.ln d.lc, .slice d.fa d.fn d.fc] 25)).alloc (.cells #[.int .i64 0, .int .i64 0, .string ⟨#[]⟩, .slice none 0 0, .slice none 0 0] 25)) := (((Below.refl _ _).alloc (Nat.le_refl _) _).alloc (by simp) _).alloc (by simp; omega) _
    have HO := Lib.hid (show Below w.heap.size w (((w.alloc (.cells #[.int .i64 c.k, .int .i64 c.n, sV c.s, .slice c.la c.ln c.lc, .slice c.fa c.fn c.fc] 25)).alloc (.cells #[.int .i64 d.k, .int .i64 d.n, sV d.s, .slice d.la d.ln d.lc, .slice d.fa d.fn d.fc] 25)).alloc (.cells #[.int .i64 0, .int .i64 0, .string ⟨#[]⟩, .slice none 0 0, .slice none 0 0] 25)) ∧ Own (((w.alloc (.cells #[.int .i64 c.k, .int .i64 c.n, sV c.s, .slice c.la c.ln c.lc, .slice c.fa c.fn c.fc] 25)).alloc (.cells #[.int .i64 d.k, .int .i64 d.n, sV d.s, .slice d.la d.ln d.lc, .slice d.fa d.fn d.fc] 25)).alloc (.cells #[.int .i64 0, .int .i64 0, .string ⟨#[]⟩, .slice none 0 0, .slice none 0 0] 25)) w.heap.size [.int .i64 c.k, .int .i64 c.n, sV c.s, .slice c.la c.ln c.lc, .slice c.fa c.fn c.fc] 25 ∧ Own (((w.alloc (.cells #[.int .i64 c.k, .int .i64 c.n, sV c.s, .slice c.la c.ln c.lc, .slice c.fa c.fn c.fc] 25)).alloc (.cells #[.int .i64 d.k, .int .i64 d.n, sV d.s, .slice d.la d.ln d.lc, .slice d.fa d.fn d.fc] 25)).alloc (.cells #[.int .i64 0, .int .i64 0, .string ⟨#[]⟩, .slice none 0 0, .slice none 0 0] 25)) (w.heap.size + 1) [.int .i64 d.k, .int .i64 d.n, sV d.s, .slice d.la d.ln d.lc, .slice d.fa d.fn d.fc] 25 ∧ Own (((w.alloc (.cells #[.int .i64 c.k, .int .i64 c.n, sV c.s, .slice c.la c.ln c.lc, .slice c.fa c.fn c.fc] 25)).alloc (.cells #[.int .i64 d.k, .int .i64 d.n, sV d.s, .slice d.la d.ln d.lc, .slice d.fa d.fn d.fc] 25)).alloc (.cells #[.int .i64 0, .int .i64 0, .string ⟨#[]⟩, .slice none 0 0, .slice none 0 0] 25)) (w.heap.size + 1 + 1) [.int .i64 0, .int .i64 0, .string ⟨#[]⟩, .slice none 0 0, .slice none 0 0] 25 ∧ Is (((w.alloc (.cells #[.int .i64 c.k, .int .i64 c.n, sV c.s, .slice c.la c.ln c.lc, .slice c.fa c.fn c.fc] 25)).alloc (.cells #[.int .i64 d.k, .int .i64 d.n, sV d.s, .slice d.la d.ln d.lc, .slice d.fa d.fn d.fc] 25)).alloc (.cells #[.int .i64 0, .int .i64 0, .string ⟨#[]⟩, .slice none 0 0, .slice none 0 0] 25)) c v ∧ Is (((w.alloc (.cells #[.int .i64 c.k, .int .i64 c.n, sV c.s, .slice c.la c.ln c.lc, .slice c.fa c.fn c.fc] 25)).alloc (.cells #[.int .i64 d.k, .int .i64 d.n, sV d.s, .slice d.la d.ln d.lc, .slice d.fa d.fn d.fc] 25)).alloc (.cells #[.int .i64 0, .int .i64 0, .string ⟨#[]⟩, .slice none 0 0, .slice none 0 0] 25)) d p from ⟨hb0, ((Own.new _ _ _).alloc _).alloc _, (Own.new_at (by rw [size_alloc]) _ _).alloc _, Own.new_at (by rw [size_alloc, size_alloc]) _ _, hI.all hb0, hJ.all hb0⟩)
    have HI0 := Lib.hid (And.intro hI hJ)
    have HDK : Hid (d.k = kd p) := Lib.hid (by obtain ⟨k, n, s, l, f⟩ := p; exact hJ.same.1)
    clear ih hN hpz hvz hpm hvm hb0 hI hJ
    show Calls Try.prog 17 #[.agg #[.int .i64 c.k, .int .i64 c.n, sV c.s, .slice c.la c.ln c.lc, .slice c.fa c.fn c.fc], .agg #[.int .i64 d.k, .int .i64 d.n, sV d.s, .slice d.la d.ln d.lc, .slice d.fa d.fn d.fc]] w _
    go_enter Try.func17, Try.ntmps17
    go_upto_region 1 with (fail)
    change Code.wp Try.prog _ _ _ (((w.alloc (.cells #[.int .i64 c.k, .int .i64 c.n, sV c.s, .slice c.la c.ln c.lc, .slice c.fa c.fn c.fc] 25)).alloc (.cells #[.int .i64 d.k, .int .i64 d.n, sV d.s, .slice d.la d.ln d.lc, .slice d.fa d.fn d.fc] 25)).alloc (.cells #[.int .i64 0, .int .i64 0, .string ⟨#[]⟩, .slice none 0 0, .slice none 0 0] 25))
    generalize (((w.alloc (.cells #[.int .i64 c.k, .int .i64 c.n, sV c.s, .slice c.la c.ln c.lc, .slice c.fa c.fn c.fc] 25)).alloc (.cells #[.int .i64 d.k, .int .i64 d.n, sV d.s, .slice d.la d.ln d.lc, .slice d.fa d.fn d.fc] 25)).alloc (.cells #[.int .i64 0, .int .i64 0, .string ⟨#[]⟩, .slice none 0 0, .slice none 0 0] 25)) = V at *
    have y0 := HO.out.2.2.1.cell (i := 0) rfl
    have hVl := HO.out.2.2.2.1.lt
    by_cases h5 : kd p = 5
    case neg =>
      have e5 : (d.k != 5) = true := by rw [bne_iff_ne, HDK.out]; exact h5
      have HF : Hid (cpoT p v = p) := Lib.hid (cpoT_leaf h5)
      have C := Lib.hid (duplicate_any d p V HO.out.2.2.2.2.2 (by have := HS.out.2.1; omega))
      have y1 := HO.out.2.2.1.cell (i := 1) rfl
      have y2 := HO.out.2.2.1.cell (i := 2) rfl
      have y3 := HO.out.2.2.1.cell (i := 3) rfl
      have y4 := HO.out.2.2.1.cell (i := 4) rfl
      clear h5
      go_wp2_with fail
      refine C.out.mono ?_
      rintro e w1 ⟨g, hi, rfl, hb1, hlo, hhi, hD⟩
      have H1 := Lib.hid (And.intro (below_all HO.out.1 hb1) (And.intro (HO.out.2.2.2.1.all hb1) hD.isA))
      clear C hb1 hD y0 y1 y2 y3 y4 hlo hhi
      have oFin := H1.out.2.1
      have q0 := oFin.cell (i := 0) rfl
      have q1 := oFin.cell (i := 1) rfl
      have q2 := oFin.cell (i := 2) rfl
      have q3 := oFin.cell (i := 3) rfl
      have q4 := oFin.cell (i := 4) rfl
      have g0 := oFin.frozen 0
      have g1 := oFin.frozen 1
      have g2 := oFin.frozen 2
      have g3 := oFin.frozen 3
      have g4 := oFin.frozen 4
      have HU := Lib.hid (And.intro (own_put5 oFin (.int .i64 g.k) (.int .i64 g.n) (sV g.s) (.slice g.la g.ln g.lc) (.slice g.fa g.fn g.fc)) (And.intro (below_put5 (b := w.heap.size + 1 + 1) H1.out.1 (by omega) (.int .i64 g.k) (.int .i64 g.n) (sV g.s) (.slice g.la g.ln g.lc) (.slice g.fa g.fn g.fc)) (H1.out.2.2.put5 (b := w.heap.size + 1 + 1) (by omega) (.int .i64 g.k) (.int .i64 g.n) (sV g.s) (.slice g.la g.ln g.lc) (.slice g.fa g.fn g.fc))))
      clear oFin
      go_wp2
      clear q0 q1 q2 q3 q4 g0 g1 g2 g3 g4
      change bodyPost Try.prog Try.f17 _ _ _ (put5 w1 (w.heap.size + 1 + 1) (.int .i64 g.k) (.int .i64 g.n) (sV g.s) (.slice g.la g.ln g.lc) (.slice g.fa g.fn g.fc))
      generalize put5 w1 (w.heap.size + 1 + 1) (.int .i64 g.k) (.int .i64 g.n) (sV g.s) (.slice g.la g.ln g.lc) (.slice g.fa g.fn g.fc) = U at *
      have c0 := HU.out.1.cell (i := 0) rfl
      have c1 := HU.out.1.cell (i := 1) rfl
      have c2 := HU.out.1.cell (i := 2) rfl
      have c3 := HU.out.1.cell (i := 3) rfl
      have c4 := HU.out.1.cell (i := 4) rfl
      exact bodyPost_ret (v := .agg #[.int .i64 g.k, .int .i64 g.n, sV g.s, .slice g.la g.ln g.lc, .slice g.fa g.fn g.fc]) (by simp [results, Try.results17, go_sem, c0, c1, c2, c3, c4]) rfl ⟨g, rfl, HU.out.2.1, by rw [HF.out]; exact HU.out.2.2.mono (fun b hb => by omega)⟩
    have e5 : d.k = 5 := by rw [HDK.out]; exact h5
    have HK := Lib.hid h5
    by_cases hv5 : kd v = 5
    case neg =>
      have x0 := HO.out.2.1.cell (i := 0) rfl
      have ec : (c.k != 5) = true := by rw [bne_iff_ne, is_kd HI0.out.1]; exact hv5
      have HF : Hid (cpoT p v = mrgT p T0) := Lib.hid (cpoT_null HK.out hv5)
      clear hv5
      go_upto_region 4 with (fail)
      clear x0 y0
      have g0 := cell_regrown (HO.out.2.2.1.cell (i := 0) rfl)
      have g1 := cell_regrown (HO.out.2.2.1.cell (i := 1) rfl)
      have g2 := cell_regrown (HO.out.2.2.1.cell (i := 2) rfl)
      have g3 := cell_regrown (HO.out.2.2.1.cell (i := 3) rfl)
      have g4 := cell_regrown (HO.out.2.2.1.cell (i := 4) rfl)
      have HCM := Lib.hid (show ∀ X, Below V.heap.size V X → Calls Try.prog 13 #[.agg #[.int .i64 0, .int .i64 0, .string ⟨#[]⟩, .slice none 0 0, .slice none 0 0], .agg #[.int .i64 5, .int .i64 d.n, sV d.s, .slice d.la d.ln d.lc, .slice d.fa d.fn d.fc]] X fun e w' => ∃ c' : VC, e = .returned c'.val ∧ Below X.heap.size X w' ∧ IsA w' (fun b => X.heap.size ≤ b) c' (mrgT p T0) from fun X hX => by rw [← e5]; exact merge_any (SizeOf.sizeOf p) p T0 (Nat.le_refl _) HS.out.2.1 (by rw [T0_size]; omega) HS.out.2.2.2.1 mp_T0 VC0 d X (is_vc0 X) (HO.out.2.2.2.2.2.all hX))
      refine wp_region_multi 3 (fun i => i == 0 || i == 2) (fun i xs u w' => i = 2 → ∃ c' : VC, u = c'.val ∧ IsA w' (fun b => V.heap.size ≤ b) c' (mrgT p T0))
        (fun i u => (i = 0 → u = .agg #[.int .i64 0, .int .i64 0, .string ⟨#[]⟩, .slice none 0 0, .slice none 0 0]) ∧ (i = 2 → ∃ c' : VC, u = c'.val)) (by kernel_rfl) (by kernel_rfl)
        (fun i xs u w1 w2 h hb e => by obtain ⟨c', a1, a2⟩ := h e; exact ⟨c', a1, a2.all hb⟩)
        (fun i => ⟨.agg #[.int .i64 0, .int .i64 0, .string ⟨#[]⟩, .slice none 0 0, .slice none 0 0], fun _ => rfl, fun _ => ⟨VC0, rfl⟩⟩) ?_
      refine wpM_dem rfl rfl rfl ?_ ?_
      · rintro _ ⟨pp, rfl⟩
        go_simp
        simp only [demUpon]
        refine ⟨trivial, (null_any _).mono ?_⟩
        rintro e w2 ⟨rfl, hb2⟩
        exact ⟨_, rfl, rfl, hb2, trivial⟩
      rintro u hu
      obtain rfl := hu.1 rfl
      clear hu
      refine wpM_stretch 1 rfl rfl rfl rfl ?_
      simp only [List.take_succ_cons, List.take_zero, List.drop_succ_cons, List.drop_zero]
      repeat (first | go_big_quiet_step (fail) | quiet_step (fail))
      refine wpQuiet_nil ?_
      refine wpM_dem rfl rfl rfl ?_ ?_
      · rintro _ ⟨pp, rfl⟩
        have hsz := (below_regrown V pp.d pp.os).size
        go_simp
        simp only [demUpon]
        refine ⟨trivial, (HCM.out _ (below_regrown V pp.d pp.os)).mono ?_⟩
        rintro e w2 ⟨c', rfl, hb2, hN⟩
        exact ⟨_, rfl, ⟨c', rfl⟩, hb2, c', rfl, hN.mono (fun b hb => by omega)⟩
      rintro u hu
      obtain ⟨cN, rfl⟩ := hu.2 rfl
      clear hu
      refine wpM_end ?_
      rintro U hbU ⟨⟨-, -⟩, hV⟩
      obtain ⟨c2, he2, hN⟩ := hV (by first | rfl | trivial)
      obtain rfl := VC.val_inj he2
      have H1 := Lib.hid (And.intro (below_all HO.out.1 hbU) (And.intro (HO.out.2.2.2.1.all hbU) hN))
      have hbs := hbU.size
      clear hV he2 hN hbU g0 g1 g2 g3 g4
      have oFin := H1.out.2.1
      have q0 := oFin.cell (i := 0) rfl
      have q1 := oFin.cell (i := 1) rfl
      have q2 := oFin.cell (i := 2) rfl
      have q3 := oFin.cell (i := 3) rfl
      have q4 := oFin.cell (i := 4) rfl
      have g0 := oFin.frozen 0
      have g1 := oFin.frozen 1
      have g2 := oFin.frozen 2
      have g3 := oFin.frozen 3
      have g4 := oFin.frozen 4
      have HU := Lib.hid (And.intro (own_put5 oFin (.int .i64 cN.k) (.int .i64 cN.n) (sV cN.s) (.slice cN.la cN.ln cN.lc) (.slice cN.fa cN.fn cN.fc)) (And.intro (below_put5 (b := w.heap.size + 1 + 1) H1.out.1 (by omega) (.int .i64 cN.k) (.int .i64 cN.n) (sV cN.s) (.slice cN.la cN.ln cN.lc) (.slice cN.fa cN.fn cN.fc)) (H1.out.2.2.put5 (b := w.heap.size + 1 + 1) (by omega) (.int .i64 cN.k) (.int .i64 cN.n) (sV cN.s) (.slice cN.la cN.ln cN.lc) (.slice cN.fa cN.fn cN.fc))))
      clear oFin
      go_wp2
      clear q0 q1 q2 q3 q4 g0 g1 g2 g3 g4
      change bodyPost Try.prog Try.f17 _ _ _ (put5 U (w.heap.size + 1 + 1) (.int .i64 cN.k) (.int .i64 cN.n) (sV cN.s) (.slice cN.la cN.ln cN.lc) (.slice cN.fa cN.fn cN.fc))
      generalize put5 U (w.heap.size + 1 + 1) (.int .i64 cN.k) (.int .i64 cN.n) (sV cN.s) (.slice cN.la cN.ln cN.lc) (.slice cN.fa cN.fn cN.fc) = U2 at *
      have c0 := HU.out.1.cell (i := 0) rfl
      have c1 := HU.out.1.cell (i := 1) rfl
      have c2 := HU.out.1.cell (i := 2) rfl
      have c3 := HU.out.1.cell (i := 3) rfl
      have c4 := HU.out.1.cell (i := 4) rfl
      exact bodyPost_ret (v := .agg #[.int .i64 cN.k, .int .i64 cN.n, sV cN.s, .slice cN.la cN.ln cN.lc, .slice cN.fa cN.fn cN.fc]) (by simp [results, Try.results17, go_sem, c0, c1, c2, c3, c4]) rfl ⟨cN, rfl, HU.out.2.1, by rw [HF.out]; exact HU.out.2.2.mono (fun b hb => by omega)⟩
    have HK2 := Lib.hid hv5
    have x0 := HO.out.2.1.cell (i := 0) rfl
    have ec : c.k = 5 := (is_kd HI0.out.1).trans hv5
    clear hv5
    clear h5
    have hbA := below_alloc V (.cells #[.int .i64 5, .int .i64 0, .string ⟨#[]⟩, .slice none 0 0, .slice none 0 0] 25)
    have HP := Lib.hid (show Below w.heap.size w (V.alloc (.cells #[.int .i64 5, .int .i64 0, .string ⟨#[]⟩, .slice none 0 0, .slice none 0 0] 25)) ∧ Own (V.alloc (.cells #[.int .i64 5, .int .i64 0, .string ⟨#[]⟩, .slice none 0 0, .slice none 0 0] 25)) w.heap.size [.int .i64 c.k, .int .i64 c.n, sV c.s, .slice c.la c.ln c.lc, .slice c.fa c.fn c.fc] 25 ∧ Own (V.alloc (.cells #[.int .i64 5, .int .i64 0, .string ⟨#[]⟩, .slice none 0 0, .slice none 0 0] 25)) (w.heap.size + 1) [.int .i64 d.k, .int .i64 d.n, sV d.s, .slice d.la d.ln d.lc, .slice d.fa d.fn d.fc] 25 ∧ Own (V.alloc (.cells #[.int .i64 5, .int .i64 0, .string ⟨#[]⟩, .slice none 0 0, .slice none 0 0] 25)) (w.heap.size + 1 + 1) [.int .i64 0, .int .i64 0, .string ⟨#[]⟩, .slice none 0 0, .slice none 0 0] 25 ∧ Is (V.alloc (.cells #[.int .i64 5, .int .i64 0, .string ⟨#[]⟩, .slice none 0 0, .slice none 0 0] 25)) c v ∧ Is (V.alloc (.cells #[.int .i64 5, .int .i64 0, .string ⟨#[]⟩, .slice none 0 0, .slice none 0 0] 25)) d p ∧ Own (V.alloc (.cells #[.int .i64 5, .int .i64 0, .string ⟨#[]⟩, .slice none 0 0, .slice none 0 0] 25)) V.heap.size [.int .i64 5, .int .i64 0, .string ⟨#[]⟩, .slice none 0 0, .slice none 0 0] 25 from ⟨below_all HO.out.1 hbA, HO.out.2.1.all hbA, HO.out.2.2.1.all hbA, HO.out.2.2.2.1.all hbA, HO.out.2.2.2.2.1.all hbA, HO.out.2.2.2.2.2.all hbA, Own.new _ _ _⟩)
    have hV1 : (V.alloc (.cells #[.int .i64 5, .int .i64 0, .string ⟨#[]⟩, .slice none 0 0, .slice none 0 0] 25)).heap.size = V.heap.size + 1 := size_alloc _ _
    clear hbA HO
    go_upto_region 6 with (fail)
    clear y0 x0
    change Code.wp Try.prog _ _ _ (V.alloc (.cells #[.int .i64 5, .int .i64 0, .string ⟨#[]⟩, .slice none 0 0, .slice none 0 0] 25))
    generalize (V.alloc (.cells #[.int .i64 5, .int .i64 0, .string ⟨#[]⟩, .slice none 0 0, .slice none 0 0] 25)) = V1 at *
    generalize V.heap.size = mb at *
    have x0 := HP.out.2.1.cell (i := 0) rfl
    have x1 := HP.out.2.1.cell (i := 1) rfl
    have x2 := HP.out.2.1.cell (i := 2) rfl
    have x3 := HP.out.2.1.cell (i := 3) rfl
    have x4 := HP.out.2.1.cell (i := 4) rfl
    have y4 := HP.out.2.2.1.cell (i := 4) rfl
    have hlen : (fls v).length + (fls p).length ≤ 4000 := by have := fls_len v; have := fls_len p; have h1 := HS.out.2.1; have h2 := HS.out.2.2.1; omega
    obtain ⟨l, hl⟩ : ∃ l, prs ((fls v).length + (fls p).length) (fls v) (fls p) = l := ⟨_, rfl⟩
    have hfc : Flds w (.slice c.fa c.fn c.fc) (fls v) := by have h := fvl_flds HI0.out.1; unfold fvl at h; rw [if_pos ec] at h; exact h
    have hff : Flds w (.slice d.fa d.fn d.fc) (fls p) := by have h := fvl_flds HI0.out.2; unfold fvl at h; rw [if_pos e5] at h; exact h
    have cP : ∀ X, Below V1.heap.size V1 X → Calls Try.prog 27 #[.slice c.fa c.fn c.fc, .slice d.fa d.fn d.fc] X fun e w' => ∃ v, e = .returned v ∧ Below X.heap.size X w' ∧ PrsA w w' (mb + 1) v l := fun X hX => by
      rw [← hl]; exact pairs_any w _ _ _ _ _ X (by have := hX.size; omega) (below_all HP.out.1 hX) hfc hff hlen
    have HCP := Lib.hid cP
    have HL := Lib.hid (And.intro hl hlen)
    clear cP hff hfc hl hlen
    go_wp2_with fail
    refine (HCP.out _ (Below.refl _ _)).mono ?_
    rintro e U ⟨v2, rfl, hbU, hP4⟩
    obtain ⟨lao, lcap, rfl⟩ := hP4.form
    have HPL := Lib.hid hP4
    have HQ := Lib.hid (show Below w.heap.size w U ∧ Own U (w.heap.size + 1 + 1) [.int .i64 0, .int .i64 0, .string ⟨#[]⟩, .slice none 0 0, .slice none 0 0] 25 ∧ Own U mb [.int .i64 5, .int .i64 0, .string ⟨#[]⟩, .slice none 0 0, .slice none 0 0] 25 ∧ U.heap.size = U.heap.size from ⟨below_all HP.out.1 hbU, HP.out.2.2.2.1.all hbU, HP.out.2.2.2.2.2.2.all hbU, rfl⟩)
    have hmU : mb < U.heap.size := HQ.out.2.2.1.lt
    clear x0 x1 x2 x3 x4 y4 hP4 hbU
    go_upto_region 7 with (fail)
    generalize U = W at *
    go_loopg [28] l.length (fun g i wr => ∃ (q : Nat) (kv : Value) (cs : List FC) (M : List (Str × T)), q ≤ l.length ∧ g = l.length - q ∧ i = .int .i64 q ∧ But mb W wr ∧ Own wr mb [.int .i64 5, .int .i64 0, .string ⟨#[]⟩, .slice none 0 0, kv] 25 ∧ wr.ownsRow W.heap.size 33 6 kv M.length (cs.flatMap FC.cells) ∧ AccF W.heap.size kv wr cs M ∧ Hid (M = zG gC (l.take q)))
    case atStart => exact ⟨0, .slice none 0 0, [], [], Nat.zero_le _, rfl, rfl, But.refl _ _, HQ.out.2.2.1, own_nil _ _ _ _, AccF.nil _ _ _, Lib.hid rfl⟩
    case round =>
      obtain ⟨q, kv, cs, M, hq, hg, rfl, hbt, oO, hrow, hA, HM⟩ := hrel
      have HG := Lib.hid hg
      clear hg
      obtain ⟨ka, kn, kc, rfl⟩ := AccF.form hrow
      have hbw : Below w.heap.size w wr := hbt.below HQ.out.1 (by have := HP.out.1.size; omega) HQ.out.1.size
      have hwr := hbt.size
      by_cases hlt : q < l.length
      case neg =>
        obtain rfl : q = l.length := by omega
        have HF : Hid (cpoT p v = .mk 5 0 [] [] M) := Lib.hid (by
          rw [HM.out, List.take_length, ← HL.out.1, zip_cpo HS.out.2.2.2.2.fls HS.out.2.2.2.1.fls (Nat.le_refl _), cpoT_map HK.out HK2.out])
        obtain ⟨csF, f1, f2, f3, f4⟩ := hA.flatA hrow
        have HI := Lib.hid (show IsA wr (fun b => W.heap.size ≤ b) ⟨5, 0, [], none, 0, 0, ka, kn, kc⟩ (.mk 5 0 [] [] M) from .mk (c := ⟨5, 0, [], none, 0, 0, ka, kn, kc⟩) [] csF rfl (FlatA.nil _ _ _) (fun i x t h => by simp at h) f1 (f2.up (fun b hb => by omega)) f3 (fun i c t hc ht => (f4 i c t hc ht).mono (fun b hb => by omega)))
        have HB := Lib.hid (And.intro hbw (And.intro (Own.but HQ.out.2.1 hbt (by omega)) oO))
        have hWr := HB.out.2.1.lt
        clear hA hrow oO hbt hbw f1 f2 f3 f4
        have z0 := HB.out.2.2.cell (i := 0) rfl
        have z1 := HB.out.2.2.cell (i := 1) rfl
        have z2 := HB.out.2.2.cell (i := 2) rfl
        have z3 := HB.out.2.2.cell (i := 3) rfl
        have z4 := HB.out.2.2.cell (i := 4) rfl
        have oFin := HB.out.2.1
        have q0 := oFin.cell (i := 0) rfl
        have q1 := oFin.cell (i := 1) rfl
        have q2 := oFin.cell (i := 2) rfl
        have q3 := oFin.cell (i := 3) rfl
        have q4 := oFin.cell (i := 4) rfl
        have g0 := oFin.frozen 0
        have g1 := oFin.frozen 1
        have g2 := oFin.frozen 2
        have g3 := oFin.frozen 3
        have g4 := oFin.frozen 4
        have HU := Lib.hid (And.intro (own_put5 oFin (.int .i64 5) (.int .i64 0) (.string ⟨#[]⟩) (.slice none 0 0) (.slice ka kn kc)) (And.intro (below_put5 (b := w.heap.size + 1 + 1) HB.out.1 (by omega) (.int .i64 5) (.int .i64 0) (.string ⟨#[]⟩) (.slice none 0 0) (.slice ka kn kc)) (HI.out.put5 (b := w.heap.size + 1 + 1) (by omega) (.int .i64 5) (.int .i64 0) (.string ⟨#[]⟩) (.slice none 0 0) (.slice ka kn kc))))
        clear oFin
        go_wp2
        clear q0 q1 q2 q3 q4 g0 g1 g2 g3 g4
        change bodyPost Try.prog Try.f17 _ _ _ (put5 wr (w.heap.size + 1 + 1) (.int .i64 5) (.int .i64 0) (.string ⟨#[]⟩) (.slice none 0 0) (.slice ka kn kc))
        generalize put5 wr (w.heap.size + 1 + 1) (.int .i64 5) (.int .i64 0) (.string ⟨#[]⟩) (.slice none 0 0) (.slice ka kn kc) = U at *
        have c0 := HU.out.1.cell (i := 0) rfl
        have c1 := HU.out.1.cell (i := 1) rfl
        have c2 := HU.out.1.cell (i := 2) rfl
        have c3 := HU.out.1.cell (i := 3) rfl
        have c4 := HU.out.1.cell (i := 4) rfl
        exact bodyPost_ret (v := .agg #[.int .i64 5, .int .i64 0, .string ⟨#[]⟩, .slice none 0 0, .slice ka kn kc]) (by simp [results, Try.results17, go_sem, c0, c1, c2, c3, c4]) rfl ⟨⟨5, 0, [], none, 0, 0, ka, kn, kc⟩, rfl, HU.out.2.1, by rw [HF.out]; exact HU.out.2.2.mono (fun b hb => by have := HQ.out.1.size; omega)⟩
      have hmV := hV1
      have hP5 := (HPL.out.but hbt (by omega)).prs hbw
      obtain ⟨e, he⟩ : ∃ e, l[q]? = some e := ⟨_, List.getElem?_eq_getElem hlt⟩
      obtain ⟨x, oa, ob⟩ := e
      have hin : PIn (fls v) (fls p) (x, (oa, ob)) := by have h := List.mem_of_getElem? he; rw [← HL.out.1] at h; exact prs_in h
      have HTK : Hid (l.take (q + 1) = l.take q ++ [(x, (oa, ob))]) := Lib.hid (by rw [List.take_add_one, he]; rfl)
      have hl4 : l.length ≤ 4000 := by
        have h2 := prs_len ((fls v).length + (fls p).length) (fls v) (fls p)
        rw [HL.out.1] at h2
        have h3 := HL.out.2
        omega
      have HML : Hid (M.length ≤ 4000) := Lib.hid (by
        rw [HM.out]
        have h1 := zG_len gC (l.take q)
        have h2 := prs_len ((fls v).length + (fls p).length) (fls v) (fls p)
        rw [HL.out.1] at h2
        have h3 := HL.out.2
        rw [List.length_take] at h1
        omega)
      obtain ⟨b, off, o, ea, hbl, hX, kk⟩ := hP5.at (Below.refl _ _) he
      cases ea
      have k0 := kk 0 _ rfl
      have k1 := kk 1 _ rfl
      have k2 := kk 2 _ rfl
      have k3 := kk 3 _ rfl
      have k4 := kk 4 _ rfl
      have k5 := kk 5 _ rfl
      have k6 := kk 6 _ rfl
      have k7 := kk 7 _ rfl
      have k8 := kk 8 _ rfl
      have k9 := kk 9 _ rfl
      have k10 := kk 10 _ rfl
      have k11 := kk 11 _ rfl
      have k12 := kk 12 _ rfl
      simp only [Nat.add_zero] at k0
      clear kk hP5 he
      have hbA := below_alloc wr (.cells #[sV o.x, .int .i64 o.a.k, .int .i64 o.a.n, sV o.a.s, .slice o.a.la o.a.ln o.a.lc, .slice o.a.fa o.a.fn o.a.fc, .int .i64 o.b.k, .int .i64 o.b.n, sV o.b.s, .slice o.b.la o.b.ln o.b.lc, .slice o.b.fa o.b.fn o.b.fc, .bool o.ia, .bool o.ib] 44)
      have HX := Lib.hid (And.intro hin (And.intro (hX.all hbA) trivial))
      have HV := Lib.hid (show Below w.heap.size w (wr.alloc (.cells #[sV o.x, .int .i64 o.a.k, .int .i64 o.a.n, sV o.a.s, .slice o.a.la o.a.ln o.a.lc, .slice o.a.fa o.a.fn o.a.fc, .int .i64 o.b.k, .int .i64 o.b.n, sV o.b.s, .slice o.b.la o.b.ln o.b.lc, .slice o.b.fa o.b.fn o.b.fc, .bool o.ia, .bool o.ib] 44)) ∧ But mb W (wr.alloc (.cells #[sV o.x, .int .i64 o.a.k, .int .i64 o.a.n, sV o.a.s, .slice o.a.la o.a.ln o.a.lc, .slice o.a.fa o.a.fn o.a.fc, .int .i64 o.b.k, .int .i64 o.b.n, sV o.b.s, .slice o.b.la o.b.ln o.b.lc, .slice o.b.fa o.b.fn o.b.fc, .bool o.ia, .bool o.ib] 44)) ∧ Own (wr.alloc (.cells #[sV o.x, .int .i64 o.a.k, .int .i64 o.a.n, sV o.a.s, .slice o.a.la o.a.ln o.a.lc, .slice o.a.fa o.a.fn o.a.fc, .int .i64 o.b.k, .int .i64 o.b.n, sV o.b.s, .slice o.b.la o.b.ln o.b.lc, .slice o.b.fa o.b.fn o.b.fc, .bool o.ia, .bool o.ib] 44)) mb [.int .i64 5, .int .i64 0, .string ⟨#[]⟩, .slice none 0 0, .slice ka kn kc] 25 ∧ (wr.alloc (.cells #[sV o.x, .int .i64 o.a.k, .int .i64 o.a.n, sV o.a.s, .slice o.a.la o.a.ln o.a.lc, .slice o.a.fa o.a.fn o.a.fc, .int .i64 o.b.k, .int .i64 o.b.n, sV o.b.s, .slice o.b.la o.b.ln o.b.lc, .slice o.b.fa o.b.fn o.b.fc, .bool o.ia, .bool o.ib] 44)).ownsRow W.heap.size 33 6 (.slice ka kn kc) M.length (cs.flatMap FC.cells) ∧ AccF W.heap.size (.slice ka kn kc) (wr.alloc (.cells #[sV o.x, .int .i64 o.a.k, .int .i64 o.a.n, sV o.a.s, .slice o.a.la o.a.ln o.a.lc, .slice o.a.fa o.a.fn o.a.fc, .int .i64 o.b.k, .int .i64 o.b.n, sV o.b.s, .slice o.b.la o.b.ln o.b.lc, .slice o.b.fa o.b.fn o.b.fc, .bool o.ia, .bool o.ib] 44)) cs M from ⟨below_all hbw hbA, hbt.all hbA, oO.all hbA, own_below hrow hbA, hA.below hbA⟩)
      have HE := Lib.hid (show Own (wr.alloc (.cells #[sV o.x, .int .i64 o.a.k, .int .i64 o.a.n, sV o.a.s, .slice o.a.la o.a.ln o.a.lc, .slice o.a.fa o.a.fn o.a.fc, .int .i64 o.b.k, .int .i64 o.b.n, sV o.b.s, .slice o.b.la o.b.ln o.b.lc, .slice o.b.fa o.b.fn o.b.fc, .bool o.ia, .bool o.ib] 44)) wr.heap.size [sV o.x, .int .i64 o.a.k, .int .i64 o.a.n, sV o.a.s, .slice o.a.la o.a.ln o.a.lc, .slice o.a.fa o.a.fn o.a.fc, .int .i64 o.b.k, .int .i64 o.b.n, sV o.b.s, .slice o.b.la o.b.ln o.b.lc, .slice o.b.fa o.b.fn o.b.fc, .bool o.ia, .bool o.ib] 44 from Own.new _ _ _)
      clear hbA hin hX hbw hbt oO hrow hA
      go_upto_region 9 with (fail)
      clear k0 k1 k2 k3 k4 k5 k6 k7 k8 k9 k10 k11 k12
      change Code.wp Try.prog _ _ _ (wr.alloc (.cells #[sV o.x, .int .i64 o.a.k, .int .i64 o.a.n, sV o.a.s, .slice o.a.la o.a.ln o.a.lc, .slice o.a.fa o.a.fn o.a.fc, .int .i64 o.b.k, .int .i64 o.b.n, sV o.b.s, .slice o.b.la o.b.ln o.b.lc, .slice o.b.fa o.b.fn o.b.fc, .bool o.ia, .bool o.ib] 44))
      generalize wr.alloc (.cells #[sV o.x, .int .i64 o.a.k, .int .i64 o.a.n, sV o.a.s, .slice o.a.la o.a.ln o.a.lc, .slice o.a.fa o.a.fn o.a.fc, .int .i64 o.b.k, .int .i64 o.b.n, sV o.b.s, .slice o.b.la o.b.ln o.b.lc, .slice o.b.fa o.b.fn o.b.fc, .bool o.ia, .bool o.ib] 44) = V at *
      generalize wr.heap.size = nb at *
      have hWV := HV.out.2.1.size
      have m4 := HV.out.2.2.1.cell (i := 4) rfl
      have e0 := HE.out.cell (i := 0) rfl
      have e1 := HE.out.cell (i := 1) rfl
      have e2 := HE.out.cell (i := 2) rfl
      have e3 := HE.out.cell (i := 3) rfl
      have e4 := HE.out.cell (i := 4) rfl
      have e5 := HE.out.cell (i := 5) rfl
      have e6 := HE.out.cell (i := 6) rfl
      have e7 := HE.out.cell (i := 7) rfl
      have e8 := HE.out.cell (i := 8) rfl
      have e9 := HE.out.cell (i := 9) rfl
      have e10 := HE.out.cell (i := 10) rfl
      have e11 := HE.out.cell (i := 11) rfl
      have e12 := HE.out.cell (i := 12) rfl
      obtain ⟨r, hr⟩ : ∃ r, gC oa ob = some r := by
        cases ob with
        | none => obtain ⟨a, ha⟩ := HX.out.1.2.2 rfl; exact ⟨a, ha⟩
        | some bt => cases oa with
          | none => exact ⟨bt, rfl⟩
          | some a => exact ⟨cpoT bt a, rfl⟩
      have HMN : Hid (M ++ [(x, r)] = zG gC (l.take (q + 1))) := Lib.hid (by rw [HTK.out, zG_snoc, HM.out, hr]; rfl)
      have HR := Lib.hid (show gC oa ob = some r ∧ (oa.getD T0).size ≤ 4000 ∧ (ob.getD T0).size ≤ 4000 ∧ (∀ (a b : T), oa = some a → ob = some b → ∀ (c d : VC) (W : World), Is W c a → Is W d b → Calls Try.prog 17 #[c.val, d.val] W fun e w' => ∃ c' : VC, e = .returned c'.val ∧ Below W.heap.size W w' ∧ IsA w' (fun b => W.heap.size ≤ b) c' (cpoT b a)) from ⟨hr, by
        cases oa with
        | none => simp only [Option.getD_none]; rw [T0_size]; omega
        | some a => obtain ⟨s2, hs2⟩ := HX.out.1.1 a rfl; have h1 := kid_szn hs2; have h2 := HS.out.2.2.1; simp only [Option.getD_some]; omega, by
        cases ob with
        | none => simp only [Option.getD_none]; rw [T0_size]; omega
        | some a => obtain ⟨s2, hs2⟩ := HX.out.1.2.1 a rfl; have h1 := kid_szn hs2; have h2 := HS.out.2.1; simp only [Option.getD_some]; omega, fun a bt ha hb c2 d2 W2 h1 h2 => by
        obtain ⟨s2, hs2⟩ := HX.out.1.1 a ha
        obtain ⟨s1, hs1⟩ := HX.out.1.2.1 bt hb
        exact IH.out bt a (by have h1 := kid_lt hs1; have h2 := HS.out.1; omega) (by have h1 := kid_szn hs1; have h2 := HS.out.2.1; omega) (by have h1 := kid_szn hs2; have h2 := HS.out.2.2.1; omega) (HS.out.2.2.2.1.kid hs1) (HS.out.2.2.2.2.kid hs2) c2 d2 W2 h1 h2⟩)
      clear hr
      go_upto_region 9 with (fail)
      have gm4 := cell_regrown m4
      have ge0 := cell_regrown e0
      have ge1 := cell_regrown e1
      have ge2 := cell_regrown e2
      have ge3 := cell_regrown e3
      have ge4 := cell_regrown e4
      have ge5 := cell_regrown e5
      have ge6 := cell_regrown e6
      have ge7 := cell_regrown e7
      have ge8 := cell_regrown e8
      have ge9 := cell_regrown e9
      have ge10 := cell_regrown e10
      have ge11 := cell_regrown e11
      have ge12 := cell_regrown e12
      clear m4 e0 e1 e2 e3 e4 e5 e6 e7 e8 e9 e10 e11 e12
      refine wp_region_multi 8 (fun i => i == 5 || i == 7) (fun i xs u w' => (i = 5 → ∃ c' : VC, u = c'.val ∧ IsA w' (fun b => V.heap.size ≤ b) c' (r)) ∧ (i = 7 → ∃ (c2 : VC) (b : Nat), xs = [.agg #[sV o.x, .int .i64 c2.k, .int .i64 c2.n, sV c2.s, .slice c2.la c2.ln c2.lc, .slice c2.fa c2.fn c2.fc]] ∧ u = .slice (some ⟨b, 0, none⟩) 1 1 ∧ V.heap.size ≤ b ∧ Own w' b (FC.cells ⟨o.x, c2⟩) 33))
        (fun i u => (i = 5 → ∃ c' : VC, u = c'.val) ∧ (i = 7 → ∃ b, u = .slice (some ⟨b, 0, none⟩) 1 1)) (by kernel_rfl) (by kernel_rfl)
        (fun i xs u w1 w2 h hb => ⟨fun e => by obtain ⟨c', a1, a2⟩ := h.1 e; exact ⟨c', a1, a2.all hb⟩, fun e => by obtain ⟨c2, b, a1, a2, a3, a4⟩ := h.2 e; exact ⟨c2, b, a1, a2, a3, a4.all hb⟩⟩)
        (fun i => by
          by_cases e : i = 5
          · exact ⟨VC0.val, fun _ => ⟨VC0, rfl⟩, fun e' => by omega⟩
          · exact ⟨.slice (some ⟨0, 0, none⟩) 1 1, fun e' => absurd e' e, fun _ => ⟨0, rfl⟩⟩) ?_
      simp only [List.take_succ_cons, List.take_zero, List.drop_succ_cons, List.drop_zero]
      refine wpM_stretch 5 rfl rfl rfl rfl ?_
      simp only [List.take_succ_cons, List.take_zero, List.drop_succ_cons, List.drop_zero]
      repeat (first | go_big_quiet_step (fail) | quiet_step (fail))
      refine wpQuiet_nil ?_
      refine wpM_dem rfl rfl rfl ?_ ?_
      · rintro _ ⟨pp, rfl⟩
        go_simp
        simp only [demUpon]
        have hsz := (below_regrown V pp.d pp.os).size
        refine ⟨trivial, (composeField_of o x oa ob r _ (HX.out.2.1.all (below_regrown V pp.d pp.os)) HR.out.1 HR.out.2.1 HR.out.2.2.1 HR.out.2.2.2).mono ?_⟩
        rintro e w2 ⟨c', rfl, hb2, hN⟩
        exact ⟨_, rfl, ⟨c', rfl⟩, hb2, c', rfl, hN.mono (fun b hb => by omega)⟩
      rintro u hu
      obtain ⟨cN, rfl⟩ := hu.1 rfl
      clear hu
      refine wpM_stretch 1 rfl rfl rfl rfl ?_
      simp only [List.take_succ_cons, List.take_zero, List.drop_succ_cons, List.drop_zero]
      repeat (first | go_big_quiet_step (fail) | quiet_step (fail))
      refine wpQuiet_nil ?_
      refine wpM_dem rfl rfl rfl ?_ ?_
      · rintro _ ⟨pp, rfl⟩
        have hsz := (below_regrown V pp.d pp.os).size
        go_simp
        simp only [demUpon]
        exact ⟨⟨_, rfl⟩, below_alloc _ _, cN, rfl, _, rfl, by first | omega | (simp [redrawn]; done) | (simp [redrawn, grow]; omega), Own.new_at (by simp [grow]) _ _⟩
      rintro u hu
      obtain ⟨b8, rfl⟩ := hu.2 rfl
      clear hu
      refine wpM_end ?_
      rintro U hbU ⟨⟨-, hV7⟩, hV8⟩
      obtain ⟨c2, he2, hN⟩ := hV7.1 (by first | rfl | trivial)
      obtain ⟨c3, b', hx3, hu3, hlo, oS⟩ := hV8.2 (by first | rfl | trivial)
      obtain rfl := VC.val_inj he2
      have hx4 : ([.agg #[sV o.x, .int .i64 cN.k, .int .i64 cN.n, sV cN.s, .slice cN.la cN.ln cN.lc, .slice cN.fa cN.fn cN.fc]] : List Value) = [.agg #[sV o.x, .int .i64 c3.k, .int .i64 c3.n, sV c3.s, .slice c3.la c3.ln c3.lc, .slice c3.fa c3.fn c3.fc]] := hx3
      obtain rfl : cN = c3 := aggF_inj hx4
      obtain rfl : b8 = b' := by simpa using hu3
      clear hV7 hV8 he2 hx3 hx4 hu3
      have hUs := hbU.size
      have hrowU := own_below HV.out.2.2.2.1 hbU
      have hAU := HV.out.2.2.2.2.below hbU
      have oOU := HV.out.2.2.1.all hbU
      have hbtU := HV.out.2.1.all hbU
      have hrl := own_row HV.out.2.2.2.1
      have hrlt : ∀ k, (Value.slice ka kn kc).ownBlock = some k → k < V.heap.size := fun k h => (HV.out.2.2.2.1.lt k h).2
      have hAN := hAU.snoc (c := ⟨o.x, cN⟩) (t := (x, r)) (⟨HX.out.2.1.nm, hN.mono (fun b hb => ⟨by omega, fun e => by have := hrlt b e; omega⟩)⟩)
      have HAN := Lib.hid hAN
      have hML := HML.out
      clear hAN hAU hN gm4 ge0 ge1 ge2 ge3 ge4 ge5 ge6 ge7 ge8 ge9 ge10 ge11 ge12
      go_wp2_with (at_builtin; refine wpList_append_lies _ rfl (.tmp 33) (.tmp 39) 23 rfl W.heap.size 33 i35 (.agg #[.string ⟨#[]⟩, .int .i64 0, .int .i64 0, .string ⟨#[]⟩, .slice none 0 0, .slice none 0 0]) 6 96 Try.underlying23 hi35 hz35 hs35 hy35 rfl (by decide) _ _ _ rfl hrowU ⟨b8, 0, none⟩ 1 1 (FC.cells ⟨o.x, cN⟩) rfl rfl (own_src oS) (six_one' ⟨o.x, cN⟩) (by decide) (by unfold maxLen; omega) (by omega) (by omega) _ rfl ?_; intro gg gcap W5 hown5 hgrow5 hlies hglt; have o5 := own_kept' oOU hgrow5 (fun e => by have := hrl _ e; omega); have k5 := o5.cell (i := 4) rfl; have f5 := o5.frozen 4; have HH5 := Lib.hid (And.intro hown5 (And.intro hgrow5 (And.intro hlies o5))); clear hown5 hgrow5 hlies o5)
      obtain ⟨hown5, hgrow5, hlies, o5⟩ := HH5.out
      go_roundg (l.length - (q + 1))
      case measure => have := HG.out; omega
      case rel =>
        exact ⟨q + 1, .slice (some ⟨gg, 0, none⟩) (M.length + 1) gcap, cs ++ [⟨o.x, cN⟩], M ++ [(x, r)], by omega, rfl, by go_num, (hbtU.grown hgrow5 (fun k h => hrl k h)).set _ _, o5.set 4 _, row_set (by rw [snocF, List.length_append]; exact hown5) (by omega) _ _, ((HAN.out.grow (n := M.length + 1) (cap := gcap) hgrow5 hlies).set (by omega) _ _), HMN⟩
end Go.Proofs.Ytinenbgdkchghaa
