/- The program's changeOf: what a patch has for one pair, over Diff of what is in it. -/
import Derived.Test.YtinenbgdkchghaaHe
import Derived.Test.YtinenbgdkchghaaWl
import Derived.BigRegion
import Derived.Deep.DeepCutAuto
set_option linter.unusedSimpArgs false
set_option linter.unusedVariables false
namespace Go.Proofs.Ytinenbgdkchghaa
open Go.RowKit Go.Sort Go.Proofs.LawFrame

theorem isA_fn {w : World} {A : Nat → Prop} {c : VC} {t : T} (h : IsA w A c t) (h5 : kd t = 5) : c.fn = (fls t).length := by
  cases h with
  | mk cs fs hl1 hl2 hl3 hf1 hf2 hf3 hf4 =>
    obtain ⟨ao, cap, e, -, -, -⟩ := hf2.out
    rw [fls_is (show c.k = 5 from h5)]
    injection e
set_option maxHeartbeats 8000000 in
set_option maxRecDepth 4000 in
theorem changeOf_of (o : PC) (x : Str) (oa ob : Option T) (w : World) (hX : PrOk w o (x, (oa, ob))) (hza : (oa.getD T0).size ≤ 4000) (hzb : (ob.getD T0).size ≤ 4000)
    (hC : ∀ (a b : T), oa = some a → ob = some b → kd a = 5 → kd b = 5 → ∀ (c d : VC) (W : World), Is W c a → Is W d b → Calls Try.prog 15 #[c.val, d.val] W fun e w' => ∃ c' : VC, e = .returned c'.val ∧ Below W.heap.size W w' ∧ IsA w' (fun b => W.heap.size ≤ b) c' (difT b a)) :
    Calls Try.prog 31 #[.agg #[sV o.x, .int .i64 o.a.k, .int .i64 o.a.n, sV o.a.s, .slice o.a.la o.a.ln o.a.lc, .slice o.a.fa o.a.fn o.a.fc, .int .i64 o.b.k, .int .i64 o.b.n, sV o.b.s, .slice o.b.la o.b.ln o.b.lc, .slice o.b.fa o.b.fn o.b.fc, .bool o.ia, .bool o.ib]] w fun e w' => ∃ c' : VC, e = .returned (.tuple #[c'.val, .bool (gD oa ob).isSome]) ∧ Below w.heap.size w w' ∧ ∀ r, gD oa ob = some r → IsA w' (fun b => w.heap.size ≤ b) c' r := by
  have hb0 : Below w.heap.size w ((w.alloc (.cells #[sV o.x, .int .i64 o.a.k, .int .i64 o.a.n, sV o.a.s, .slice o.a.la o.a.ln o.a.lc, .slice o.a.fa o.a.fn o.a.fc, .int .i64 o.b.k, .int .i64 o.b.n, sV o.b.s, .slice o.b.la o.b.ln o.b.lc, .slice o.b.fa o.b.fn o.b.fc, .bool o.ia, .bool o.ib] 44)).alloc (.cells #[.int .i64 0, .int .i64 0, .string ⟨#[]⟩, .slice none 0 0, .slice none 0 0] 25)) := ((Below.refl _ _).alloc (Nat.le_refl _) _).alloc (by simp) _
  have HO := Lib.hid (show Below w.heap.size w ((w.alloc (.cells #[sV o.x, .int .i64 o.a.k, .int .i64 o.a.n, sV o.a.s, .slice o.a.la o.a.ln o.a.lc, .slice o.a.fa o.a.fn o.a.fc, .int .i64 o.b.k, .int .i64 o.b.n, sV o.b.s, .slice o.b.la o.b.ln o.b.lc, .slice o.b.fa o.b.fn o.b.fc, .bool o.ia, .bool o.ib] 44)).alloc (.cells #[.int .i64 0, .int .i64 0, .string ⟨#[]⟩, .slice none 0 0, .slice none 0 0] 25)) ∧ Own ((w.alloc (.cells #[sV o.x, .int .i64 o.a.k, .int .i64 o.a.n, sV o.a.s, .slice o.a.la o.a.ln o.a.lc, .slice o.a.fa o.a.fn o.a.fc, .int .i64 o.b.k, .int .i64 o.b.n, sV o.b.s, .slice o.b.la o.b.ln o.b.lc, .slice o.b.fa o.b.fn o.b.fc, .bool o.ia, .bool o.ib] 44)).alloc (.cells #[.int .i64 0, .int .i64 0, .string ⟨#[]⟩, .slice none 0 0, .slice none 0 0] 25)) w.heap.size [sV o.x, .int .i64 o.a.k, .int .i64 o.a.n, sV o.a.s, .slice o.a.la o.a.ln o.a.lc, .slice o.a.fa o.a.fn o.a.fc, .int .i64 o.b.k, .int .i64 o.b.n, sV o.b.s, .slice o.b.la o.b.ln o.b.lc, .slice o.b.fa o.b.fn o.b.fc, .bool o.ia, .bool o.ib] 44 ∧ Own ((w.alloc (.cells #[sV o.x, .int .i64 o.a.k, .int .i64 o.a.n, sV o.a.s, .slice o.a.la o.a.ln o.a.lc, .slice o.a.fa o.a.fn o.a.fc, .int .i64 o.b.k, .int .i64 o.b.n, sV o.b.s, .slice o.b.la o.b.ln o.b.lc, .slice o.b.fa o.b.fn o.b.fc, .bool o.ia, .bool o.ib] 44)).alloc (.cells #[.int .i64 0, .int .i64 0, .string ⟨#[]⟩, .slice none 0 0, .slice none 0 0] 25)) (w.heap.size + 1) [.int .i64 0, .int .i64 0, .string ⟨#[]⟩, .slice none 0 0, .slice none 0 0] 25 ∧ PrOk ((w.alloc (.cells #[sV o.x, .int .i64 o.a.k, .int .i64 o.a.n, sV o.a.s, .slice o.a.la o.a.ln o.a.lc, .slice o.a.fa o.a.fn o.a.fc, .int .i64 o.b.k, .int .i64 o.b.n, sV o.b.s, .slice o.b.la o.b.ln o.b.lc, .slice o.b.fa o.b.fn o.b.fc, .bool o.ia, .bool o.ib] 44)).alloc (.cells #[.int .i64 0, .int .i64 0, .string ⟨#[]⟩, .slice none 0 0, .slice none 0 0] 25)) o (x, (oa, ob)) from ⟨hb0, (Own.new _ _ _).alloc _, Own.new_at (by rw [size_alloc]) _ _, hX.all hb0⟩)
  have HC := Lib.hid hC
  have HR := Lib.hid (And.intro hza hzb)
  clear hb0 hX hC hza hzb
  go_enter Try.func31, Try.ntmps31
  go_upto_region 1 with (fail)
  change Code.wp Try.prog _ _ _ ((w.alloc (.cells #[sV o.x, .int .i64 o.a.k, .int .i64 o.a.n, sV o.a.s, .slice o.a.la o.a.ln o.a.lc, .slice o.a.fa o.a.fn o.a.fc, .int .i64 o.b.k, .int .i64 o.b.n, sV o.b.s, .slice o.b.la o.b.ln o.b.lc, .slice o.b.fa o.b.fn o.b.fc, .bool o.ia, .bool o.ib] 44)).alloc (.cells #[.int .i64 0, .int .i64 0, .string ⟨#[]⟩, .slice none 0 0, .slice none 0 0] 25))
  generalize ((w.alloc (.cells #[sV o.x, .int .i64 o.a.k, .int .i64 o.a.n, sV o.a.s, .slice o.a.la o.a.ln o.a.lc, .slice o.a.fa o.a.fn o.a.fc, .int .i64 o.b.k, .int .i64 o.b.n, sV o.b.s, .slice o.b.la o.b.ln o.b.lc, .slice o.b.fa o.b.fn o.b.fc, .bool o.ia, .bool o.ib] 44)).alloc (.cells #[.int .i64 0, .int .i64 0, .string ⟨#[]⟩, .slice none 0 0, .slice none 0 0] 25)) = V at *
  have hVl := HO.out.2.2.1.lt
  have hia := HO.out.2.2.2.ia
  have hib := HO.out.2.2.2.ib
  cases ob with
  | none =>
    have HF : Hid (gD oa none = some T0) := Lib.hid rfl
    have e12 : V.cell? ⟨w.heap.size, 12, none⟩ = some (.bool false) := by have h := HO.out.2.1.cell (i := 12) rfl; rw [hib] at h; exact h
    clear hia hib
    go_wp2_with fail
    refine (null_any _).mono ?_
    rintro e w1 ⟨rfl, hb1⟩
    have H1 := Lib.hid (And.intro (below_all HO.out.1 hb1) (And.intro (HO.out.2.2.1.all hb1) (isA_zero w1 (fun b => w.heap.size + 2 ≤ b))))
    clear hb1 e12
    have oFin := H1.out.2.1
    have q0 := oFin.cell (i := 0) rfl
    have q1 := oFin.cell (i := 1) rfl
    have q2 := oFin.cell (i := 2) rfl
    have q3 := oFin.cell (i := 3) rfl
    have q4 := oFin.cell (i := 4) rfl
    have g0 := oFin.frozen 0
    have g1 := oFin.frozen 1
    have g2 := oFin.frozen 2
    have g3 := oFin.frozen 3
    have g4 := oFin.frozen 4
    have HU := Lib.hid (And.intro (own_put5 oFin (.int .i64 0) (.int .i64 0) (.string ⟨#[]⟩) (.slice none 0 0) (.slice none 0 0)) (And.intro (below_put5 (b := w.heap.size + 1) H1.out.1 (by omega) (.int .i64 0) (.int .i64 0) (.string ⟨#[]⟩) (.slice none 0 0) (.slice none 0 0)) (H1.out.2.2.put5 (b := w.heap.size + 1) (by omega) (.int .i64 0) (.int .i64 0) (.string ⟨#[]⟩) (.slice none 0 0) (.slice none 0 0))))
    clear oFin
    go_wp2
    clear q0 q1 q2 q3 q4 g0 g1 g2 g3 g4
    change bodyPost Try.prog Try.f31 _ _ _ (put5 w1 (w.heap.size + 1) (.int .i64 0) (.int .i64 0) (.string ⟨#[]⟩) (.slice none 0 0) (.slice none 0 0))
    generalize put5 w1 (w.heap.size + 1) (.int .i64 0) (.int .i64 0) (.string ⟨#[]⟩) (.slice none 0 0) (.slice none 0 0) = U at *
    have c0 := HU.out.1.cell (i := 0) rfl
    have c1 := HU.out.1.cell (i := 1) rfl
    have c2 := HU.out.1.cell (i := 2) rfl
    have c3 := HU.out.1.cell (i := 3) rfl
    have c4 := HU.out.1.cell (i := 4) rfl
    exact bodyPost_ret (v := .tuple #[.agg #[.int .i64 0, .int .i64 0, .string ⟨#[]⟩, .slice none 0 0, .slice none 0 0], .bool true]) (by simp [results, Try.results31, go_sem, c0, c1, c2, c3, c4]) rfl ⟨VC0, by rw [HF.out]; rfl, HU.out.2.1, fun r hr => by rw [HF.out] at hr; cases hr; exact HU.out.2.2.mono (fun b hb => by omega)⟩
  | some b =>
    cases oa with
    | none =>
      have HF : Hid (gD none (some b) = some b) := Lib.hid rfl
      have C := Lib.hid (dup_isA o.b b V HO.out.2.2.2.b HR.out.2)
      have e6 := HO.out.2.1.cell (i := 6) rfl
      have e7 := HO.out.2.1.cell (i := 7) rfl
      have e8 := HO.out.2.1.cell (i := 8) rfl
      have e9 := HO.out.2.1.cell (i := 9) rfl
      have e10 := HO.out.2.1.cell (i := 10) rfl
      have e12 : V.cell? ⟨w.heap.size, 12, none⟩ = some (.bool true) := by have h := HO.out.2.1.cell (i := 12) rfl; rw [hib] at h; exact h
      have e11 : V.cell? ⟨w.heap.size, 11, none⟩ = some (.bool false) := by have h := HO.out.2.1.cell (i := 11) rfl; rw [hia] at h; exact h
      clear hia hib
      go_wp2_with fail
      refine C.out.mono ?_
      rintro e w1 ⟨g, rfl, hb1, hD⟩
      have H1 := Lib.hid (And.intro (below_all HO.out.1 hb1) (And.intro (HO.out.2.2.1.all hb1) hD))
      clear C hb1 hD e6 e7 e8 e9 e10 e11 e12
      have oFin := H1.out.2.1
      have q0 := oFin.cell (i := 0) rfl
      have q1 := oFin.cell (i := 1) rfl
      have q2 := oFin.cell (i := 2) rfl
      have q3 := oFin.cell (i := 3) rfl
      have q4 := oFin.cell (i := 4) rfl
      have g0 := oFin.frozen 0
      have g1 := oFin.frozen 1
      have g2 := oFin.frozen 2
      have g3 := oFin.frozen 3
      have g4 := oFin.frozen 4
      have HU := Lib.hid (And.intro (own_put5 oFin (.int .i64 g.k) (.int .i64 g.n) (sV g.s) (.slice g.la g.ln g.lc) (.slice g.fa g.fn g.fc)) (And.intro (below_put5 (b := w.heap.size + 1) H1.out.1 (by omega) (.int .i64 g.k) (.int .i64 g.n) (sV g.s) (.slice g.la g.ln g.lc) (.slice g.fa g.fn g.fc)) (H1.out.2.2.put5 (b := w.heap.size + 1) (by omega) (.int .i64 g.k) (.int .i64 g.n) (sV g.s) (.slice g.la g.ln g.lc) (.slice g.fa g.fn g.fc))))
      clear oFin
      go_wp2
      clear q0 q1 q2 q3 q4 g0 g1 g2 g3 g4
      change bodyPost Try.prog Try.f31 _ _ _ (put5 w1 (w.heap.size + 1) (.int .i64 g.k) (.int .i64 g.n) (sV g.s) (.slice g.la g.ln g.lc) (.slice g.fa g.fn g.fc))
      generalize put5 w1 (w.heap.size + 1) (.int .i64 g.k) (.int .i64 g.n) (sV g.s) (.slice g.la g.ln g.lc) (.slice g.fa g.fn g.fc) = U at *
      have c0 := HU.out.1.cell (i := 0) rfl
      have c1 := HU.out.1.cell (i := 1) rfl
      have c2 := HU.out.1.cell (i := 2) rfl
      have c3 := HU.out.1.cell (i := 3) rfl
      have c4 := HU.out.1.cell (i := 4) rfl
      exact bodyPost_ret (v := .tuple #[.agg #[.int .i64 g.k, .int .i64 g.n, sV g.s, .slice g.la g.ln g.lc, .slice g.fa g.fn g.fc], .bool true]) (by simp [results, Try.results31, go_sem, c0, c1, c2, c3, c4]) rfl ⟨g, by rw [HF.out]; rfl, HU.out.2.1, fun r hr => by rw [HF.out] at hr; cases hr; exact HU.out.2.2.mono (fun b hb => by omega)⟩
    | some a =>
      by_cases hmm : kd a = 5 ∧ kd b = 5
      · obtain ⟨hka, hkb⟩ := hmm
        have HG : Hid (gD (some a) (some b) = (if fls (difT b a) = [] then none else some (difT b a))) := Lib.hid (by simp only [gD]; rw [if_pos ⟨hka, hkb⟩])
        have hkA : o.a.k = 5 := by rw [is_kd HO.out.2.2.2.a]; exact hka
        have hkB : o.b.k = 5 := by rw [is_kd HO.out.2.2.2.b]; exact hkb
        have C := Lib.hid (show Calls Try.prog 15 #[.agg #[.int .i64 5, .int .i64 o.a.n, sV o.a.s, .slice o.a.la o.a.ln o.a.lc, .slice o.a.fa o.a.fn o.a.fc], .agg #[.int .i64 5, .int .i64 o.b.n, sV o.b.s, .slice o.b.la o.b.ln o.b.lc, .slice o.b.fa o.b.fn o.b.fc]] V _ from by
          have h : Calls Try.prog 15 #[.agg #[.int .i64 o.a.k, .int .i64 o.a.n, sV o.a.s, .slice o.a.la o.a.ln o.a.lc, .slice o.a.fa o.a.fn o.a.fc], .agg #[.int .i64 o.b.k, .int .i64 o.b.n, sV o.b.s, .slice o.b.la o.b.ln o.b.lc, .slice o.b.fa o.b.fn o.b.fc]] V _ := HC.out a b rfl rfl hka hkb o.a o.b V HO.out.2.2.2.a HO.out.2.2.2.b
          rw [hkA, hkB] at h
          exact h)
        have HV2 := Lib.hid (show kd (difT b a) = 5 by rw [kd_dif]; exact hkb)
        clear hka hkb
        have e1 := HO.out.2.1.cell (i := 1) rfl
        have e2 := HO.out.2.1.cell (i := 2) rfl
        have e3 := HO.out.2.1.cell (i := 3) rfl
        have e4 := HO.out.2.1.cell (i := 4) rfl
        have e5 := HO.out.2.1.cell (i := 5) rfl
        have e6 := HO.out.2.1.cell (i := 6) rfl
        have e7 := HO.out.2.1.cell (i := 7) rfl
        have e8 := HO.out.2.1.cell (i := 8) rfl
        have e9 := HO.out.2.1.cell (i := 9) rfl
        have e10 := HO.out.2.1.cell (i := 10) rfl
        have e12 : V.cell? ⟨w.heap.size, 12, none⟩ = some (.bool true) := by have h := HO.out.2.1.cell (i := 12) rfl; rw [hib] at h; exact h
        have e11 : V.cell? ⟨w.heap.size, 11, none⟩ = some (.bool true) := by have h := HO.out.2.1.cell (i := 11) rfl; rw [hia] at h; exact h
        clear hia hib
        rw [hkA] at e1
        rw [hkB] at e6
        clear hkA hkB
        go_wp2_with fail
        refine C.out.mono ?_
        rintro e w1 ⟨g, rfl, hb1, hD⟩
        have hs1 := hb1.size
        have HGN := Lib.hid (isA_fn hD HV2.out)
        have hbA := below_alloc w1 (.cells #[.int .i64 g.k, .int .i64 g.n, sV g.s, .slice g.la g.ln g.lc, .slice g.fa g.fn g.fc] 25)
        have HM := Lib.hid (show Below w.heap.size w (w1.alloc (.cells #[.int .i64 g.k, .int .i64 g.n, sV g.s, .slice g.la g.ln g.lc, .slice g.fa g.fn g.fc] 25)) ∧ Own (w1.alloc (.cells #[.int .i64 g.k, .int .i64 g.n, sV g.s, .slice g.la g.ln g.lc, .slice g.fa g.fn g.fc] 25)) (w.heap.size + 1) [.int .i64 0, .int .i64 0, .string ⟨#[]⟩, .slice none 0 0, .slice none 0 0] 25 ∧ Own (w1.alloc (.cells #[.int .i64 g.k, .int .i64 g.n, sV g.s, .slice g.la g.ln g.lc, .slice g.fa g.fn g.fc] 25)) w1.heap.size [.int .i64 g.k, .int .i64 g.n, sV g.s, .slice g.la g.ln g.lc, .slice g.fa g.fn g.fc] 25 ∧ IsA (w1.alloc (.cells #[.int .i64 g.k, .int .i64 g.n, sV g.s, .slice g.la g.ln g.lc, .slice g.fa g.fn g.fc] 25)) (fun b => V.heap.size ≤ b) g (difT b a) from ⟨below_all HO.out.1 (below_all hb1 hbA), (HO.out.2.2.1.all hb1).all hbA, Own.new _ _ _, hD.all hbA⟩)
        clear C hb1 hD hbA e1 e2 e3 e4 e5 e6 e7 e8 e9 e10 e11 e12
        go_upto_region 7 with (fail)
        change Code.wp Try.prog _ _ _ (w1.alloc (.cells #[.int .i64 g.k, .int .i64 g.n, sV g.s, .slice g.la g.ln g.lc, .slice g.fa g.fn g.fc] 25))
        generalize (w1.alloc (.cells #[.int .i64 g.k, .int .i64 g.n, sV g.s, .slice g.la g.ln g.lc, .slice g.fa g.fn g.fc] 25)) = W2 at *
        generalize w1.heap.size = mb at *
        by_cases hF : fls (difT b a) = []
        · have HF : Hid (gD (some a) (some b) = none) := Lib.hid (by rw [HG.out, if_pos hF])
          have hgt : decide ((0 : Int) < (g.fn : Int)) = false := by rw [HGN.out, hF]; rfl
          have HFF := Lib.hid hF
          clear hF
          have s0 := HM.out.2.2.1.cell (i := 0) rfl
          have s1 := HM.out.2.2.1.cell (i := 1) rfl
          have s2 := HM.out.2.2.1.cell (i := 2) rfl
          have s3 := HM.out.2.2.1.cell (i := 3) rfl
          have s4 := HM.out.2.2.1.cell (i := 4) rfl
          have oFin := HM.out.2.1
          have q0 := oFin.cell (i := 0) rfl
          have q1 := oFin.cell (i := 1) rfl
          have q2 := oFin.cell (i := 2) rfl
          have q3 := oFin.cell (i := 3) rfl
          have q4 := oFin.cell (i := 4) rfl
          have g0 := oFin.frozen 0
          have g1 := oFin.frozen 1
          have g2 := oFin.frozen 2
          have g3 := oFin.frozen 3
          have g4 := oFin.frozen 4
          have HU := Lib.hid (And.intro (own_put5 oFin (.int .i64 g.k) (.int .i64 g.n) (sV g.s) (.slice g.la g.ln g.lc) (.slice g.fa g.fn g.fc)).drew (And.intro (below_put5 (b := w.heap.size + 1) HM.out.1 (by omega) (.int .i64 g.k) (.int .i64 g.n) (sV g.s) (.slice g.la g.ln g.lc) (.slice g.fa g.fn g.fc)).drew ((HM.out.2.2.2.put5 (b := w.heap.size + 1) (by omega) (.int .i64 g.k) (.int .i64 g.n) (sV g.s) (.slice g.la g.ln g.lc) (.slice g.fa g.fn g.fc)).all (Below.refl _ _).drew)))
          clear oFin
          go_region
          go_wp2
          clear q0 q1 q2 q3 q4 g0 g1 g2 g3 g4 s0 s1 s2 s3 s4
          change bodyPost Try.prog Try.f31 _ _ _ (put5 W2 (w.heap.size + 1) (.int .i64 g.k) (.int .i64 g.n) (sV g.s) (.slice g.la g.ln g.lc) (.slice g.fa g.fn g.fc)).drew
          generalize (put5 W2 (w.heap.size + 1) (.int .i64 g.k) (.int .i64 g.n) (sV g.s) (.slice g.la g.ln g.lc) (.slice g.fa g.fn g.fc)).drew = U at *
          have c0 := HU.out.1.cell (i := 0) rfl
          have c1 := HU.out.1.cell (i := 1) rfl
          have c2 := HU.out.1.cell (i := 2) rfl
          have c3 := HU.out.1.cell (i := 3) rfl
          have c4 := HU.out.1.cell (i := 4) rfl
          have hfz : g.fn = 0 := by rw [HGN.out, HFF.out]; rfl
          exact bodyPost_ret (v := .tuple #[.agg #[.int .i64 g.k, .int .i64 g.n, sV g.s, .slice g.la g.ln g.lc, .slice g.fa g.fn g.fc], .bool false]) (by simp [results, Try.results31, go_sem, c0, c1, c2, c3, c4, hfz]) rfl ⟨g, by rw [HF.out]; rfl, HU.out.2.1, fun r hr => by rw [HF.out] at hr; cases hr⟩
        · have HF : Hid (gD (some a) (some b) = some (difT b a)) := Lib.hid (by rw [HG.out, if_neg hF])
          have hgt : decide ((0 : Int) < (g.fn : Int)) = true := by
            rw [HGN.out, decide_eq_true_eq]
            have := List.length_pos_iff.2 hF
            omega
          have HFF := Lib.hid hF
          clear hF
          have s0 := HM.out.2.2.1.cell (i := 0) rfl
          have s1 := HM.out.2.2.1.cell (i := 1) rfl
          have s2 := HM.out.2.2.1.cell (i := 2) rfl
          have s3 := HM.out.2.2.1.cell (i := 3) rfl
          have s4 := HM.out.2.2.1.cell (i := 4) rfl
          have oFin := HM.out.2.1
          have q0 := oFin.cell (i := 0) rfl
          have q1 := oFin.cell (i := 1) rfl
          have q2 := oFin.cell (i := 2) rfl
          have q3 := oFin.cell (i := 3) rfl
          have q4 := oFin.cell (i := 4) rfl
          have g0 := oFin.frozen 0
          have g1 := oFin.frozen 1
          have g2 := oFin.frozen 2
          have g3 := oFin.frozen 3
          have g4 := oFin.frozen 4
          have HU := Lib.hid (And.intro (own_put5 oFin (.int .i64 g.k) (.int .i64 g.n) (sV g.s) (.slice g.la g.ln g.lc) (.slice g.fa g.fn g.fc)).drew (And.intro (below_put5 (b := w.heap.size + 1) HM.out.1 (by omega) (.int .i64 g.k) (.int .i64 g.n) (sV g.s) (.slice g.la g.ln g.lc) (.slice g.fa g.fn g.fc)).drew ((HM.out.2.2.2.put5 (b := w.heap.size + 1) (by omega) (.int .i64 g.k) (.int .i64 g.n) (sV g.s) (.slice g.la g.ln g.lc) (.slice g.fa g.fn g.fc)).all (Below.refl _ _).drew)))
          clear oFin
          go_region
          go_wp2
          clear q0 q1 q2 q3 q4 g0 g1 g2 g3 g4 s0 s1 s2 s3 s4
          change bodyPost Try.prog Try.f31 _ _ _ (put5 W2 (w.heap.size + 1) (.int .i64 g.k) (.int .i64 g.n) (sV g.s) (.slice g.la g.ln g.lc) (.slice g.fa g.fn g.fc)).drew
          generalize (put5 W2 (w.heap.size + 1) (.int .i64 g.k) (.int .i64 g.n) (sV g.s) (.slice g.la g.ln g.lc) (.slice g.fa g.fn g.fc)).drew = U at *
          have c0 := HU.out.1.cell (i := 0) rfl
          have c1 := HU.out.1.cell (i := 1) rfl
          have c2 := HU.out.1.cell (i := 2) rfl
          have c3 := HU.out.1.cell (i := 3) rfl
          have c4 := HU.out.1.cell (i := 4) rfl
          have hfz : 0 < g.fn := by rw [HGN.out]; exact List.length_pos_iff.2 HFF.out
          exact bodyPost_ret (v := .tuple #[.agg #[.int .i64 g.k, .int .i64 g.n, sV g.s, .slice g.la g.ln g.lc, .slice g.fa g.fn g.fc], .bool true]) (by simp [results, Try.results31, go_sem, c0, c1, c2, c3, c4, hfz]) rfl ⟨g, by rw [HF.out]; rfl, HU.out.2.1, fun r hr => by rw [HF.out] at hr; cases hr; exact HU.out.2.2.mono (fun b hb => by omega)⟩
      · have HG : Hid (gD (some a) (some b) = (if cmpT a b = 0 then none else some b)) := Lib.hid (by simp only [gD]; rw [if_neg hmm])
        have HM : Hid (¬ (o.a.k = 5 ∧ o.b.k = 5)) := Lib.hid (by rw [is_kd HO.out.2.2.2.a, is_kd HO.out.2.2.2.b]; exact hmm)
        have C := Lib.hid (equal_any a b o.a o.b V HO.out.2.2.2.a HO.out.2.2.2.b)
        have HD := Lib.hid (fun w1 (h : Below V.heap.size V w1) => dup_isA o.b b w1 (HO.out.2.2.2.b.all h) HR.out.2)
        clear hmm
        have e1 := HO.out.2.1.cell (i := 1) rfl
        have e2 := HO.out.2.1.cell (i := 2) rfl
        have e3 := HO.out.2.1.cell (i := 3) rfl
        have e4 := HO.out.2.1.cell (i := 4) rfl
        have e5 := HO.out.2.1.cell (i := 5) rfl
        have e6 := HO.out.2.1.cell (i := 6) rfl
        have e7 := HO.out.2.1.cell (i := 7) rfl
        have e8 := HO.out.2.1.cell (i := 8) rfl
        have e9 := HO.out.2.1.cell (i := 9) rfl
        have e10 := HO.out.2.1.cell (i := 10) rfl
        have e12 : V.cell? ⟨w.heap.size, 12, none⟩ = some (.bool true) := by have h := HO.out.2.1.cell (i := 12) rfl; rw [hib] at h; exact h
        have e11 : V.cell? ⟨w.heap.size, 11, none⟩ = some (.bool true) := by have h := HO.out.2.1.cell (i := 11) rfl; rw [hia] at h; exact h
        clear hia hib
        go_upto_region 5 with (fail)
        go_cut [17] (fun sg wx => sg = .bool false ∧ wx = V)
        case first =>
          by_cases hka : o.a.k = 5
          · have hkb : ¬ o.b.k = 5 := fun h => HM.out ⟨hka, h⟩
            have ha : (o.a.k == 5) = true := by simpa using hka
            have hb : (o.b.k == 5) = false := by simpa using hkb
            clear hka hkb
            go_wp2
            go_meet
            exact ⟨rfl, rfl⟩
          · have ha : (o.a.k == 5) = false := by simpa using hka
            clear hka
            go_wp2
            go_meet
            exact ⟨rfl, rfl⟩
        case rest =>
          obtain ⟨rfl, hwc⟩ := hcut
          subst hwc
          go_wp2_with fail
          refine C.out.mono ?_
          rintro e w1 ⟨rfl, hb1⟩
          by_cases h0 : cmpT a b = 0
          · have HF : Hid (gD (some a) (some b) = none) := Lib.hid (by rw [HG.out, if_pos h0])
            have hz : (cmpT a b == 0) = true := by rw [h0]; rfl
            clear h0
            have H1 := Lib.hid (And.intro (below_all HO.out.1 hb1) (And.intro (HO.out.2.2.1.all hb1) (isA_zero w1 (fun b => w.heap.size + 2 ≤ b))))
            clear C hb1 e1 e2 e3 e4 e5 e6 e7 e8 e9 e10 e11 e12
            have oFin := H1.out.2.1
            have q0 := oFin.cell (i := 0) rfl
            have q1 := oFin.cell (i := 1) rfl
            have q2 := oFin.cell (i := 2) rfl
            have q3 := oFin.cell (i := 3) rfl
            have q4 := oFin.cell (i := 4) rfl
            have g0 := oFin.frozen 0
            have g1 := oFin.frozen 1
            have g2 := oFin.frozen 2
            have g3 := oFin.frozen 3
            have g4 := oFin.frozen 4
            have HU := Lib.hid (And.intro (own_put5 oFin (.int .i64 0) (.int .i64 0) (.string ⟨#[]⟩) (.slice none 0 0) (.slice none 0 0)) (And.intro (below_put5 (b := w.heap.size + 1) H1.out.1 (by omega) (.int .i64 0) (.int .i64 0) (.string ⟨#[]⟩) (.slice none 0 0) (.slice none 0 0)) (H1.out.2.2.put5 (b := w.heap.size + 1) (by omega) (.int .i64 0) (.int .i64 0) (.string ⟨#[]⟩) (.slice none 0 0) (.slice none 0 0))))
            clear oFin
            go_wp2
            clear q0 q1 q2 q3 q4 g0 g1 g2 g3 g4
            change bodyPost Try.prog Try.f31 _ _ _ (put5 w1 (w.heap.size + 1) (.int .i64 0) (.int .i64 0) (.string ⟨#[]⟩) (.slice none 0 0) (.slice none 0 0))
            generalize put5 w1 (w.heap.size + 1) (.int .i64 0) (.int .i64 0) (.string ⟨#[]⟩) (.slice none 0 0) (.slice none 0 0) = U at *
            have c0 := HU.out.1.cell (i := 0) rfl
            have c1 := HU.out.1.cell (i := 1) rfl
            have c2 := HU.out.1.cell (i := 2) rfl
            have c3 := HU.out.1.cell (i := 3) rfl
            have c4 := HU.out.1.cell (i := 4) rfl
            exact bodyPost_ret (v := .tuple #[.agg #[.int .i64 0, .int .i64 0, .string ⟨#[]⟩, .slice none 0 0, .slice none 0 0], .bool false]) (by simp [results, Try.results31, go_sem, c0, c1, c2, c3, c4]) rfl ⟨VC0, by rw [HF.out]; rfl, HU.out.2.1, fun r hr => by rw [HF.out] at hr; cases hr⟩
          · have HF : Hid (gD (some a) (some b) = some b) := Lib.hid (by rw [HG.out, if_neg h0])
            have hz : (cmpT a b == 0) = false := by rw [beq_eq_false_iff_ne]; exact h0
            have C2 := Lib.hid (HD.out w1 hb1)
            have hs1 := hb1.size
            have H2 := Lib.hid (And.intro (below_all HO.out.1 hb1) (And.intro (HO.out.2.2.1.all hb1) (HO.out.2.1.all hb1)))
            clear C hb1 h0 e1 e2 e3 e4 e5 e6 e7 e8 e9 e10 e11 e12
            have e6 := H2.out.2.2.cell (i := 6) rfl
            have e7 := H2.out.2.2.cell (i := 7) rfl
            have e8 := H2.out.2.2.cell (i := 8) rfl
            have e9 := H2.out.2.2.cell (i := 9) rfl
            have e10 := H2.out.2.2.cell (i := 10) rfl
            go_wp2_with fail
            refine C2.out.mono ?_
            rintro e w2 ⟨g, rfl, hb2, hDD⟩
            have H1 := Lib.hid (And.intro (below_all H2.out.1 hb2) (And.intro (H2.out.2.1.all hb2) hDD))
            clear C2 hb2 hDD e6 e7 e8 e9 e10
            have oFin := H1.out.2.1
            have q0 := oFin.cell (i := 0) rfl
            have q1 := oFin.cell (i := 1) rfl
            have q2 := oFin.cell (i := 2) rfl
            have q3 := oFin.cell (i := 3) rfl
            have q4 := oFin.cell (i := 4) rfl
            have g0 := oFin.frozen 0
            have g1 := oFin.frozen 1
            have g2 := oFin.frozen 2
            have g3 := oFin.frozen 3
            have g4 := oFin.frozen 4
            have HU := Lib.hid (And.intro (own_put5 oFin (.int .i64 g.k) (.int .i64 g.n) (sV g.s) (.slice g.la g.ln g.lc) (.slice g.fa g.fn g.fc)) (And.intro (below_put5 (b := w.heap.size + 1) H1.out.1 (by omega) (.int .i64 g.k) (.int .i64 g.n) (sV g.s) (.slice g.la g.ln g.lc) (.slice g.fa g.fn g.fc)) (H1.out.2.2.put5 (b := w.heap.size + 1) (by omega) (.int .i64 g.k) (.int .i64 g.n) (sV g.s) (.slice g.la g.ln g.lc) (.slice g.fa g.fn g.fc))))
            clear oFin
            go_wp2
            clear q0 q1 q2 q3 q4 g0 g1 g2 g3 g4
            change bodyPost Try.prog Try.f31 _ _ _ (put5 w2 (w.heap.size + 1) (.int .i64 g.k) (.int .i64 g.n) (sV g.s) (.slice g.la g.ln g.lc) (.slice g.fa g.fn g.fc))
            generalize put5 w2 (w.heap.size + 1) (.int .i64 g.k) (.int .i64 g.n) (sV g.s) (.slice g.la g.ln g.lc) (.slice g.fa g.fn g.fc) = U at *
            have c0 := HU.out.1.cell (i := 0) rfl
            have c1 := HU.out.1.cell (i := 1) rfl
            have c2 := HU.out.1.cell (i := 2) rfl
            have c3 := HU.out.1.cell (i := 3) rfl
            have c4 := HU.out.1.cell (i := 4) rfl
            exact bodyPost_ret (v := .tuple #[.agg #[.int .i64 g.k, .int .i64 g.n, sV g.s, .slice g.la g.ln g.lc, .slice g.fa g.fn g.fc], .bool true]) (by simp [results, Try.results31, go_sem, c0, c1, c2, c3, c4]) rfl ⟨g, by rw [HF.out]; rfl, HU.out.2.1, fun r hr => by rw [HF.out] at hr; cases hr; exact HU.out.2.2.mono (fun b hb => by omega)⟩
end Go.Proofs.Ytinenbgdkchghaa
