/- The program's composeField: what becomes of one pair, over Compose of what is in it. -/
import Derived.Test.YtinenbgdkchghaaHc
set_option linter.unusedSimpArgs false
set_option linter.unusedVariables false
namespace Go.Proofs.Ytinenbgdkchghaa
open Go.RowKit Go.Sort Go.Proofs.LawFrame

set_option maxHeartbeats 8000000 in
set_option maxRecDepth 4000 in
theorem composeField_of (o : PC) (x : Str) (oa ob : Option T) (r : T) (w : World) (hX : PrOk w o (x, (oa, ob))) (hr : gC oa ob = some r) (hza : (oa.getD T0).size ≤ 4000) (hzb : (ob.getD T0).size ≤ 4000)
    (hC : ∀ (a b : T), oa = some a → ob = some b → ∀ (c d : VC) (W : World), Is W c a → Is W d b → Calls Try.prog 17 #[c.val, d.val] W fun e w' => ∃ c' : VC, e = .returned c'.val ∧ Below W.heap.size W w' ∧ IsA w' (fun b => W.heap.size ≤ b) c' (cpoT b a)) :
    Calls Try.prog 34 #[.agg #[sV o.x, .int .i64 o.a.k, .int .i64 o.a.n, sV o.a.s, .slice o.a.la o.a.ln o.a.lc, .slice o.a.fa o.a.fn o.a.fc, .int .i64 o.b.k, .int .i64 o.b.n, sV o.b.s, .slice o.b.la o.b.ln o.b.lc, .slice o.b.fa o.b.fn o.b.fc, .bool o.ia, .bool o.ib]] w fun e w' => ∃ c' : VC, e = .returned c'.val ∧ Below w.heap.size w w' ∧ IsA w' (fun b => w.heap.size ≤ b) c' r := by
  have hb0 : Below w.heap.size w ((w.alloc (.cells #[sV o.x, .int .i64 o.a.k, .int .i64 o.a.n, sV o.a.s, .slice o.a.la o.a.ln o.a.lc, .slice o.a.fa o.a.fn o.a.fc, .int .i64 o.b.k, .int .i64 o.b.n, sV o.b.s, .slice o.b.la o.b.ln o.b.lc, .slice o.b.fa o.b.fn o.b.fc, .bool o.ia, .bool o.ib] 44)).alloc (.cells #[.int .i64 0, .int .i64 0, .string ⟨#[]⟩, .slice none 0 0, .slice none 0 0] 25)) := ((Below.refl _ _).alloc (Nat.le_refl _) _).alloc (by simp) _
  have HO := Lib.hid (show Below w.heap.size w ((w.alloc (.cells #[sV o.x, .int .i64 o.a.k, .int .i64 o.a.n, sV o.a.s, .slice o.a.la o.a.ln o.a.lc, .slice o.a.fa o.a.fn o.a.fc, .int .i64 o.b.k, .int .i64 o.b.n, sV o.b.s, .slice o.b.la o.b.ln o.b.lc, .slice o.b.fa o.b.fn o.b.fc, .bool o.ia, .bool o.ib] 44)).alloc (.cells #[.int .i64 0, .int .i64 0, .string ⟨#[]⟩, .slice none 0 0, .slice none 0 0] 25)) ∧ Own ((w.alloc (.cells #[sV o.x, .int .i64 o.a.k, .int .i64 o.a.n, sV o.a.s, .slice o.a.la o.a.ln o.a.lc, .slice o.a.fa o.a.fn o.a.fc, .int .i64 o.b.k, .int .i64 o.b.n, sV o.b.s, .slice o.b.la o.b.ln o.b.lc, .slice o.b.fa o.b.fn o.b.fc, .bool o.ia, .bool o.ib] 44)).alloc (.cells #[.int .i64 0, .int .i64 0, .string ⟨#[]⟩, .slice none 0 0, .slice none 0 0] 25)) w.heap.size [sV o.x, .int .i64 o.a.k, .int .i64 o.a.n, sV o.a.s, .slice o.a.la o.a.ln o.a.lc, .slice o.a.fa o.a.fn o.a.fc, .int .i64 o.b.k, .int .i64 o.b.n, sV o.b.s, .slice o.b.la o.b.ln o.b.lc, .slice o.b.fa o.b.fn o.b.fc, .bool o.ia, .bool o.ib] 44 ∧ Own ((w.alloc (.cells #[sV o.x, .int .i64 o.a.k, .int .i64 o.a.n, sV o.a.s, .slice o.a.la o.a.ln o.a.lc, .slice o.a.fa o.a.fn o.a.fc, .int .i64 o.b.k, .int .i64 o.b.n, sV o.b.s, .slice o.b.la o.b.ln o.b.lc, .slice o.b.fa o.b.fn o.b.fc, .bool o.ia, .bool o.ib] 44)).alloc (.cells #[.int .i64 0, .int .i64 0, .string ⟨#[]⟩, .slice none 0 0, .slice none 0 0] 25)) (w.heap.size + 1) [.int .i64 0, .int .i64 0, .string ⟨#[]⟩, .slice none 0 0, .slice none 0 0] 25 ∧ PrOk ((w.alloc (.cells #[sV o.x, .int .i64 o.a.k, .int .i64 o.a.n, sV o.a.s, .slice o.a.la o.a.ln o.a.lc, .slice o.a.fa o.a.fn o.a.fc, .int .i64 o.b.k, .int .i64 o.b.n, sV o.b.s, .slice o.b.la o.b.ln o.b.lc, .slice o.b.fa o.b.fn o.b.fc, .bool o.ia, .bool o.ib] 44)).alloc (.cells #[.int .i64 0, .int .i64 0, .string ⟨#[]⟩, .slice none 0 0, .slice none 0 0] 25)) o (x, (oa, ob)) from ⟨hb0, (Own.new _ _ _).alloc _, Own.new_at (by rw [size_alloc]) _ _, hX.all hb0⟩)
  have HC := Lib.hid hC
  have HR := Lib.hid (And.intro hr (And.intro hza hzb))
  clear hb0 hX hC hr hza hzb
  go_enter Try.func34, Try.ntmps34
  go_upto_region 1 with (fail)
  change Code.wp Try.prog _ _ _ ((w.alloc (.cells #[sV o.x, .int .i64 o.a.k, .int .i64 o.a.n, sV o.a.s, .slice o.a.la o.a.ln o.a.lc, .slice o.a.fa o.a.fn o.a.fc, .int .i64 o.b.k, .int .i64 o.b.n, sV o.b.s, .slice o.b.la o.b.ln o.b.lc, .slice o.b.fa o.b.fn o.b.fc, .bool o.ia, .bool o.ib] 44)).alloc (.cells #[.int .i64 0, .int .i64 0, .string ⟨#[]⟩, .slice none 0 0, .slice none 0 0] 25))
  generalize ((w.alloc (.cells #[sV o.x, .int .i64 o.a.k, .int .i64 o.a.n, sV o.a.s, .slice o.a.la o.a.ln o.a.lc, .slice o.a.fa o.a.fn o.a.fc, .int .i64 o.b.k, .int .i64 o.b.n, sV o.b.s, .slice o.b.la o.b.ln o.b.lc, .slice o.b.fa o.b.fn o.b.fc, .bool o.ia, .bool o.ib] 44)).alloc (.cells #[.int .i64 0, .int .i64 0, .string ⟨#[]⟩, .slice none 0 0, .slice none 0 0] 25)) = V at *
  have hVl := HO.out.2.2.1.lt
  have hia := HO.out.2.2.2.ia
  have hib := HO.out.2.2.2.ib
  cases ob with
  | none =>
    obtain ⟨a, rfl, rfl⟩ : ∃ a, oa = some a ∧ r = a := by
      cases oa with
      | none => exact absurd HR.out.1 (by simp [gC])
      | some a => exact ⟨a, rfl, by have h := HR.out.1; simp [gC] at h; exact h.symm⟩
    have C := Lib.hid (dup_isA o.a r V HO.out.2.2.2.a HR.out.2.1)
    have e1 := HO.out.2.1.cell (i := 1) rfl
    have e2 := HO.out.2.1.cell (i := 2) rfl
    have e3 := HO.out.2.1.cell (i := 3) rfl
    have e4 := HO.out.2.1.cell (i := 4) rfl
    have e5 := HO.out.2.1.cell (i := 5) rfl
    have e12 : V.cell? ⟨w.heap.size, 12, none⟩ = some (.bool false) := by have h := HO.out.2.1.cell (i := 12) rfl; rw [hib] at h; exact h
    clear hia hib
    go_wp2_with fail
    refine C.out.mono ?_
    rintro e w1 ⟨g, rfl, hb1, hD⟩
    have H1 := Lib.hid (And.intro (below_all HO.out.1 hb1) (And.intro (HO.out.2.2.1.all hb1) hD))
    clear C hb1 hD e1 e2 e3 e4 e5 e12
    have oFin := H1.out.2.1
    have q0 := oFin.cell (i := 0) rfl
    have q1 := oFin.cell (i := 1) rfl
    have q2 := oFin.cell (i := 2) rfl
    have q3 := oFin.cell (i := 3) rfl
    have q4 := oFin.cell (i := 4) rfl
    have g0 := oFin.frozen 0
    have g1 := oFin.frozen 1
    have g2 := oFin.frozen 2
    have g3 := oFin.frozen 3
    have g4 := oFin.frozen 4
    have HU := Lib.hid (And.intro (own_put5 oFin (.int .i64 g.k) (.int .i64 g.n) (sV g.s) (.slice g.la g.ln g.lc) (.slice g.fa g.fn g.fc)) (And.intro (below_put5 (b := w.heap.size + 1) H1.out.1 (by omega) (.int .i64 g.k) (.int .i64 g.n) (sV g.s) (.slice g.la g.ln g.lc) (.slice g.fa g.fn g.fc)) (H1.out.2.2.put5 (b := w.heap.size + 1) (by omega) (.int .i64 g.k) (.int .i64 g.n) (sV g.s) (.slice g.la g.ln g.lc) (.slice g.fa g.fn g.fc))))
    clear oFin
    go_wp2
    clear q0 q1 q2 q3 q4 g0 g1 g2 g3 g4
    change bodyPost Try.prog Try.f34 _ _ _ (put5 w1 (w.heap.size + 1) (.int .i64 g.k) (.int .i64 g.n) (sV g.s) (.slice g.la g.ln g.lc) (.slice g.fa g.fn g.fc))
    generalize put5 w1 (w.heap.size + 1) (.int .i64 g.k) (.int .i64 g.n) (sV g.s) (.slice g.la g.ln g.lc) (.slice g.fa g.fn g.fc) = U at *
    have c0 := HU.out.1.cell (i := 0) rfl
    have c1 := HU.out.1.cell (i := 1) rfl
    have c2 := HU.out.1.cell (i := 2) rfl
    have c3 := HU.out.1.cell (i := 3) rfl
    have c4 := HU.out.1.cell (i := 4) rfl
    exact bodyPost_ret (v := .agg #[.int .i64 g.k, .int .i64 g.n, sV g.s, .slice g.la g.ln g.lc, .slice g.fa g.fn g.fc]) (by simp [results, Try.results34, go_sem, c0, c1, c2, c3, c4]) rfl ⟨g, rfl, HU.out.2.1, HU.out.2.2.mono (fun b hb => by omega)⟩
  | some b =>
    cases oa with
    | none =>
      obtain rfl : r = b := by have h := HR.out.1; simp [gC] at h; exact h.symm
      have C := Lib.hid (dup_isA o.b r V HO.out.2.2.2.b HR.out.2.2)
      have e6 := HO.out.2.1.cell (i := 6) rfl
      have e7 := HO.out.2.1.cell (i := 7) rfl
      have e8 := HO.out.2.1.cell (i := 8) rfl
      have e9 := HO.out.2.1.cell (i := 9) rfl
      have e10 := HO.out.2.1.cell (i := 10) rfl
      have e12 : V.cell? ⟨w.heap.size, 12, none⟩ = some (.bool true) := by have h := HO.out.2.1.cell (i := 12) rfl; rw [hib] at h; exact h
      have e11 : V.cell? ⟨w.heap.size, 11, none⟩ = some (.bool false) := by have h := HO.out.2.1.cell (i := 11) rfl; rw [hia] at h; exact h
      clear hia hib
      go_wp2_with fail
      refine C.out.mono ?_
      rintro e w1 ⟨g, rfl, hb1, hD⟩
      have H1 := Lib.hid (And.intro (below_all HO.out.1 hb1) (And.intro (HO.out.2.2.1.all hb1) hD))
      clear C hb1 hD e6 e7 e8 e9 e10 e11 e12
      have oFin := H1.out.2.1
      have q0 := oFin.cell (i := 0) rfl
      have q1 := oFin.cell (i := 1) rfl
      have q2 := oFin.cell (i := 2) rfl
      have q3 := oFin.cell (i := 3) rfl
      have q4 := oFin.cell (i := 4) rfl
      have g0 := oFin.frozen 0
      have g1 := oFin.frozen 1
      have g2 := oFin.frozen 2
      have g3 := oFin.frozen 3
      have g4 := oFin.frozen 4
      have HU := Lib.hid (And.intro (own_put5 oFin (.int .i64 g.k) (.int .i64 g.n) (sV g.s) (.slice g.la g.ln g.lc) (.slice g.fa g.fn g.fc)) (And.intro (below_put5 (b := w.heap.size + 1) H1.out.1 (by omega) (.int .i64 g.k) (.int .i64 g.n) (sV g.s) (.slice g.la g.ln g.lc) (.slice g.fa g.fn g.fc)) (H1.out.2.2.put5 (b := w.heap.size + 1) (by omega) (.int .i64 g.k) (.int .i64 g.n) (sV g.s) (.slice g.la g.ln g.lc) (.slice g.fa g.fn g.fc))))
      clear oFin
      go_wp2
      clear q0 q1 q2 q3 q4 g0 g1 g2 g3 g4
      change bodyPost Try.prog Try.f34 _ _ _ (put5 w1 (w.heap.size + 1) (.int .i64 g.k) (.int .i64 g.n) (sV g.s) (.slice g.la g.ln g.lc) (.slice g.fa g.fn g.fc))
      generalize put5 w1 (w.heap.size + 1) (.int .i64 g.k) (.int .i64 g.n) (sV g.s) (.slice g.la g.ln g.lc) (.slice g.fa g.fn g.fc) = U at *
      have c0 := HU.out.1.cell (i := 0) rfl
      have c1 := HU.out.1.cell (i := 1) rfl
      have c2 := HU.out.1.cell (i := 2) rfl
      have c3 := HU.out.1.cell (i := 3) rfl
      have c4 := HU.out.1.cell (i := 4) rfl
      exact bodyPost_ret (v := .agg #[.int .i64 g.k, .int .i64 g.n, sV g.s, .slice g.la g.ln g.lc, .slice g.fa g.fn g.fc]) (by simp [results, Try.results34, go_sem, c0, c1, c2, c3, c4]) rfl ⟨g, rfl, HU.out.2.1, HU.out.2.2.mono (fun b hb => by omega)⟩
    | some a =>
      obtain rfl : r = cpoT b a := by have h := HR.out.1; simp [gC] at h; exact h.symm
      have C := Lib.hid (HC.out a b rfl rfl o.a o.b V HO.out.2.2.2.a HO.out.2.2.2.b)
      have e1 := HO.out.2.1.cell (i := 1) rfl
      have e2 := HO.out.2.1.cell (i := 2) rfl
      have e3 := HO.out.2.1.cell (i := 3) rfl
      have e4 := HO.out.2.1.cell (i := 4) rfl
      have e5 := HO.out.2.1.cell (i := 5) rfl
      have e6 := HO.out.2.1.cell (i := 6) rfl
      have e7 := HO.out.2.1.cell (i := 7) rfl
      have e8 := HO.out.2.1.cell (i := 8) rfl
      have e9 := HO.out.2.1.cell (i := 9) rfl
      have e10 := HO.out.2.1.cell (i := 10) rfl
      have e12 : V.cell? ⟨w.heap.size, 12, none⟩ = some (.bool true) := by have h := HO.out.2.1.cell (i := 12) rfl; rw [hib] at h; exact h
      have e11 : V.cell? ⟨w.heap.size, 11, none⟩ = some (.bool true) := by have h := HO.out.2.1.cell (i := 11) rfl; rw [hia] at h; exact h
      clear hia hib
      go_wp2_with fail
      refine C.out.mono ?_
      rintro e w1 ⟨g, rfl, hb1, hD⟩
      have H1 := Lib.hid (And.intro (below_all HO.out.1 hb1) (And.intro (HO.out.2.2.1.all hb1) hD))
      clear C hb1 hD e1 e2 e3 e4 e5 e6 e7 e8 e9 e10 e11 e12
      have oFin := H1.out.2.1
      have q0 := oFin.cell (i := 0) rfl
      have q1 := oFin.cell (i := 1) rfl
      have q2 := oFin.cell (i := 2) rfl
      have q3 := oFin.cell (i := 3) rfl
      have q4 := oFin.cell (i := 4) rfl
      have g0 := oFin.frozen 0
      have g1 := oFin.frozen 1
      have g2 := oFin.frozen 2
      have g3 := oFin.frozen 3
      have g4 := oFin.frozen 4
      have HU := Lib.hid (And.intro (own_put5 oFin (.int .i64 g.k) (.int .i64 g.n) (sV g.s) (.slice g.la g.ln g.lc) (.slice g.fa g.fn g.fc)) (And.intro (below_put5 (b := w.heap.size + 1) H1.out.1 (by omega) (.int .i64 g.k) (.int .i64 g.n) (sV g.s) (.slice g.la g.ln g.lc) (.slice g.fa g.fn g.fc)) (H1.out.2.2.put5 (b := w.heap.size + 1) (by omega) (.int .i64 g.k) (.int .i64 g.n) (sV g.s) (.slice g.la g.ln g.lc) (.slice g.fa g.fn g.fc))))
      clear oFin
      go_wp2
      clear q0 q1 q2 q3 q4 g0 g1 g2 g3 g4
      change bodyPost Try.prog Try.f34 _ _ _ (put5 w1 (w.heap.size + 1) (.int .i64 g.k) (.int .i64 g.n) (sV g.s) (.slice g.la g.ln g.lc) (.slice g.fa g.fn g.fc))
      generalize put5 w1 (w.heap.size + 1) (.int .i64 g.k) (.int .i64 g.n) (sV g.s) (.slice g.la g.ln g.lc) (.slice g.fa g.fn g.fc) = U at *
      have c0 := HU.out.1.cell (i := 0) rfl
      have c1 := HU.out.1.cell (i := 1) rfl
      have c2 := HU.out.1.cell (i := 2) rfl
      have c3 := HU.out.1.cell (i := 3) rfl
      have c4 := HU.out.1.cell (i := 4) rfl
      exact bodyPost_ret (v := .agg #[.int .i64 g.k, .int .i64 g.n, sV g.s, .slice g.la g.ln g.lc, .slice g.fa g.fn g.fc]) (by simp [results, Try.results34, go_sem, c0, c1, c2, c3, c4]) rfl ⟨g, rfl, HU.out.2.1, HU.out.2.2.mono (fun b hb => by omega)⟩
end Go.Proofs.Ytinenbgdkchghaa
