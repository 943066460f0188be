/- The reference's Diff. The walk of PatchDiffs. -/
import Derived.Test.YtinenbgdkchghaaIhJ
import Derived.Test.YtinenbgdkchghaaWx
import Derived.Deep.RegionWith
import Derived.Deep.DeepCutAuto
import Derived.Test.YtinenbgdkchghaaId
set_option linter.unusedSimpArgs false
set_option linter.unusedVariables false
namespace Go.Proofs.Ytinenbgdkchghaa
open Go.RowKit Go.Sort Go.Proofs.LawFrame

def nulW (lu : Option T) (x : Str) (M : List (Str × T)) : List (Str × T) := match lu with
  | none => wi x T0 M
  | some _ => M
def difW (lu : Option T) (x : Str) (t : T) (M : List (Str × T)) : List (Str × T) := match lu with
  | none => wi x t M
  | some u => if cmpT u t = 0 then M else wi x (difT t u) M
set_option maxHeartbeats 32000000 in
set_option maxRecDepth 4000 in
theorem rdiff_any : ∀ (N : Nat) (p v : T), SizeOf.sizeOf p ≤ N → p.size ≤ 900 → v.size ≤ 900 → Mp p → Mp v → ∀ (c d : VC) (w : World), Is w c v → Is w d p →
    Calls Try.prog 16 #[c.val, d.val] w fun e w' => ∃ c' : VC, e = .returned c'.val ∧ Below w.heap.size w w' ∧ Is w' c' (difT p v) := by
  intro N
  induction N with
  | zero => intro p v h; cases p; simp at h
  | succ N ih =>
    intro p v hN hpz hvz hpm hvm c d w hI hJ
    have IH := Lib.hid ih
    have HS := Lib.hid (And.intro hN (And.intro hpz (And.intro hvz (And.intro hpm hvm))))
    have HI0 := Lib.hid (And.intro hI hJ)
    have HDK := Lib.hid (And.intro (is_kd hI) (is_kd hJ))
    clear ih hN hpz hvz hpm hvm hI hJ
    have hB : Below w.heap.size w (((w.alloc (.cells #[.int .i64 c.k, .int .i64 c.n, sV c.s, .slice c.la c.ln c.lc, .slice c.fa c.fn c.fc] 25)).alloc (.cells #[.int .i64 d.k, .int .i64 d.n, sV d.s, .slice d.la d.ln d.lc, .slice d.fa d.fn d.fc] 25)).alloc (.cells #[.int .i64 0, .int .i64 0, .string ⟨#[]⟩, .slice none 0 0, .slice none 0 0] 25)) := (((Below.refl _ _).alloc (Nat.le_refl _) _).alloc (by simp) _).alloc (by simp; omega) _
    have oc : Own (((w.alloc (.cells #[.int .i64 c.k, .int .i64 c.n, sV c.s, .slice c.la c.ln c.lc, .slice c.fa c.fn c.fc] 25)).alloc (.cells #[.int .i64 d.k, .int .i64 d.n, sV d.s, .slice d.la d.ln d.lc, .slice d.fa d.fn d.fc] 25)).alloc (.cells #[.int .i64 0, .int .i64 0, .string ⟨#[]⟩, .slice none 0 0, .slice none 0 0] 25)) w.heap.size [.int .i64 c.k, .int .i64 c.n, sV c.s, .slice c.la c.ln c.lc, .slice c.fa c.fn c.fc] 25 := ((Own.new _ _ _).alloc _).alloc _
    have od : Own (((w.alloc (.cells #[.int .i64 c.k, .int .i64 c.n, sV c.s, .slice c.la c.ln c.lc, .slice c.fa c.fn c.fc] 25)).alloc (.cells #[.int .i64 d.k, .int .i64 d.n, sV d.s, .slice d.la d.ln d.lc, .slice d.fa d.fn d.fc] 25)).alloc (.cells #[.int .i64 0, .int .i64 0, .string ⟨#[]⟩, .slice none 0 0, .slice none 0 0] 25)) (w.heap.size + 1) [.int .i64 d.k, .int .i64 d.n, sV d.s, .slice d.la d.ln d.lc, .slice d.fa d.fn d.fc] 25 := (Own.new_at (by rw [size_alloc]) _ _).alloc _
    have orr : Own (((w.alloc (.cells #[.int .i64 c.k, .int .i64 c.n, sV c.s, .slice c.la c.ln c.lc, .slice c.fa c.fn c.fc] 25)).alloc (.cells #[.int .i64 d.k, .int .i64 d.n, sV d.s, .slice d.la d.ln d.lc, .slice d.fa d.fn d.fc] 25)).alloc (.cells #[.int .i64 0, .int .i64 0, .string ⟨#[]⟩, .slice none 0 0, .slice none 0 0] 25)) (w.heap.size + 1 + 1) [.int .i64 0, .int .i64 0, .string ⟨#[]⟩, .slice none 0 0, .slice none 0 0] 25 := Own.new_at (by rw [size_alloc, size_alloc]) _ _
    have HSV := Lib.hid (show (((w.alloc (.cells #[.int .i64 c.k, .int .i64 c.n, sV c.s, .slice c.la c.ln c.lc, .slice c.fa c.fn c.fc] 25)).alloc (.cells #[.int .i64 d.k, .int .i64 d.n, sV d.s, .slice d.la d.ln d.lc, .slice d.fa d.fn d.fc] 25)).alloc (.cells #[.int .i64 0, .int .i64 0, .string ⟨#[]⟩, .slice none 0 0, .slice none 0 0] 25)).heap.size = w.heap.size + 3 from by rw [size_alloc, size_alloc, size_alloc])
    have HS1 := Lib.hid (And.intro hB (And.intro oc (And.intro od orr)))
    clear hB oc od orr
    show Calls Try.prog 16 #[.agg #[.int .i64 c.k, .int .i64 c.n, sV c.s, .slice c.la c.ln c.lc, .slice c.fa c.fn c.fc], .agg #[.int .i64 d.k, .int .i64 d.n, sV d.s, .slice d.la d.ln d.lc, .slice d.fa d.fn d.fc]] w _
    go_enter Try.func16, Try.ntmps16
    go_upto_region 1 with (fail)
    change Code.wp Try.prog _ _ _ (((w.alloc (.cells #[.int .i64 c.k, .int .i64 c.n, sV c.s, .slice c.la c.ln c.lc, .slice c.fa c.fn c.fc] 25)).alloc (.cells #[.int .i64 d.k, .int .i64 d.n, sV d.s, .slice d.la d.ln d.lc, .slice d.fa d.fn d.fc] 25)).alloc (.cells #[.int .i64 0, .int .i64 0, .string ⟨#[]⟩, .slice none 0 0, .slice none 0 0] 25))
    generalize (((w.alloc (.cells #[.int .i64 c.k, .int .i64 c.n, sV c.s, .slice c.la c.ln c.lc, .slice c.fa c.fn c.fc] 25)).alloc (.cells #[.int .i64 d.k, .int .i64 d.n, sV d.s, .slice d.la d.ln d.lc, .slice d.fa d.fn d.fc] 25)).alloc (.cells #[.int .i64 0, .int .i64 0, .string ⟨#[]⟩, .slice none 0 0, .slice none 0 0] 25)) = V at *
    obtain ⟨hB, oc, od, orr⟩ := HS1.out
    clear HS1
    have x0 := oc.cell (i := 0) rfl
    by_cases hv5 : kd v = 5
    case neg =>
      have ec : (c.k != 5) = true := by rw [bne_iff_ne, HDK.out.1]; exact hv5
      have HF : Hid (difT p v = p) := Lib.hid (difT_leaf (fun h => hv5 h.2))
      clear hv5
      have y0 := od.cell (i := 0) rfl
      have y1 := od.cell (i := 1) rfl
      have y2 := od.cell (i := 2) rfl
      have y3 := od.cell (i := 3) rfl
      have y4 := od.cell (i := 4) rfl
      have oFin := orr
      have q0 := oFin.cell (i := 0) rfl
      have g0 := oFin.frozen 0
      have q1 := oFin.cell (i := 1) rfl
      have g1 := oFin.frozen 1
      have q2 := oFin.cell (i := 2) rfl
      have g2 := oFin.frozen 2
      have q3 := oFin.cell (i := 3) rfl
      have g3 := oFin.frozen 3
      have q4 := oFin.cell (i := 4) rfl
      have g4 := oFin.frozen 4
      have HU := Lib.hid (And.intro (own_put5 oFin (.int .i64 d.k) (.int .i64 d.n) (sV d.s) (.slice d.la d.ln d.lc) (.slice d.fa d.fn d.fc)) (below_put5 (b := w.heap.size + 1 + 1) hB (by omega) (.int .i64 d.k) (.int .i64 d.n) (sV d.s) (.slice d.la d.ln d.lc) (.slice d.fa d.fn d.fc)))
      clear oFin
      clear oc od orr hB
      go_wp2
      clear x0 q0 g0 y0 q1 g1 y1 q2 g2 y2 q3 g3 y3 q4 g4 y4
      change bodyPost Try.prog Try.f16 _ _ _ (put5 V (w.heap.size + 1 + 1) (.int .i64 d.k) (.int .i64 d.n) (sV d.s) (.slice d.la d.ln d.lc) (.slice d.fa d.fn d.fc))
      generalize put5 V (w.heap.size + 1 + 1) (.int .i64 d.k) (.int .i64 d.n) (sV d.s) (.slice d.la d.ln d.lc) (.slice d.fa d.fn d.fc) = U at *
      have c0 := HU.out.1.cell (i := 0) rfl
      have c1 := HU.out.1.cell (i := 1) rfl
      have c2 := HU.out.1.cell (i := 2) rfl
      have c3 := HU.out.1.cell (i := 3) rfl
      have c4 := HU.out.1.cell (i := 4) rfl
      exact bodyPost_ret (v := .agg #[.int .i64 d.k, .int .i64 d.n, sV d.s, .slice d.la d.ln d.lc, .slice d.fa d.fn d.fc]) (by simp [results, Try.results16, go_sem, c0, c1, c2, c3, c4]) rfl ⟨d, rfl, HU.out.2, by rw [HF.out]; exact HI0.out.2.all HU.out.2⟩
    have ec : (c.k != 5) = false := by rw [bne_eq_false_iff_eq, HDK.out.1]; exact hv5
    by_cases h5 : kd p = 5
    case neg =>
      have e5 : (d.k != 5) = true := by rw [bne_iff_ne, HDK.out.2]; exact h5
      have HF : Hid (difT p v = p) := Lib.hid (difT_leaf (fun h => h5 h.1))
      clear h5 hv5
      have y0 := od.cell (i := 0) rfl
      have y1 := od.cell (i := 1) rfl
      have y2 := od.cell (i := 2) rfl
      have y3 := od.cell (i := 3) rfl
      have y4 := od.cell (i := 4) rfl
      have oFin := orr
      have q0 := oFin.cell (i := 0) rfl
      have g0 := oFin.frozen 0
      have q1 := oFin.cell (i := 1) rfl
      have g1 := oFin.frozen 1
      have q2 := oFin.cell (i := 2) rfl
      have g2 := oFin.frozen 2
      have q3 := oFin.cell (i := 3) rfl
      have g3 := oFin.frozen 3
      have q4 := oFin.cell (i := 4) rfl
      have g4 := oFin.frozen 4
      have HU := Lib.hid (And.intro (own_put5 oFin (.int .i64 d.k) (.int .i64 d.n) (sV d.s) (.slice d.la d.ln d.lc) (.slice d.fa d.fn d.fc)) (below_put5 (b := w.heap.size + 1 + 1) hB (by omega) (.int .i64 d.k) (.int .i64 d.n) (sV d.s) (.slice d.la d.ln d.lc) (.slice d.fa d.fn d.fc)))
      clear oFin
      clear oc od orr hB
      go_wp2
      clear x0 q0 g0 y0 q1 g1 y1 q2 g2 y2 q3 g3 y3 q4 g4 y4
      change bodyPost Try.prog Try.f16 _ _ _ (put5 V (w.heap.size + 1 + 1) (.int .i64 d.k) (.int .i64 d.n) (sV d.s) (.slice d.la d.ln d.lc) (.slice d.fa d.fn d.fc))
      generalize put5 V (w.heap.size + 1 + 1) (.int .i64 d.k) (.int .i64 d.n) (sV d.s) (.slice d.la d.ln d.lc) (.slice d.fa d.fn d.fc) = U at *
      have c0 := HU.out.1.cell (i := 0) rfl
      have c1 := HU.out.1.cell (i := 1) rfl
      have c2 := HU.out.1.cell (i := 2) rfl
      have c3 := HU.out.1.cell (i := 3) rfl
      have c4 := HU.out.1.cell (i := 4) rfl
      exact bodyPost_ret (v := .agg #[.int .i64 d.k, .int .i64 d.n, sV d.s, .slice d.la d.ln d.lc, .slice d.fa d.fn d.fc]) (by simp [results, Try.results16, go_sem, c0, c1, c2, c3, c4]) rfl ⟨d, rfl, HU.out.2, by rw [HF.out]; exact HI0.out.2.all HU.out.2⟩
    have e5 : (d.k != 5) = false := by rw [bne_eq_false_iff_eq, HDK.out.2]; exact h5
    have HK := Lib.hid h5
    have HK2 := Lib.hid hv5
    have HVF := Lib.hid (show v = tm (fls v) from HS.out.2.2.2.2.form hv5)
    have HPF := Lib.hid (show p = tm (fls p) from HS.out.2.2.2.1.form h5)
    clear h5 hv5
    have y0 := od.cell (i := 0) rfl
    have hbN := below_alloc V (.cells #[.int .i64 5, .int .i64 0, .string ⟨#[]⟩, .slice none 0 0, .slice none 0 0] 25)
    replace hB := below_all hB hbN
    replace oc := oc.all hbN
    replace od := od.all hbN
    replace orr := orr.all hbN
    clear hbN
    have oo : Own (V.alloc (.cells #[.int .i64 5, .int .i64 0, .string ⟨#[]⟩, .slice none 0 0, .slice none 0 0] 25)) V.heap.size [.int .i64 5, .int .i64 0, .string ⟨#[]⟩, .slice none 0 0, .slice none 0 0] 25 := Own.new _ _ _
    have HS1 := Lib.hid (And.intro hB (And.intro oc (And.intro od (And.intro orr oo))))
    clear hB oc od orr oo
    go_upto_region 4 with (fail)
    clear y0 x0 e5 ec
    change Code.wp Try.prog _ _ _ (V.alloc (.cells #[.int .i64 5, .int .i64 0, .string ⟨#[]⟩, .slice none 0 0, .slice none 0 0] 25))
    have HSV1 := Lib.hid (show (V.alloc (.cells #[.int .i64 5, .int .i64 0, .string ⟨#[]⟩, .slice none 0 0, .slice none 0 0] 25)).heap.size = w.heap.size + 4 from by rw [size_alloc, HSV.out])
    have HOB := HSV
    generalize (V.alloc (.cells #[.int .i64 5, .int .i64 0, .string ⟨#[]⟩, .slice none 0 0, .slice none 0 0] 25)) = V1 at *
    generalize V.heap.size = ob at *
    obtain ⟨hB, oc, od, orr, oo⟩ := HS1.out
    clear HS1
    have HSW := Lib.hid (Nat.le_of_eq HSV1.out.symm)
    have ia : IsA V1 (fun b => b < w.heap.size ∨ w.heap.size + 4 ≤ b) ⟨5, 0, [], none, 0, 0, none, 0, 0⟩ (tm []) := isA_mapP (fldsA_nil _ _)
    obtain ⟨f, hfl⟩ : ∃ f, fls p = f := ⟨_, rfl⟩
    have hff : Flds w (.slice d.fa d.fn d.fc) f := by have h := fvl_flds HI0.out.2; unfold fvl at h; rw [if_pos (show d.k = 5 by rw [HDK.out.2]; exact HK.out), hfl] at h; exact h
    have hfn := hff.slice.1
    have hle := hff.slice.2.1
    have hcap := hff.slice.2.2
    unfold maxLen at hcap
    obtain ⟨dk, dn, ds, dla, dln, dlc, dfa, dfn, dfc⟩ := d
    simp only at hfn hle hcap hff
    subst hfn
    have HFF := Lib.hid hff
    have HFL := Lib.hid hfl
    clear hff hfl
    obtain ⟨a, hal⟩ : ∃ a, fls v = a := ⟨_, rfl⟩
    have haa : Flds w (.slice c.fa c.fn c.fc) a := by have h := fvl_flds HI0.out.1; unfold fvl at h; rw [if_pos (show c.k = 5 by rw [HDK.out.1]; exact HK2.out), hal] at h; exact h
    have hfn := haa.slice.1
    have hle2 := haa.slice.2.1
    have hcap2 := haa.slice.2.2
    unfold maxLen at hcap2
    obtain ⟨ck, cn, cs, cla, cln, clc, cfa, cfn, cfc⟩ := c
    simp only at hfn hle2 hcap2 haa
    subst hfn
    have HFA := Lib.hid haa
    have HAL := Lib.hid hal
    clear haa hal
    have HS1 := Lib.hid (And.intro hB (And.intro oc (And.intro od (And.intro orr (And.intro oo ia)))))
    clear hB oc od orr oo ia
    go_upto_region 5 with (fail)
    go_loopg [6] a.length (fun g i wr => ∃ (q : Nat) (co : VC) (M : List (Str × T)), q ≤ a.length ∧ g = a.length - q ∧ i = .int .i64 q ∧ Below w.heap.size w wr ∧ Own wr w.heap.size [.int .i64 ck, .int .i64 cn, sV cs, .slice cla cln clc, .slice cfa a.length cfc] 25 ∧ Own wr (w.heap.size + 1) [.int .i64 dk, .int .i64 dn, sV ds, .slice dla dln dlc, .slice dfa f.length dfc] 25 ∧ Own wr (w.heap.size + 1 + 1) [.int .i64 0, .int .i64 0, .string ⟨#[]⟩, .slice none 0 0, .slice none 0 0] 25 ∧ Own wr ob [.int .i64 co.k, .int .i64 co.n, sV co.s, .slice co.la co.ln co.lc, .slice co.fa co.fn co.fc] 25 ∧ IsA wr (fun b => b < w.heap.size ∨ w.heap.size + 4 ≤ b) co (tm M) ∧ Hid (M = nulF (a.take q) f []))
    case atStart =>
      obtain ⟨hB, oc, od, orr, oo, ia⟩ := HS1.out
      exact ⟨0, ⟨5, 0, [], none, 0, 0, none, 0, 0⟩, [], Nat.zero_le _, rfl, rfl, hB, oc, od, orr, oo, ia, Lib.hid rfl⟩
    case round =>
      obtain ⟨q, co, M, hq, hgq, rfl, hB, oc, od, orr, oo, ia, HM⟩ := hrel
      have hsz : w.heap.size + 4 ≤ wr.heap.size := by have h1 := oo.lt; have h2 := HOB.out; omega
      have HGQ := Lib.hid hgq
      have HSZ := Lib.hid hsz
      clear hgq HS1 HSW hsz
      by_cases hlt : q < a.length
      case pos =>
        have hx := List.getElem?_eq_getElem hlt
        generalize a[q] = e at hx
        obtain ⟨b, off, z, hao, hbl, hz, z5, z0, z1, z2, z3, z4⟩ := HFA.out.at hB hx
        subst hao
        obtain ⟨pn, pt⟩ := e
        have HX := Lib.hid hx
        obtain ⟨lu, hlu⟩ : ∃ lu, look pn f = lu := ⟨_, rfl⟩
        have HTK : Hid (nulF (a.take (q + 1)) f [] = nulW lu pn M) := Lib.hid (by
          have h1 : a.take (q + 1) = a.take q ++ [(pn, pt)] := by rw [List.take_add_one, hx]; rfl
          rw [h1, nulF_snoc, ← HM.out, hlu]; rfl)
        have HMS : Hid ((tm M).size ≤ 3800) := Lib.hid (by
          have h1 := nulF_size (a.take q) f []
          have h2 := sizeF_take a q
          have h4 := fls_size v
          have h6 := HS.out.2.2.1
          rw [HAL.out] at h4
          rw [← HM.out] at h1
          have h7 : (tm M).size = 1 + sizeF M := by simp [tm, T.size, sizeL]
          simp only [sizeF] at h1
          omega)
        clear hx hz z0 z1 z2 z3 z4
        have ipp : Is wr ⟨dk, dn, ds, dla, dln, dlc, dfa, f.length, dfc⟩ (tm f) := by have h := HI0.out.2.all hB; rw [HPF.out, HFL.out] at h; exact h
        have x4 := oc.cell (i := 4) rfl
        have HS1 := Lib.hid (And.intro hB (And.intro oc (And.intro od (And.intro orr (And.intro oo (And.intro ia ipp))))))
        clear hB oc od orr oo ia ipp
        go_upto_region 7 with (fail)
        clear x4
        generalize wr = W at *
        obtain ⟨hB, oc, od, orr, oo, ia, ipp⟩ := HS1.out
        clear HS1
        obtain ⟨B, hBl⟩ : ∃ B, lu.isSome = B := ⟨_, rfl⟩
        have HBL := Lib.hid (And.intro hlu hBl)
        have hlb := oc.lt
        have hlc := od.lt
        have hWw := hB.size
        have a0 := od.cell (i := 0) rfl
        have a1 := od.cell (i := 1) rfl
        have a2 := od.cell (i := 2) rfl
        have a3 := od.cell (i := 3) rfl
        have a4 := od.cell (i := 4) rfl
        have x4 := oc.cell (i := 4) rfl
        have HS1 := Lib.hid (And.intro hB (And.intro oc (And.intro od (And.intro orr (And.intro oo (And.intro ia ipp))))))
        clear hB oc od orr oo ia ipp
        have HC := Lib.hid (show ∀ X, Below w.heap.size w X → Calls Try.prog 21 #[.agg #[.int .i64 dk, .int .i64 dn, sV ds, .slice dla dln dlc, .slice dfa f.length dfc], sV pn] X fun e w' => ∃ c' : VC, e = .returned (.tuple #[c'.val, .bool B]) ∧ Below X.heap.size X w' from fun X hX => by
          have h2 := HI0.out.2.all hX
          rw [HPF.out, HFL.out] at h2
          have hr := rget_any ⟨dk, dn, ds, dla, dln, dlc, dfa, f.length, dfc⟩ 5 0 [] [] f pn X h2 (fun z hz => by have h1 := kid_sz (t := p) (p := z) (by rw [HFL.out]; exact hz); have h2 := HS.out.2.1; omega)
          rw [show getK 5 pn f = lu from by rw [← hlu]; exact if_pos rfl, hBl] at hr
          exact hr.mono (by rintro e w' ⟨c', a1, a2, -⟩; exact ⟨c', a1, a2⟩))
        have hdr : Below W.heap.size W W.drew := (Below.refl _ _).drew
        have hal : Below W.heap.size W (W.alloc (.cells #[.int .i64 0, .int .i64 0, .string ⟨#[]⟩, .slice none 0 0, .slice none 0 0] 25)) := below_alloc W _
        have hal2 : Below W.heap.size W (W.alloc (.cells #[.int .i64 0, .int .i64 0, .string ⟨#[]⟩, .slice none 0 0, .slice none 0 0] 25)).drew := (below_alloc W _).drew
        have oD := HS1.out.2.2.1.all hal
        have oY := HS1.out.2.1.all hal
        have b0 := oD.cell (i := 0) rfl
        have b1 := oD.cell (i := 1) rfl
        have b2 := oD.cell (i := 2) rfl
        have b3 := oD.cell (i := 3) rfl
        have b4 := oD.cell (i := 4) rfl
        have b5 := oY.cell (i := 4) rfl
        have zd5 : (W.alloc (.cells #[.int .i64 0, .int .i64 0, .string ⟨#[]⟩, .slice none 0 0, .slice none 0 0] 25)).cell? ⟨b, off + q * 6, none⟩ = some (sV pn) := by
          obtain ⟨b2, off2, z2, e1, e2, e3, e4, -⟩ := HFA.out.at (below_all HS1.out.1 hal) HX.out
          cases e1
          exact e4
        have hBw := Lib.hid HS1.out.1
        clear oD oY hlu hBl
        have hlb1 : ¬ w.heap.size = W.heap.size := by omega
        have hlb2 : ¬ W.heap.size = w.heap.size := by omega
        have hlc1 : ¬ w.heap.size + 1 = W.heap.size := by omega
        have hlc2 : ¬ W.heap.size = w.heap.size + 1 := by omega
        have hle1 : ¬ b = W.heap.size := by omega
        have hle3 : ¬ W.heap.size = b := by omega
        go_cut [7, 8] (fun s7 s8 wx => s8 = .bool B ∧ Below W.heap.size W wx)
        case first =>
          go_region_with (first
            | (refine (HC.out _ (by first | exact below_all hBw.out hdr | exact below_all hBw.out hal2)).mono ?_
               rintro _ ws ⟨⟨rk, rn, rs, rla, rln, rlc, rfa, rfn, rfc⟩, rfl, hbs⟩
               first
                 | (have oN0 : Own (W.alloc (.cells #[.int .i64 0, .int .i64 0, .string ⟨#[]⟩, .slice none 0 0, .slice none 0 0] 25)).drew W.heap.size [.int .i64 0, .int .i64 0, .string ⟨#[]⟩, .slice none 0 0, .slice none 0 0] 25 := (Own.new W [.int .i64 0, .int .i64 0, .string ⟨#[]⟩, .slice none 0 0, .slice none 0 0] 25).drew
                    have oN : Own ws W.heap.size [.int .i64 0, .int .i64 0, .string ⟨#[]⟩, .slice none 0 0, .slice none 0 0] 25 := oN0.all hbs
                    have q0 := oN.cell (i := 0) rfl; have q1 := oN.cell (i := 1) rfl; have q2 := oN.cell (i := 2) rfl; have q3 := oN.cell (i := 3) rfl; have q4 := oN.cell (i := 4) rfl; have f0 := oN.frozen 0; have f1 := oN.frozen 1; have f2 := oN.frozen 2; have f3 := oN.frozen 3; have f4 := oN.frozen 4
                    have HFN := Lib.hid (below_put5 (b := W.heap.size) (below_all hal2 hbs) (Nat.le_refl _) (.int .i64 rk) (.int .i64 rn) (sV rs) (.slice rla rln rlc) (.slice rfa rfn rfc))
                    clear oN0 oN)
                 | skip))
          all_goals (try go_wp2_with fail)
          all_goals (try go_meet)
          all_goals first
            | exact ⟨rfl, HFN.out⟩
            | exact ⟨rfl, below_all (below_all hdr hbs) (below_alloc _ _)⟩
        case rest =>
        obtain ⟨rfl, hbc⟩ := hcut
        clear hdr hal hal2 b0 b1 b2 b3 b4 b5 zd5 hlb1 hlb2 hlc1 hlc2 hle1 hle3 a0 a1 a2 a3 a4 x4 z5 hlb hlc hWw HC
        have hlu := HBL.out.1
        have hBl := HBL.out.2
        clear HBL hBw
        obtain ⟨hB, oc, od, orr, oo, ia, ipp⟩ := HS1.out
        clear HS1
        replace hB := below_all hB hbc
        replace oc := oc.all hbc
        replace od := od.all hbc
        replace orr := orr.all hbc
        replace oo := oo.all hbc
        replace ia := ia.all hbc
        replace ipp := ipp.all hbc
        have HSZ2 := Lib.hid (show w.heap.size + 4 ≤ wc.heap.size from by have := HSZ.out; have := hbc.size; omega)
        clear hbc ipp HSZ
        have HSZ := HSZ2
        clear HSZ2
        generalize wc = W2 at *
        have HX2 := Lib.hid hlu
        cases lu with
        | some lt =>
          obtain rfl : B = true := hBl.symm
          have HMN : Hid (M = nulF (a.take (q + 1)) f []) := Lib.hid HTK.out.symm
          have HE := Lib.hid (And.intro hB (And.intro oc (And.intro od (And.intro orr (And.intro oo ia)))))
          clear hBl hlu hB oc od orr oo ia
          go_wp2
          go_roundg (a.length - (q + 1))
          case measure => have := HGQ.out; omega
          case rel => exact ⟨q + 1, co, M, by omega, rfl, by go_num, HE.out.1, HE.out.2.1, HE.out.2.2.1, HE.out.2.2.2.1, HE.out.2.2.2.2.1, HE.out.2.2.2.2.2, HMN⟩
        | none =>
          obtain rfl : B = false := hBl.symm
          have HMN : Hid (wi pn T0 M = nulF (a.take (q + 1)) f []) := Lib.hid HTK.out.symm
          clear hBl hlu
          have z5 : W2.cell? ⟨b, off + q * 6, none⟩ = some (sV pn) := by
            obtain ⟨b2, off2, z2, e1, e2, e3, e4, -⟩ := HFA.out.at hB HX.out
            cases e1
            exact e4
          have HS1 := Lib.hid (And.intro hB (And.intro oc (And.intro od (And.intro orr (And.intro oo ia)))))
          clear hB oc od orr oo ia
          go_upto_region 9 with (fail)
          obtain ⟨hB, oc, od, orr, oo, ia⟩ := HS1.out
          clear HS1
          have s0 := cell_regrown (oo.cell (i := 0) rfl)
          have s1 := cell_regrown (oo.cell (i := 1) rfl)
          have s2 := cell_regrown (oo.cell (i := 2) rfl)
          have s3 := cell_regrown (oo.cell (i := 3) rfl)
          have s4 := cell_regrown (oo.cell (i := 4) rfl)
          have x4 := cell_regrown (oc.cell (i := 4) rfl)
          have n0 := cell_regrown z5
          clear z5
          have HS1 := Lib.hid (And.intro hB (And.intro oc (And.intro od (And.intro orr (And.intro oo ia)))))
          clear hB oc od orr oo ia
          refine wp_region_multi 9 (fun i => i == 8) (fun i xs u w' => ∃ c' : VC, u = c'.val ∧ IsA w' (fun b => W2.heap.size ≤ b) c' (tm (wi pn T0 M))) (fun i u => ∃ c' : VC, u = c'.val) (by kernel_rfl) (by kernel_rfl)
            (fun i xs u w1 w2 h hb => by obtain ⟨c', a1, a2⟩ := h; exact ⟨c', a1, a2.all hb⟩) (fun i => ⟨VC0.val, VC0, rfl⟩) ?_
          simp only [List.take_succ_cons, List.take_zero, List.drop_succ_cons, List.drop_zero]
          refine wpM_stretch 8 rfl rfl rfl rfl ?_
          simp only [List.take_succ_cons, List.take_zero, List.drop_succ_cons, List.drop_zero]
          repeat (first | go_big_quiet_step (fail) | quiet_step (fail))
          refine wpQuiet_nil ?_
          refine wpM_dem rfl rfl rfl ?_ ?_
          · rintro _ ⟨pp, rfl⟩
            go_simp
            simp only [demUpon]
            obtain ⟨hB, oc, od, orr, oo, ia⟩ := HS1.out
            have hsz := (below_regrown W2 pp.d pp.os).size
            refine ⟨trivial, (rwith_any co VC0 5 0 [] [] M pn T0 _ (ia.is.all (below_regrown W2 pp.d pp.os)) (is_vc0 _) HMS.out (by rw [T0_size]; omega)).mono ?_⟩
            rintro e wA ⟨c', M', rfl, hbA, hN, hM⟩
            obtain rfl : M' = wi pn T0 M := by
              have hM2 : MapOf (oth pn M ++ [(pn, T0)]) M' := by rw [show othK 5 pn M = oth pn M from if_pos rfl] at hM; exact hM
              exact hM2.unique (mapL_of _)
            exact ⟨_, rfl, ⟨c', rfl⟩, hbA, c', rfl, hN.mono (fun b hb => by omega)⟩
          rintro vv hvv
          obtain ⟨m2, rfl⟩ : ∃ c' : VC, vv = c'.val := hvv
          try clear hvv
          refine wpM_end ?_
          rintro U2 hbU ⟨-, hFU⟩
          obtain ⟨e7, he7, hI7⟩ := hFU
          obtain rfl := VC.val_inj he7
          clear he7
          obtain ⟨hB, oc, od, orr, oo, ia⟩ := HS1.out
          clear HS1
          clear x4 n0 s0 s1 s2 s3 s4
          have hszU := hbU.size
          clear ia
          replace hB := below_all hB hbU
          replace oc := oc.all hbU
          replace od := od.all hbU
          replace orr := orr.all hbU
          replace oo := oo.all hbU
          have HSZ2 := Lib.hid (show w.heap.size + 4 ≤ U2.heap.size from by have := HSZ.out; omega)
          have ia : IsA U2 (fun b => b < w.heap.size ∨ w.heap.size + 4 ≤ b) m2 (tm (wi pn T0 M)) := hI7.mono (fun b hb => Or.inr (by have := HSZ.out; omega))
          clear hbU hszU hI7 HSZ
          have HSZ := HSZ2
          clear HSZ2
          have q0 := oo.cell (i := 0) rfl
          have g0 := oo.frozen 0
          have q1 := oo.cell (i := 1) rfl
          have g1 := oo.frozen 1
          have q2 := oo.cell (i := 2) rfl
          have g2 := oo.frozen 2
          have q3 := oo.cell (i := 3) rfl
          have g3 := oo.frozen 3
          have q4 := oo.cell (i := 4) rfl
          have g4 := oo.frozen 4
          replace hB := below_put5 (b := ob) hB (by have := HOB.out; omega) (.int .i64 m2.k) (.int .i64 m2.n) (sV m2.s) (.slice m2.la m2.ln m2.lc) (.slice m2.fa m2.fn m2.fc)
          replace oc := Own.put5n oc (c := ob) (by have := HOB.out; have := HSZ.out; omega) (.int .i64 m2.k) (.int .i64 m2.n) (sV m2.s) (.slice m2.la m2.ln m2.lc) (.slice m2.fa m2.fn m2.fc)
          replace od := Own.put5n od (c := ob) (by have := HOB.out; have := HSZ.out; omega) (.int .i64 m2.k) (.int .i64 m2.n) (sV m2.s) (.slice m2.la m2.ln m2.lc) (.slice m2.fa m2.fn m2.fc)
          replace orr := Own.put5n orr (c := ob) (by have := HOB.out; have := HSZ.out; omega) (.int .i64 m2.k) (.int .i64 m2.n) (sV m2.s) (.slice m2.la m2.ln m2.lc) (.slice m2.fa m2.fn m2.fc)
          have oo2 := own_put5 oo (.int .i64 m2.k) (.int .i64 m2.n) (sV m2.s) (.slice m2.la m2.ln m2.lc) (.slice m2.fa m2.fn m2.fc)
          replace ia := ia.put5 (b := ob) (by have := HOB.out; have := HSZ.out; omega) (.int .i64 m2.k) (.int .i64 m2.n) (sV m2.s) (.slice m2.la m2.ln m2.lc) (.slice m2.fa m2.fn m2.fc)
          have HE := Lib.hid (And.intro hB (And.intro oc (And.intro od (And.intro orr (And.intro oo2 ia)))))
          clear hB oc od orr oo oo2 ia
          go_wp2
          clear q0 g0 q1 g1 q2 g2 q3 g3 q4 g4
          go_roundg (a.length - (q + 1))
          case measure => have := HGQ.out; omega
          case rel => exact ⟨q + 1, m2, wi pn T0 M, by omega, rfl, by go_num, HE.out.1, HE.out.2.1, HE.out.2.2.1, HE.out.2.2.2.1, HE.out.2.2.2.2.1, HE.out.2.2.2.2.2, HMN⟩
      obtain rfl : q = a.length := by omega
      have HMZ : Hid (M = nulF a f []) := Lib.hid (by rw [HM.out, List.take_length])
      have hk4 := oc.cell (i := 4) rfl
      have HS1 := Lib.hid (And.intro hB (And.intro oc (And.intro od (And.intro orr (And.intro oo ia)))))
      clear hB oc od orr oo ia
      go_upto_region 10 with (fail)
      clear hk4
      go_upto_region 11 with (fail)
      generalize wr = V2 at *
      go_loopg [9] f.length (fun g i wr => ∃ (q : Nat) (co : VC) (M : List (Str × T)), q ≤ f.length ∧ g = f.length - q ∧ i = .int .i64 q ∧ Below w.heap.size w wr ∧ Own wr w.heap.size [.int .i64 ck, .int .i64 cn, sV cs, .slice cla cln clc, .slice cfa a.length cfc] 25 ∧ Own wr (w.heap.size + 1) [.int .i64 dk, .int .i64 dn, sV ds, .slice dla dln dlc, .slice dfa f.length dfc] 25 ∧ Own wr (w.heap.size + 1 + 1) [.int .i64 0, .int .i64 0, .string ⟨#[]⟩, .slice none 0 0, .slice none 0 0] 25 ∧ Own wr ob [.int .i64 co.k, .int .i64 co.n, sV co.s, .slice co.la co.ln co.lc, .slice co.fa co.fn co.fc] 25 ∧ IsA wr (fun b => b < w.heap.size ∨ w.heap.size + 4 ≤ b) co (tm M) ∧ Hid (M = difF (f.take q) a (nulF a f [])))
      case atStart =>
        obtain ⟨hB, oc, od, orr, oo, ia⟩ := HS1.out
        exact ⟨0, co, M, Nat.zero_le _, rfl, rfl, hB, oc, od, orr, oo, ia, Lib.hid HMZ.out⟩
      case round =>
        clear HS1 HSZ HGQ HM HMZ hlt hq
        obtain ⟨q, co, M, hq, hgq, rfl, hB, oc, od, orr, oo, ia, HM⟩ := hrel
        have hsz : w.heap.size + 4 ≤ wr.heap.size := by have h1 := oo.lt; have h2 := HOB.out; omega
        have HGQ := Lib.hid hgq
        have HSZ := Lib.hid hsz
        clear hgq hsz
        by_cases hlt : q < f.length
        case neg =>
          obtain rfl : q = f.length := by omega
          have hsz : w.heap.size + 4 ≤ wr.heap.size := HSZ.out
          have HF : Hid (difT p v = tm M) := Lib.hid (by rw [HM.out, List.take_length, difT_map HK.out HK2.out, HFL.out, HAL.out]; rfl)
          have z4 := od.cell (i := 4) rfl
          have s0 := oo.cell (i := 0) rfl
          have s1 := oo.cell (i := 1) rfl
          have s2 := oo.cell (i := 2) rfl
          have s3 := oo.cell (i := 3) rfl
          have s4 := oo.cell (i := 4) rfl
          have oFin := orr
          have q0 := oFin.cell (i := 0) rfl
          have g0 := oFin.frozen 0
          have q1 := oFin.cell (i := 1) rfl
          have g1 := oFin.frozen 1
          have q2 := oFin.cell (i := 2) rfl
          have g2 := oFin.frozen 2
          have q3 := oFin.cell (i := 3) rfl
          have g3 := oFin.frozen 3
          have q4 := oFin.cell (i := 4) rfl
          have g4 := oFin.frozen 4
          have HU := Lib.hid (And.intro (own_put5 oFin (.int .i64 co.k) (.int .i64 co.n) (sV co.s) (.slice co.la co.ln co.lc) (.slice co.fa co.fn co.fc)) (below_put5 (b := w.heap.size + 1 + 1) hB (by omega) (.int .i64 co.k) (.int .i64 co.n) (sV co.s) (.slice co.la co.ln co.lc) (.slice co.fa co.fn co.fc)))
          clear oFin
          have HIA := Lib.hid (ia.put5 (b := w.heap.size + 1 + 1) (by omega) (.int .i64 co.k) (.int .i64 co.n) (sV co.s) (.slice co.la co.ln co.lc) (.slice co.fa co.fn co.fc))
          clear oc od orr oo ia hB
          go_wp2
          clear z4 s0 q0 g0 s1 q1 g1 s2 q2 g2 s3 q3 g3 s4 q4 g4
          change bodyPost Try.prog Try.f16 _ _ _ (put5 wr (w.heap.size + 1 + 1) (.int .i64 co.k) (.int .i64 co.n) (sV co.s) (.slice co.la co.ln co.lc) (.slice co.fa co.fn co.fc))
          generalize put5 wr (w.heap.size + 1 + 1) (.int .i64 co.k) (.int .i64 co.n) (sV co.s) (.slice co.la co.ln co.lc) (.slice co.fa co.fn co.fc) = U at *
          have c0 := HU.out.1.cell (i := 0) rfl
          have c1 := HU.out.1.cell (i := 1) rfl
          have c2 := HU.out.1.cell (i := 2) rfl
          have c3 := HU.out.1.cell (i := 3) rfl
          have c4 := HU.out.1.cell (i := 4) rfl
          exact bodyPost_ret (v := .agg #[.int .i64 co.k, .int .i64 co.n, sV co.s, .slice co.la co.ln co.lc, .slice co.fa co.fn co.fc]) (by simp [results, Try.results16, go_sem, c0, c1, c2, c3, c4]) rfl ⟨co, rfl, HU.out.2, by rw [HF.out]; exact HIA.out.is⟩
        have hx := List.getElem?_eq_getElem hlt
        generalize f[q] = e at hx
        obtain ⟨b, off, z, hao, hbl, hz, z5, z0, z1, z2, z3, z4⟩ := HFF.out.at hB hx
        subst hao
        obtain ⟨pn, pt⟩ := e
        have HX := Lib.hid (And.intro hx hz)
        have HPT := Lib.hid (show (pn, pt) ∈ fls p from by rw [HFL.out]; exact List.mem_of_getElem? hx)
        have y4 := od.cell (i := 4) rfl
        obtain ⟨lu, hlu⟩ : ∃ lu, look pn a = lu := ⟨_, rfl⟩
        have HTK : Hid (difF (f.take (q + 1)) a (nulF a f []) = difW lu pn pt M) := Lib.hid (by
          have h1 : f.take (q + 1) = f.take q ++ [(pn, pt)] := by rw [List.take_add_one, hx]; rfl
          rw [h1, difF_snoc, ← HM.out, hlu]; rfl)
        have HMS : Hid ((tm M).size ≤ 3800) := Lib.hid (by
          have h1 := difF_size (f := f.take q) (A := a) (M := nulF a f []) (by rw [← HFL.out]; exact HS.out.2.2.2.1.fls.sublist (List.take_sublist _ _)) (fun z hz => HS.out.2.2.2.1.kid (by rw [HFL.out]; exact List.mem_of_mem_take hz)) (fun z hz => HS.out.2.2.2.2.kid (by rw [HAL.out]; exact hz))
          have h0 := nulF_size a f []
          have h2 := sizeF_take f q
          have h3 := fls_size p
          have h4 := fls_size v
          have h5 := HS.out.2.1
          have h6 := HS.out.2.2.1
          rw [HFL.out] at h3
          rw [HAL.out] at h4
          rw [← HM.out] at h1
          have h7 : (tm M).size = 1 + sizeF M := by simp [tm, T.size, sizeL]
          simp only [sizeF] at h0
          omega)
        clear hx hz
        have ivv : Is wr ⟨ck, cn, cs, cla, cln, clc, cfa, a.length, cfc⟩ (tm a) := by have h := HI0.out.1.all hB; rw [HVF.out, HAL.out] at h; exact h
        have hbN := below_alloc wr (.cells #[sV pn, .int .i64 z.k, .int .i64 z.n, sV z.s, .slice z.la z.ln z.lc, .slice z.fa z.fn z.fc] 33)
        replace hB := below_all hB hbN
        replace oc := oc.all hbN
        replace od := od.all hbN
        replace orr := orr.all hbN
        replace oo := oo.all hbN
        replace ia := ia.all hbN
        replace ivv := ivv.all hbN
        clear hbN
        have of : Own (wr.alloc (.cells #[sV pn, .int .i64 z.k, .int .i64 z.n, sV z.s, .slice z.la z.ln z.lc, .slice z.fa z.fn z.fc] 33)) wr.heap.size [sV pn, .int .i64 z.k, .int .i64 z.n, sV z.s, .slice z.la z.ln z.lc, .slice z.fa z.fn z.fc] 33 := Own.new _ _ _
        have izz := HX.out.2.all (below_alloc _ (.cells #[sV pn, .int .i64 z.k, .int .i64 z.n, sV z.s, .slice z.la z.ln z.lc, .slice z.fa z.fn z.fc] 33))
        have HS1 := Lib.hid (And.intro hB (And.intro oc (And.intro od (And.intro orr (And.intro oo (And.intro ia (And.intro ivv (And.intro of izz))))))))
        clear hB oc od orr oo ia ivv of izz
        go_upto_region 14 with (fail)
        clear z5 z0 z1 z2 z3 z4 y4
        change Code.wp Try.prog _ _ _ (wr.alloc (.cells #[sV pn, .int .i64 z.k, .int .i64 z.n, sV z.s, .slice z.la z.ln z.lc, .slice z.fa z.fn z.fc] 33))
        have HSZ2 := Lib.hid (show w.heap.size + 4 ≤ (wr.alloc (.cells #[sV pn, .int .i64 z.k, .int .i64 z.n, sV z.s, .slice z.la z.ln z.lc, .slice z.fa z.fn z.fc] 33)).heap.size from by rw [size_alloc]; have := HSZ.out; omega)
        have HNF := Lib.hid (show w.heap.size + 4 ≤ wr.heap.size from HSZ.out)
        generalize (wr.alloc (.cells #[sV pn, .int .i64 z.k, .int .i64 z.n, sV z.s, .slice z.la z.ln z.lc, .slice z.fa z.fn z.fc] 33)) = V9 at *
        generalize wr.heap.size = nf at *
        clear HSZ
        have HSZ := HSZ2
        clear HSZ2
        obtain ⟨hB, oc, od, orr, oo, ia, ivv, of, izz⟩ := HS1.out
        clear HS1
        have s0 := oc.cell (i := 0) rfl
        have s1 := oc.cell (i := 1) rfl
        have s2 := oc.cell (i := 2) rfl
        have s3 := oc.cell (i := 3) rfl
        have s4 := oc.cell (i := 4) rfl
        have f0 := of.cell (i := 0) rfl
        obtain ⟨B, hBl⟩ : ∃ B, lu.isSome = B := ⟨_, rfl⟩
        have HS1 := Lib.hid (And.intro hB (And.intro oc (And.intro od (And.intro orr (And.intro oo (And.intro ia (And.intro ivv (And.intro of izz))))))))
        clear hB oc od orr oo ia ivv of izz
        go_wp2_with fail
        clear f0 s0 s1 s2 s3 s4
        obtain ⟨hB, oc, od, orr, oo, ia, ivv, of, izz⟩ := HS1.out
        clear HS1
        refine (rget_any ⟨ck, cn, cs, cla, cln, clc, cfa, a.length, cfc⟩ 5 0 [] [] a pn _ ivv (fun z hz => by have h1 := kid_sz (t := v) (p := z) (by rw [HAL.out]; exact hz); have h2 := HS.out.2.2.1; omega)).mono ?_
        rintro e w1 ⟨x, he1, hb, hN⟩
        rw [show getK 5 pn a = lu from by rw [← hlu]; exact if_pos rfl] at hN he1
        rw [hBl] at he1
        subst he1
        have ix := hN.is
        clear hN
        have hszz := hb.size
        replace hB := below_all hB hb
        replace oc := oc.all hb
        replace od := od.all hb
        replace orr := orr.all hb
        replace oo := oo.all hb
        replace ia := ia.all hb
        replace ivv := ivv.all hb
        replace of := of.all hb
        replace izz := izz.all hb
        clear hb
        have hbN := below_alloc w1 (.cells #[.int .i64 x.k, .int .i64 x.n, sV x.s, .slice x.la x.ln x.lc, .slice x.fa x.fn x.fc] 25)
        replace hB := below_all hB hbN
        replace oc := oc.all hbN
        replace od := od.all hbN
        replace orr := orr.all hbN
        replace oo := oo.all hbN
        replace ia := ia.all hbN
        replace ivv := ivv.all hbN
        replace of := of.all hbN
        replace izz := izz.all hbN
        replace ix := ix.all hbN
        clear hbN
        have ox : Own (w1.alloc (.cells #[.int .i64 x.k, .int .i64 x.n, sV x.s, .slice x.la x.ln x.lc, .slice x.fa x.fn x.fc] 25)) w1.heap.size [.int .i64 x.k, .int .i64 x.n, sV x.s, .slice x.la x.ln x.lc, .slice x.fa x.fn x.fc] 25 := Own.new _ _ _
        have HS1 := Lib.hid (And.intro hB (And.intro oc (And.intro od (And.intro orr (And.intro oo (And.intro ia (And.intro ivv (And.intro of (And.intro izz (And.intro ix ox))))))))))
        clear hB oc od orr oo ia ivv of izz ix ox
        go_upto_region 15 with (fail)
        change Code.wp Try.prog _ _ _ (w1.alloc (.cells #[.int .i64 x.k, .int .i64 x.n, sV x.s, .slice x.la x.ln x.lc, .slice x.fa x.fn x.fc] 25))
        have HSZ2 := Lib.hid (show w.heap.size + 4 ≤ (w1.alloc (.cells #[.int .i64 x.k, .int .i64 x.n, sV x.s, .slice x.la x.ln x.lc, .slice x.fa x.fn x.fc] 25)).heap.size from by rw [size_alloc]; have := HSZ.out; omega)
        generalize (w1.alloc (.cells #[.int .i64 x.k, .int .i64 x.n, sV x.s, .slice x.la x.ln x.lc, .slice x.fa x.fn x.fc] 25)) = W2 at *
        generalize w1.heap.size = nx at *
        clear HSZ hszz
        have HSZ := HSZ2
        clear HSZ2
        obtain ⟨hB, oc, od, orr, oo, ia, ivv, of, izz, ix, ox⟩ := HS1.out
        clear HS1
        cases lu with
        | none =>
          obtain rfl : B = false := hBl.symm
          have HMN : Hid (wi pn pt M = difF (f.take (q + 1)) a (nulF a f [])) := Lib.hid HTK.out.symm
          clear hBl hlu
          have s0 := oo.cell (i := 0) rfl
          have s1 := oo.cell (i := 1) rfl
          have s2 := oo.cell (i := 2) rfl
          have s3 := oo.cell (i := 3) rfl
          have s4 := oo.cell (i := 4) rfl
          have f0 := of.cell (i := 0) rfl
          have f1 := of.cell (i := 1) rfl
          have f2 := of.cell (i := 2) rfl
          have f3 := of.cell (i := 3) rfl
          have f4 := of.cell (i := 4) rfl
          have f5 := of.cell (i := 5) rfl
          have HS1 := Lib.hid (And.intro hB (And.intro oc (And.intro od (And.intro orr (And.intro oo (And.intro ia (And.intro ivv (And.intro of (And.intro izz (And.intro ix ox))))))))))
          clear hB oc od orr oo ia ivv of izz ix ox
          go_wp2_with fail
          clear s0 s1 s2 s3 s4 f0 f1 f2 f3 f4 f5
          obtain ⟨hB, oc, od, orr, oo, ia, ivv, of, izz, ix, ox⟩ := HS1.out
          clear HS1
          refine (rwith_any co z 5 0 [] [] M pn pt _ ia.is izz HMS.out (by have h3 := kid_szn HPT.out; have h4 := HS.out.2.1; omega)).mono ?_
          rintro e w2 ⟨m2, M2, rfl, hb, hI7, hM⟩
          obtain rfl : M2 = wi pn pt M := by
            have hM2 : MapOf (oth pn M ++ [(pn, pt)]) M2 := by rw [show othK 5 pn M = oth pn M from if_pos rfl] at hM; exact hM
            exact hM2.unique (mapL_of _)
          clear hM
          have hszz := hb.size
          replace hB := below_all hB hb
          replace oc := oc.all hb
          replace od := od.all hb
          replace orr := orr.all hb
          replace oo := oo.all hb
          replace ia := ia.all hb
          replace ivv := ivv.all hb
          replace of := of.all hb
          replace izz := izz.all hb
          replace ix := ix.all hb
          replace ox := ox.all hb
          clear hb
          have HSZ2 := Lib.hid (show w.heap.size + 4 ≤ w2.heap.size from by have := HSZ.out; omega)
          have hN2 : IsA w2 (fun b => b < w.heap.size ∨ w.heap.size + 4 ≤ b) m2 (tm (wi pn pt M)) := hI7.mono (fun b hb => Or.inr (by have := HSZ.out; omega))
          clear hszz hI7 ia HSZ
          have HSZ := HSZ2
          clear HSZ2
          have ia := hN2
          clear hN2
          clear of ox ix izz ivv
          have q0 := oo.cell (i := 0) rfl
          have g0 := oo.frozen 0
          have q1 := oo.cell (i := 1) rfl
          have g1 := oo.frozen 1
          have q2 := oo.cell (i := 2) rfl
          have g2 := oo.frozen 2
          have q3 := oo.cell (i := 3) rfl
          have g3 := oo.frozen 3
          have q4 := oo.cell (i := 4) rfl
          have g4 := oo.frozen 4
          replace hB := below_put5 (b := ob) hB (by have := HOB.out; omega) (.int .i64 m2.k) (.int .i64 m2.n) (sV m2.s) (.slice m2.la m2.ln m2.lc) (.slice m2.fa m2.fn m2.fc)
          replace oc := Own.put5n oc (c := ob) (by have := HOB.out; have := HSZ.out; omega) (.int .i64 m2.k) (.int .i64 m2.n) (sV m2.s) (.slice m2.la m2.ln m2.lc) (.slice m2.fa m2.fn m2.fc)
          replace od := Own.put5n od (c := ob) (by have := HOB.out; have := HSZ.out; omega) (.int .i64 m2.k) (.int .i64 m2.n) (sV m2.s) (.slice m2.la m2.ln m2.lc) (.slice m2.fa m2.fn m2.fc)
          replace orr := Own.put5n orr (c := ob) (by have := HOB.out; have := HSZ.out; omega) (.int .i64 m2.k) (.int .i64 m2.n) (sV m2.s) (.slice m2.la m2.ln m2.lc) (.slice m2.fa m2.fn m2.fc)
          have oo2 := own_put5 oo (.int .i64 m2.k) (.int .i64 m2.n) (sV m2.s) (.slice m2.la m2.ln m2.lc) (.slice m2.fa m2.fn m2.fc)
          replace ia := ia.put5 (b := ob) (by have := HOB.out; have := HSZ.out; omega) (.int .i64 m2.k) (.int .i64 m2.n) (sV m2.s) (.slice m2.la m2.ln m2.lc) (.slice m2.fa m2.fn m2.fc)
          have HE := Lib.hid (And.intro hB (And.intro oc (And.intro od (And.intro orr (And.intro oo2 ia)))))
          clear hB oc od orr oo oo2 ia
          go_wp2
          clear q0 g0 q1 g1 q2 g2 q3 g3 q4 g4
          go_roundg (f.length - (q + 1))
          case measure => have := HGQ.out; omega
          case rel => exact ⟨q + 1, m2, wi pn pt M, by omega, rfl, by go_num, HE.out.1, HE.out.2.1, HE.out.2.2.1, HE.out.2.2.2.1, HE.out.2.2.2.2.1, HE.out.2.2.2.2.2, HMN⟩
        | some ot =>
          obtain rfl : B = true := hBl.symm
          have HOT := Lib.hid (show ot.size ≤ 900 ∧ Mp ot from ⟨by have h1 := kid_szn (t := v) (look_mem (by rw [HAL.out]; exact hlu)); have h2 := HS.out.2.2.1; omega, HS.out.2.2.2.2.look (by rw [HAL.out]; exact hlu)⟩)
          clear hBl hlu
          have s0 := ox.cell (i := 0) rfl
          have s1 := ox.cell (i := 1) rfl
          have s2 := ox.cell (i := 2) rfl
          have s3 := ox.cell (i := 3) rfl
          have s4 := ox.cell (i := 4) rfl
          have f0 := of.cell (i := 0) rfl
          have f1 := of.cell (i := 1) rfl
          have f2 := of.cell (i := 2) rfl
          have f3 := of.cell (i := 3) rfl
          have f4 := of.cell (i := 4) rfl
          have f5 := of.cell (i := 5) rfl
          have HS1 := Lib.hid (And.intro hB (And.intro oc (And.intro od (And.intro orr (And.intro oo (And.intro ia (And.intro ivv (And.intro of (And.intro izz (And.intro ix ox))))))))))
          clear hB oc od orr oo ia ivv of izz ix ox
          go_wp2_with fail
          clear s0 s1 s2 s3 s4 f0 f1 f2 f3 f4 f5
          obtain ⟨hB, oc, od, orr, oo, ia, ivv, of, izz, ix, ox⟩ := HS1.out
          clear HS1
          obtain ⟨E, hE⟩ : ∃ E, (cmpT ot pt == 0) = E := ⟨_, rfl⟩
          have hq0 := requal_any ot pt x z _ ix izz
          rw [hE] at hq0
          refine (hq0).mono ?_
          rintro e w2 ⟨rfl, hb⟩
          have hszz := hb.size
          replace hB := below_all hB hb
          replace oc := oc.all hb
          replace od := od.all hb
          replace orr := orr.all hb
          replace oo := oo.all hb
          replace ia := ia.all hb
          replace ivv := ivv.all hb
          replace of := of.all hb
          replace izz := izz.all hb
          replace ix := ix.all hb
          replace ox := ox.all hb
          clear hb
          have HSZ2 := Lib.hid (show w.heap.size + 4 ≤ w2.heap.size from by have := HSZ.out; omega)
          clear hszz HSZ hq0
          have HSZ := HSZ2
          clear HSZ2
          cases E with
          | true =>
            have HMN : Hid (M = difF (f.take (q + 1)) a (nulF a f [])) := Lib.hid (by rw [HTK.out]; exact (if_pos (by simpa using hE)).symm)
            have HE := Lib.hid (And.intro hB (And.intro oc (And.intro od (And.intro orr (And.intro oo ia)))))
            clear hE hB oc od orr oo ia ivv of izz ix ox
            go_wp2
            go_roundg (f.length - (q + 1))
            case measure => have := HGQ.out; omega
            case rel => exact ⟨q + 1, co, M, by omega, rfl, by go_num, HE.out.1, HE.out.2.1, HE.out.2.2.1, HE.out.2.2.2.1, HE.out.2.2.2.2.1, HE.out.2.2.2.2.2, HMN⟩
          | false =>
            have HMN : Hid (wi pn (difT pt ot) M = difF (f.take (q + 1)) a (nulF a f [])) := Lib.hid (by rw [HTK.out]; exact (if_neg (by simpa using hE)).symm)
            clear hE
            have HS1 := Lib.hid (And.intro hB (And.intro oc (And.intro od (And.intro orr (And.intro oo (And.intro ia (And.intro ivv (And.intro of (And.intro izz (And.intro ix ox))))))))))
            clear hB oc od orr oo ia ivv of izz ix ox
            go_upto_region 18 with (fail)
            obtain ⟨hB, oc, od, orr, oo, ia, ivv, of, izz, ix, ox⟩ := HS1.out
            clear HS1
            have s0 := cell_regrown (oo.cell (i := 0) rfl)
            have s1 := cell_regrown (oo.cell (i := 1) rfl)
            have s2 := cell_regrown (oo.cell (i := 2) rfl)
            have s3 := cell_regrown (oo.cell (i := 3) rfl)
            have s4 := cell_regrown (oo.cell (i := 4) rfl)
            have f0 := cell_regrown (of.cell (i := 0) rfl)
            have f1 := cell_regrown (of.cell (i := 1) rfl)
            have f2 := cell_regrown (of.cell (i := 2) rfl)
            have f3 := cell_regrown (of.cell (i := 3) rfl)
            have f4 := cell_regrown (of.cell (i := 4) rfl)
            have f5 := cell_regrown (of.cell (i := 5) rfl)
            have x0 := cell_regrown (ox.cell (i := 0) rfl)
            have x1 := cell_regrown (ox.cell (i := 1) rfl)
            have x2 := cell_regrown (ox.cell (i := 2) rfl)
            have x3 := cell_regrown (ox.cell (i := 3) rfl)
            have x4 := cell_regrown (ox.cell (i := 4) rfl)
            have HS1 := Lib.hid (And.intro hB (And.intro oc (And.intro od (And.intro orr (And.intro oo (And.intro ia (And.intro ivv (And.intro of (And.intro izz (And.intro ix ox))))))))))
            clear hB oc od orr oo ia ivv of izz ix ox
            refine Dep.wp_region_multi 8 (fun i => i == 6 || i == 7) (fun ii _ uu ww => WV w2.heap.size (difT pt ot) (tm (wi pn (difT pt ot) M)) ii uu ww) (fun _ uu => ∃ c' : VC, uu = c'.val) (fun i => if i = 7 then [6] else []) (by kernel_rfl) (by kernel_rfl) (by kernel_rfl)
              (fun i xs u w1 w2 h hb => WV.up h hb) (fun _ => ⟨VC0.val, VC0, rfl⟩) ?_
            simp only [List.take_succ_cons, List.take_zero, List.drop_succ_cons, List.drop_zero]
            refine Dep.wpM_stretch 6 rfl rfl rfl rfl ?_
            simp only [List.take_succ_cons, List.take_zero, List.drop_succ_cons, List.drop_zero]
            repeat (first | go_big_quiet_step (fail) | quiet_step (fail))
            refine wpQuiet_nil ?_
            refine Dep.wpM_dem rfl rfl rfl ?_ ?_
            · rintro _ ⟨pp, rfl⟩ hd
              go_simp
              simp only [demUpon]
              obtain ⟨hB, oc, od, orr, oo, ia, ivv, of, izz, ix, ox⟩ := HS1.out
              refine ⟨trivial, (IH.out pt ot (by have h1 := kid_lt HPT.out; have h2 := HS.out.1; omega) (by have h1 := kid_szn HPT.out; have h2 := HS.out.2.1; omega) HOT.out.1 (HS.out.2.2.2.1.kid HPT.out) HOT.out.2 x z _ (ix.all (below_regrown w2 pp.d pp.os)) (izz.all (below_regrown w2 pp.d pp.os))).mono ?_⟩
              rintro e wA ⟨c', rfl, hbA, hN⟩
              exact ⟨_, rfl, ⟨c', rfl⟩, hbA, fun _ => ⟨c', rfl, hN⟩, fun h => by omega⟩
            rintro vv hvv
            obtain ⟨m1, rfl⟩ : ∃ c' : VC, vv = c'.val := hvv
            try clear hvv
            refine Dep.wpM_dem rfl rfl rfl ?_ ?_
            · rintro _ ⟨pp, rfl⟩ hd
              go_simp
              simp only [demUpon]
              obtain ⟨hB, oc, od, orr, oo, ia, ivv, of, izz, ix, ox⟩ := HS1.out
              obtain ⟨e6, he6, hI6⟩ := (hd 6 (by decide)).1 rfl
              obtain rfl := VC.val_inj he6
              have hsz := (below_regrown w2 pp.d pp.os).size
              refine ⟨trivial, (rwith_any co m1 5 0 [] [] M pn (difT pt ot) _ (ia.is.all (below_regrown w2 pp.d pp.os)) hI6 HMS.out (by have h1 := dif_size _ pt ot (Nat.le_refl _) (HS.out.2.2.2.1.kid HPT.out) HOT.out.2; have h2 := HOT.out.1; have h3 := kid_szn HPT.out; have h4 := HS.out.2.1; omega)).mono ?_⟩
              rintro e wA ⟨c', M', rfl, hbA, hN, hM⟩
              obtain rfl : M' = wi pn (difT pt ot) M := by
                have hM2 : MapOf (oth pn M ++ [(pn, difT pt ot)]) M' := by rw [show othK 5 pn M = oth pn M from if_pos rfl] at hM; exact hM
                exact hM2.unique (mapL_of _)
              exact ⟨_, rfl, ⟨c', rfl⟩, hbA, fun h => by omega, fun _ => ⟨c', rfl, hN.mono (fun b hb => by omega)⟩⟩
            rintro vv hvv
            obtain ⟨m2, rfl⟩ : ∃ c' : VC, vv = c'.val := hvv
            try clear hvv
            refine Dep.wpM_end ?_
            rintro U hbU hFU
            obtain ⟨e7, he7, hI7⟩ := (show WV w2.heap.size (difT pt ot) (tm (wi pn (difT pt ot) M)) 7 m2.val U from hFU 7).2 rfl
            obtain rfl := VC.val_inj he7
            clear hFU he7
            obtain ⟨hB, oc, od, orr, oo, ia, ivv, of, izz, ix, ox⟩ := HS1.out
            clear HS1
            clear s0 x0 s1 x1 s2 x2 s3 x3 s4 x4 f0 f1 f2 f3 f4 f5
            have hszU := hbU.size
            clear of ox ix izz ia ivv
            replace hB := below_all hB hbU
            replace oc := oc.all hbU
            replace od := od.all hbU
            replace orr := orr.all hbU
            replace oo := oo.all hbU
            have HSZ2 := Lib.hid (show w.heap.size + 4 ≤ U.heap.size from by have := HSZ.out; omega)
            have ia : IsA U (fun b => b < w.heap.size ∨ w.heap.size + 4 ≤ b) m2 (tm (wi pn (difT pt ot) M)) := hI7.mono (fun b hb => Or.inr (by have := HSZ.out; omega))
            clear hbU hszU hI7 HSZ
            have HSZ := HSZ2
            clear HSZ2
            have q0 := oo.cell (i := 0) rfl
            have g0 := oo.frozen 0
            have q1 := oo.cell (i := 1) rfl
            have g1 := oo.frozen 1
            have q2 := oo.cell (i := 2) rfl
            have g2 := oo.frozen 2
            have q3 := oo.cell (i := 3) rfl
            have g3 := oo.frozen 3
            have q4 := oo.cell (i := 4) rfl
            have g4 := oo.frozen 4
            replace hB := below_put5 (b := ob) hB (by have := HOB.out; omega) (.int .i64 m2.k) (.int .i64 m2.n) (sV m2.s) (.slice m2.la m2.ln m2.lc) (.slice m2.fa m2.fn m2.fc)
            replace oc := Own.put5n oc (c := ob) (by have := HOB.out; have := HSZ.out; omega) (.int .i64 m2.k) (.int .i64 m2.n) (sV m2.s) (.slice m2.la m2.ln m2.lc) (.slice m2.fa m2.fn m2.fc)
            replace od := Own.put5n od (c := ob) (by have := HOB.out; have := HSZ.out; omega) (.int .i64 m2.k) (.int .i64 m2.n) (sV m2.s) (.slice m2.la m2.ln m2.lc) (.slice m2.fa m2.fn m2.fc)
            replace orr := Own.put5n orr (c := ob) (by have := HOB.out; have := HSZ.out; omega) (.int .i64 m2.k) (.int .i64 m2.n) (sV m2.s) (.slice m2.la m2.ln m2.lc) (.slice m2.fa m2.fn m2.fc)
            have oo2 := own_put5 oo (.int .i64 m2.k) (.int .i64 m2.n) (sV m2.s) (.slice m2.la m2.ln m2.lc) (.slice m2.fa m2.fn m2.fc)
            replace ia := ia.put5 (b := ob) (by have := HOB.out; have := HSZ.out; omega) (.int .i64 m2.k) (.int .i64 m2.n) (sV m2.s) (.slice m2.la m2.ln m2.lc) (.slice m2.fa m2.fn m2.fc)
            have HE := Lib.hid (And.intro hB (And.intro oc (And.intro od (And.intro orr (And.intro oo2 ia)))))
            clear hB oc od orr oo oo2 ia
            go_wp2
            clear q0 g0 q1 g1 q2 g2 q3 g3 q4 g4
            go_roundg (f.length - (q + 1))
            case measure => have := HGQ.out; omega
            case rel => exact ⟨q + 1, m2, wi pn (difT pt ot) M, by omega, rfl, by go_num, HE.out.1, HE.out.2.1, HE.out.2.2.1, HE.out.2.2.2.1, HE.out.2.2.2.2.1, HE.out.2.2.2.2.2, HMN⟩
end Go.Proofs.Ytinenbgdkchghaa
namespace Go.Proofs.Ytinenbgdkchghaa
open Go.RowKit Go.Sort Go.Proofs.LawFrame

set_option maxHeartbeats 16000000 in
set_option maxRecDepth 4000 in
theorem diffs_walk (c d : VC) (t u : T) (w : World) (ic : Is w c t) (id : Is w d u) (hst : t.strB 140737488355328) (hsu : u.strB 140737488355328) :
    Calls Try.prog 4 #[.agg #[.int .i64 c.k, .int .i64 c.n, sV c.s, .slice c.la c.ln c.lc, .slice c.fa c.fn c.fc], .agg #[.int .i64 d.k, .int .i64 d.n, sV d.s, .slice d.la d.ln d.lc, .slice d.fa d.fn d.fc]] w fun e w' => e = .returned (.bool true) ∧ Below w.heap.size w w' := by
  have hB : Below w.heap.size w ((w.alloc (.cells #[.int .i64 c.k, .int .i64 c.n, sV c.s, .slice c.la c.ln c.lc, .slice c.fa c.fn c.fc] 25)).alloc (.cells #[.int .i64 d.k, .int .i64 d.n, sV d.s, .slice d.la d.ln d.lc, .slice d.fa d.fn d.fc] 25)) := (((Below.refl _ _).alloc (Nat.le_refl _) _).alloc (by simp) _)
  have oc : Own ((w.alloc (.cells #[.int .i64 c.k, .int .i64 c.n, sV c.s, .slice c.la c.ln c.lc, .slice c.fa c.fn c.fc] 25)).alloc (.cells #[.int .i64 d.k, .int .i64 d.n, sV d.s, .slice d.la d.ln d.lc, .slice d.fa d.fn d.fc] 25)) (w.heap.size) [.int .i64 c.k, .int .i64 c.n, sV c.s, .slice c.la c.ln c.lc, .slice c.fa c.fn c.fc] 25 := (Own.new _ _ _).alloc _
  have od : Own ((w.alloc (.cells #[.int .i64 c.k, .int .i64 c.n, sV c.s, .slice c.la c.ln c.lc, .slice c.fa c.fn c.fc] 25)).alloc (.cells #[.int .i64 d.k, .int .i64 d.n, sV d.s, .slice d.la d.ln d.lc, .slice d.fa d.fn d.fc] 25)) (w.heap.size + 1) [.int .i64 d.k, .int .i64 d.n, sV d.s, .slice d.la d.ln d.lc, .slice d.fa d.fn d.fc] 25 := Own.new_at (by rw [size_alloc]) _ _
  replace ic := ic.all hB
  replace id := id.all hB
  have HS := Lib.hid (And.intro hB (And.intro oc (And.intro od (And.intro ic id))))
  clear hB oc od ic id
  go_enter Try.func4, Try.ntmps4
  go_upto_region 1 with (fail)
  change Code.wp Try.prog _ _ _ ((w.alloc (.cells #[.int .i64 c.k, .int .i64 c.n, sV c.s, .slice c.la c.ln c.lc, .slice c.fa c.fn c.fc] 25)).alloc (.cells #[.int .i64 d.k, .int .i64 d.n, sV d.s, .slice d.la d.ln d.lc, .slice d.fa d.fn d.fc] 25))
  generalize ((w.alloc (.cells #[.int .i64 c.k, .int .i64 c.n, sV c.s, .slice c.la c.ln c.lc, .slice c.fa c.fn c.fc] 25)).alloc (.cells #[.int .i64 d.k, .int .i64 d.n, sV d.s, .slice d.la d.ln d.lc, .slice d.fa d.fn d.fc] 25)) = V1 at *
  obtain ⟨hB, oc, od, ic, id⟩ := HS.out
  clear HS
  have a00 := oc.cell (i := 0) rfl
  have a01 := oc.cell (i := 1) rfl
  have a02 := oc.cell (i := 2) rfl
  have a03 := oc.cell (i := 3) rfl
  have a04 := oc.cell (i := 4) rfl
  have a10 := od.cell (i := 0) rfl
  have a11 := od.cell (i := 1) rfl
  have a12 := od.cell (i := 2) rfl
  have a13 := od.cell (i := 3) rfl
  have a14 := od.cell (i := 4) rfl
  have HS := Lib.hid (And.intro hB (And.intro oc (And.intro od (And.intro ic id))))
  clear hB oc od ic id
  go_wp2_with fail
  clear a00 a01 a02 a03 a04 a10 a11 a12 a13 a14
  obtain ⟨hB, oc, od, ic, id⟩ := HS.out
  clear HS
  have hbN := below_alloc V1 (.cells #[.int .i64 c.k, .int .i64 c.n, sV c.s, .slice c.la c.ln c.lc, .slice c.fa c.fn c.fc, .int .i64 d.k, .int .i64 d.n, sV d.s, .slice d.la d.ln d.lc, .slice d.fa d.fn d.fc] 25)
  replace hB := below_all hB hbN
  replace oc := oc.all hbN
  replace od := od.all hbN
  replace ic := ic.all hbN
  replace id := id.all hbN
  clear hbN
  have oS : Own (V1.alloc (.cells #[.int .i64 c.k, .int .i64 c.n, sV c.s, .slice c.la c.ln c.lc, .slice c.fa c.fn c.fc, .int .i64 d.k, .int .i64 d.n, sV d.s, .slice d.la d.ln d.lc, .slice d.fa d.fn d.fc] 25)) V1.heap.size (VC.cells c ++ VC.cells d) 25 := Own.new _ _ _
  have hv := vals_two oS ic id
  clear oS
  refine (sound_any [t, u] _ _ hv (by intro t ht; simp only [List.mem_cons, List.not_mem_nil, or_false] at ht; rcases ht with rfl | rfl <;> assumption)).mono ?_
  rintro e w1 HR
  obtain ⟨r, rfl, hb, hr⟩ := HR.out
  clear HR hv
  replace hB := below_all hB hb
  replace oc := oc.all hb
  replace od := od.all hb
  replace ic := ic.all hb
  replace id := id.all hb
  clear hb
  cases r with
  | false =>
    clear hr
    clear oc od ic id
    have HB := Lib.hid hB
    clear hB
    go_wp2_with fail
    refine (lives_any _).mono ?_
    rintro e wz ⟨rfl, hbz⟩
    go_wp2
    go_ret
    exact ⟨rfl, below_all HB.out hbz⟩
  | true =>
  have HV := Lib.hid (show (Val 12 t ∧ t.size ≤ 600) ∧ (Val 12 u ∧ u.size ≤ 600) from ⟨hr rfl t (by simp), hr rfl u (by simp)⟩)
  clear hr
  have HS := Lib.hid (And.intro hB (And.intro oc (And.intro od (And.intro ic id))))
  clear hB oc od ic id
  go_upto_region 3 with (fail)
  change Code.wp Try.prog _ _ _ w1
  generalize w1 = V3 at *
  obtain ⟨hB, oc, od, ic, id⟩ := HS.out
  clear HS
  have a0 := cell_regrown (oc.cell (i := 0) rfl)
  have a1 := cell_regrown (oc.cell (i := 1) rfl)
  have a2 := cell_regrown (oc.cell (i := 2) rfl)
  have a3 := cell_regrown (oc.cell (i := 3) rfl)
  have a4 := cell_regrown (oc.cell (i := 4) rfl)
  have b0 := cell_regrown (od.cell (i := 0) rfl)
  have b1 := cell_regrown (od.cell (i := 1) rfl)
  have b2 := cell_regrown (od.cell (i := 2) rfl)
  have b3 := cell_regrown (od.cell (i := 3) rfl)
  have b4 := cell_regrown (od.cell (i := 4) rfl)
  have HS := Lib.hid (And.intro hB (And.intro oc (And.intro od (And.intro ic id))))
  clear hB oc od ic id
  refine Dep.wp_region_multi 10 (fun i => i == 2 || i == 5 || i == 6 || i == 8)
    (fun ii _ uu ww => VV [(2, difT u t), (5, difT u t)] ii uu ww) (VS [(2, difT u t), (5, difT u t)] []) (fun i => if i = 6 then [2, 5] else []) (by kernel_rfl) (by kernel_rfl) (by kernel_rfl)
    (fun i xs u w1 w2 h hb => VV.up h hb) (VS.some _ _) ?_
  simp only [List.take_succ_cons, List.take_zero, List.drop_succ_cons, List.drop_zero]
  refine Dep.wpM_stretch 2 rfl rfl rfl rfl ?_
  simp only [List.take_succ_cons, List.take_zero, List.drop_succ_cons, List.drop_zero]
  repeat (first | go_big_quiet_step (fail) | quiet_step (fail))
  refine wpQuiet_nil ?_
  refine Dep.wpM_dem rfl rfl rfl ?_ ?_
  · rintro _ ⟨pp, rfl⟩ hd
    go_simp
    simp only [demUpon]
    obtain ⟨hB, oc, od, ic, id⟩ := HS.out
    clear HS
    refine ⟨trivial, (diff_any _ u t (Nat.le_refl _) (by have h1 := HV.out.1.2; have h2 := HV.out.2.2; omega) (by have h1 := HV.out.1.2; have h2 := HV.out.2.2; omega) (snd_mp HV.out.2) (snd_mp HV.out.1) c d _ (ic.all (below_regrown V3 pp.d pp.os)) (id.all (below_regrown V3 pp.d pp.os))).mono ?_⟩
    rintro e wA ⟨c', rfl, hbA, hN⟩
    exact ⟨_, rfl, ⟨c', rfl⟩, hbA, c', rfl, hN.is⟩
  rintro vv hvv
  obtain ⟨m1, rfl⟩ : ∃ c' : VC, vv = c'.val := hvv
  try clear hvv
  refine Dep.wpM_stretch 2 rfl rfl rfl rfl ?_
  simp only [List.take_succ_cons, List.take_zero, List.drop_succ_cons, List.drop_zero]
  repeat (first | go_big_quiet_step (fail) | quiet_step (fail))
  refine wpQuiet_nil ?_
  refine Dep.wpM_dem rfl rfl rfl ?_ ?_
  · rintro _ ⟨pp, rfl⟩ hd
    go_simp
    simp only [demUpon]
    obtain ⟨hB, oc, od, ic, id⟩ := HS.out
    clear HS
    refine ⟨trivial, (rdiff_any _ u t (Nat.le_refl _) (by have h1 := HV.out.1.2; have h2 := HV.out.2.2; omega) (by have h1 := HV.out.1.2; have h2 := HV.out.2.2; omega) (snd_mp HV.out.2) (snd_mp HV.out.1) c d _ (ic.all (below_regrown V3 pp.d pp.os)) (id.all (below_regrown V3 pp.d pp.os))).mono ?_⟩
    rintro e wA ⟨c', rfl, hbA, hN⟩
    exact ⟨_, rfl, ⟨c', rfl⟩, hbA, c', rfl, hN⟩
  rintro vv hvv
  obtain ⟨m2, rfl⟩ : ∃ c' : VC, vv = c'.val := hvv
  try clear hvv
  refine Dep.wpM_dem rfl rfl rfl ?_ ?_
  · rintro _ ⟨pp, rfl⟩ hd
    go_simp
    simp only [demUpon]
    obtain ⟨hB, oc, od, ic, id⟩ := HS.out
    clear HS
    obtain ⟨e2, he2, hI2⟩ := (show ∃ c' : VC, m1.val = c'.val ∧ Is (grow (redrawn V3 pp.d) pp.os) c' (difT u t) from hd 2 (by decide))
    obtain rfl := VC.val_inj he2
    obtain ⟨e5, he5, hI5⟩ := (show ∃ c' : VC, m2.val = c'.val ∧ Is (grow (redrawn V3 pp.d) pp.os) c' (difT u t) from hd 5 (by decide))
    obtain rfl := VC.val_inj he5
    refine ⟨trivial, (alike_true rfl hI2 hI5).mono ?_⟩
    rintro e wA ⟨rfl, hbA⟩
    exact ⟨_, rfl, rfl, hbA, trivial⟩
  rintro vv hvv
  obtain rfl : vv = .bool true := hvv
  try clear hvv
  refine Dep.wpM_stretch 1 rfl rfl rfl rfl ?_
  simp only [List.take_succ_cons, List.take_zero, List.drop_succ_cons, List.drop_zero]
  repeat (first | go_big_quiet_step (fail) | quiet_step (fail))
  refine wpQuiet_nil ?_
  refine Dep.wpM_dem rfl rfl rfl ?_ ?_
  · rintro _ ⟨pp, rfl⟩ hd
    go_simp
    simp only [demUpon]
    obtain ⟨hB, oc, od, ic, id⟩ := HS.out
    clear HS
    refine ⟨trivial, (lives_any _).mono ?_⟩
    rintro e wA ⟨rfl, hbA⟩
    exact ⟨_, rfl, rfl, hbA, trivial⟩
  rintro vv hvv
  obtain rfl : vv = .bool true := hvv
  try clear hvv
  refine Dep.wpM_stretch 1 rfl rfl rfl rfl ?_
  simp only [List.take_succ_cons, List.take_zero, List.drop_succ_cons, List.drop_zero]
  repeat (first | go_big_quiet_step (fail) | quiet_step (fail))
  refine wpQuiet_nil ?_
  refine Dep.wpM_end ?_
  rintro U hbU -
  obtain ⟨hB, oc, od, ic, id⟩ := HS.out
  clear HS
  go_wp2
  go_ret
  exact ⟨rfl, below_all hB hbU⟩
end Go.Proofs.Ytinenbgdkchghaa
