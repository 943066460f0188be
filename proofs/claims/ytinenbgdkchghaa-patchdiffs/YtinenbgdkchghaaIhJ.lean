/- The reference's Merge. -/
import Derived.Test.YtinenbgdkchghaaIc
import Derived.Test.YtinenbgdkchghaaId
import Derived.Test.YtinenbgdkchghaaEeJ
set_option linter.unusedSimpArgs false
set_option linter.unusedVariables false
namespace Go.Proofs.Ytinenbgdkchghaa
open Go.RowKit Go.Sort Go.Proofs.LawFrame

theorem size_put5 (W : World) (b : Nat) (v0 v1 v2 v3 v4 : Value) : (put5 W b v0 v1 v2 v3 v4).heap.size = W.heap.size := by unfold put5 World.setCell; simp
theorem fldsA_nil (w : World) (A : Nat → Prop) : FldsA w A (.slice none 0 0) [] := ⟨[], rfl, FlatA.nil _ _ _, fun i x p h => by simp at h, fun i x p h => by simp at h⟩
theorem look_take {f : List (Str × T)} {q : Nat} {pn : Str} {pt : T} (hs : SSrt f) (hx : f[q]? = some (pn, pt)) : look pn (f.take q) = none := by
  refine look_none (fun p hp e => ?_)
  obtain ⟨j, hj⟩ := List.getElem?_of_mem hp
  have hjq : j < q := by have := (List.getElem?_eq_some_iff.1 hj).1; simp at this; omega
  rw [List.getElem?_take_of_lt hjq] at hj
  have hlq := (List.getElem?_eq_some_iff.1 hx).1
  have h1 := List.pairwise_iff_getElem.1 hs j q (by omega) hlq hjq
  rw [(List.getElem?_eq_some_iff.1 hj).2, (List.getElem?_eq_some_iff.1 hx).2, e] at h1
  simp [cmpS_refl] at h1
theorem mrg_old {f M : List (Str × T)} {q : Nat} {pn : Str} {pt : T} (hs : SSrt f) (hM : SSrt M) (hx : f[q]? = some (pn, pt)) : look pn (mrgF (f.take q) M) = look pn M := by
  rw [mrgF_look pn (hs.sublist (List.take_sublist _ _)) hM, look_take hs hx]
/-- what is known of the two calls of With(out, name, f(old, new)) -/
def WV (m : Nat) (r t : T) (i : Nat) (u : Value) (w : World) : Prop := (i = 6 → ∃ c' : VC, u = c'.val ∧ Is w c' r) ∧ (i = 7 → ∃ c' : VC, u = c'.val ∧ IsA w (fun b => m ≤ b) c' t)
theorem WV.up {m : Nat} {r t : T} {i : Nat} {u : Value} {w w' : World} (h : WV m r t i u w) (hb : Below w.heap.size w w') : WV m r t i u w' :=
  ⟨fun e => by obtain ⟨c', a1, a2⟩ := h.1 e; exact ⟨c', a1, a2.all hb⟩, fun e => by obtain ⟨c', a1, a2⟩ := h.2 e; exact ⟨c', a1, a2.all hb⟩⟩
set_option maxHeartbeats 32000000 in
set_option maxRecDepth 4000 in
theorem rmerge_any : ∀ (N : Nat) (p v : T), SizeOf.sizeOf p ≤ N → p.size ≤ 1900 → v.size ≤ 1900 → Mp p → Mp v → ∀ (c d : VC) (w0 w : World), Below w0.heap.size w0 w → Is w0 c v → Is w0 d p →
    Calls Try.prog 14 #[c.val, d.val] w fun e w' => ∃ c' : VC, e = .returned c'.val ∧ Below w.heap.size w w' ∧ IsA w' (fun b => b < w0.heap.size ∨ w.heap.size ≤ b) c' (mrgT p v) := by
  intro N
  induction N with
  | zero => intro p v h; cases p; simp at h
  | succ N ih =>
    intro p v hN hpz hvz hpm hvm c d w0 w hw0 hI hJ
    have IH := Lib.hid ih
    have HS := Lib.hid (And.intro hN (And.intro hpz (And.intro hvz (And.intro hpm hvm))))
    have HI0 := Lib.hid (And.intro hI hJ)
    have HB0 := Lib.hid hw0
    have hz0 := hw0.size
    have HDK := Lib.hid (And.intro (is_kd hI) (is_kd hJ))
    clear ih hN hpz hvz hpm hvm hI hJ hw0
    have hB : Below w.heap.size w (((w.alloc (.cells #[.int .i64 c.k, .int .i64 c.n, sV c.s, .slice c.la c.ln c.lc, .slice c.fa c.fn c.fc] 25)).alloc (.cells #[.int .i64 d.k, .int .i64 d.n, sV d.s, .slice d.la d.ln d.lc, .slice d.fa d.fn d.fc] 25)).alloc (.cells #[.int .i64 0, .int .i64 0, .string ⟨#[]⟩, .slice none 0 0, .slice none 0 0] 25)) := (((Below.refl _ _).alloc (Nat.le_refl _) _).alloc (by simp) _).alloc (by simp; omega) _
    have oc : Own (((w.alloc (.cells #[.int .i64 c.k, .int .i64 c.n, sV c.s, .slice c.la c.ln c.lc, .slice c.fa c.fn c.fc] 25)).alloc (.cells #[.int .i64 d.k, .int .i64 d.n, sV d.s, .slice d.la d.ln d.lc, .slice d.fa d.fn d.fc] 25)).alloc (.cells #[.int .i64 0, .int .i64 0, .string ⟨#[]⟩, .slice none 0 0, .slice none 0 0] 25)) w.heap.size [.int .i64 c.k, .int .i64 c.n, sV c.s, .slice c.la c.ln c.lc, .slice c.fa c.fn c.fc] 25 := ((Own.new _ _ _).alloc _).alloc _
    have od : Own (((w.alloc (.cells #[.int .i64 c.k, .int .i64 c.n, sV c.s, .slice c.la c.ln c.lc, .slice c.fa c.fn c.fc] 25)).alloc (.cells #[.int .i64 d.k, .int .i64 d.n, sV d.s, .slice d.la d.ln d.lc, .slice d.fa d.fn d.fc] 25)).alloc (.cells #[.int .i64 0, .int .i64 0, .string ⟨#[]⟩, .slice none 0 0, .slice none 0 0] 25)) (w.heap.size + 1) [.int .i64 d.k, .int .i64 d.n, sV d.s, .slice d.la d.ln d.lc, .slice d.fa d.fn d.fc] 25 := (Own.new_at (by rw [size_alloc]) _ _).alloc _
    have orr : Own (((w.alloc (.cells #[.int .i64 c.k, .int .i64 c.n, sV c.s, .slice c.la c.ln c.lc, .slice c.fa c.fn c.fc] 25)).alloc (.cells #[.int .i64 d.k, .int .i64 d.n, sV d.s, .slice d.la d.ln d.lc, .slice d.fa d.fn d.fc] 25)).alloc (.cells #[.int .i64 0, .int .i64 0, .string ⟨#[]⟩, .slice none 0 0, .slice none 0 0] 25)) (w.heap.size + 1 + 1) [.int .i64 0, .int .i64 0, .string ⟨#[]⟩, .slice none 0 0, .slice none 0 0] 25 := Own.new_at (by rw [size_alloc, size_alloc]) _ _
    have HSV := Lib.hid (show (((w.alloc (.cells #[.int .i64 c.k, .int .i64 c.n, sV c.s, .slice c.la c.ln c.lc, .slice c.fa c.fn c.fc] 25)).alloc (.cells #[.int .i64 d.k, .int .i64 d.n, sV d.s, .slice d.la d.ln d.lc, .slice d.fa d.fn d.fc] 25)).alloc (.cells #[.int .i64 0, .int .i64 0, .string ⟨#[]⟩, .slice none 0 0, .slice none 0 0] 25)).heap.size = w.heap.size + 3 from by rw [size_alloc, size_alloc, size_alloc])
    have HS1 := Lib.hid (And.intro hB (And.intro oc (And.intro od orr)))
    clear hB oc od orr
    show Calls Try.prog 14 #[.agg #[.int .i64 c.k, .int .i64 c.n, sV c.s, .slice c.la c.ln c.lc, .slice c.fa c.fn c.fc], .agg #[.int .i64 d.k, .int .i64 d.n, sV d.s, .slice d.la d.ln d.lc, .slice d.fa d.fn d.fc]] w _
    go_enter Try.func14, Try.ntmps14
    go_upto_region 1 with (fail)
    change Code.wp Try.prog _ _ _ (((w.alloc (.cells #[.int .i64 c.k, .int .i64 c.n, sV c.s, .slice c.la c.ln c.lc, .slice c.fa c.fn c.fc] 25)).alloc (.cells #[.int .i64 d.k, .int .i64 d.n, sV d.s, .slice d.la d.ln d.lc, .slice d.fa d.fn d.fc] 25)).alloc (.cells #[.int .i64 0, .int .i64 0, .string ⟨#[]⟩, .slice none 0 0, .slice none 0 0] 25))
    generalize (((w.alloc (.cells #[.int .i64 c.k, .int .i64 c.n, sV c.s, .slice c.la c.ln c.lc, .slice c.fa c.fn c.fc] 25)).alloc (.cells #[.int .i64 d.k, .int .i64 d.n, sV d.s, .slice d.la d.ln d.lc, .slice d.fa d.fn d.fc] 25)).alloc (.cells #[.int .i64 0, .int .i64 0, .string ⟨#[]⟩, .slice none 0 0, .slice none 0 0] 25)) = V at *
    obtain ⟨hB, oc, od, orr⟩ := HS1.out
    clear HS1
    have y0 := od.cell (i := 0) rfl
    by_cases h5 : kd p = 5
    case neg =>
      have e5 : (d.k != 5) = true := by rw [bne_iff_ne, HDK.out.2]; exact h5
      have HF : Hid (mrgT p v = p) := Lib.hid (mrgT_leaf h5)
      clear h5
      have y1 := od.cell (i := 1) rfl
      have y2 := od.cell (i := 2) rfl
      have y3 := od.cell (i := 3) rfl
      have y4 := od.cell (i := 4) rfl
      have oFin := orr
      have q0 := oFin.cell (i := 0) rfl
      have g0 := oFin.frozen 0
      have q1 := oFin.cell (i := 1) rfl
      have g1 := oFin.frozen 1
      have q2 := oFin.cell (i := 2) rfl
      have g2 := oFin.frozen 2
      have q3 := oFin.cell (i := 3) rfl
      have g3 := oFin.frozen 3
      have q4 := oFin.cell (i := 4) rfl
      have g4 := oFin.frozen 4
      have HU := Lib.hid (And.intro (own_put5 oFin (.int .i64 d.k) (.int .i64 d.n) (sV d.s) (.slice d.la d.ln d.lc) (.slice d.fa d.fn d.fc)) (below_put5 (b := w.heap.size + 1 + 1) hB (by omega) (.int .i64 d.k) (.int .i64 d.n) (sV d.s) (.slice d.la d.ln d.lc) (.slice d.fa d.fn d.fc)))
      clear oFin
      clear oc od orr
      have HBB := Lib.hid hB
      clear hB
      go_wp2
      clear q0 g0 y0 q1 g1 y1 q2 g2 y2 q3 g3 y3 q4 g4 y4
      change bodyPost Try.prog Try.f14 _ _ _ (put5 V (w.heap.size + 1 + 1) (.int .i64 d.k) (.int .i64 d.n) (sV d.s) (.slice d.la d.ln d.lc) (.slice d.fa d.fn d.fc))
      generalize put5 V (w.heap.size + 1 + 1) (.int .i64 d.k) (.int .i64 d.n) (sV d.s) (.slice d.la d.ln d.lc) (.slice d.fa d.fn d.fc) = U at *
      have c0 := HU.out.1.cell (i := 0) rfl
      have c1 := HU.out.1.cell (i := 1) rfl
      have c2 := HU.out.1.cell (i := 2) rfl
      have c3 := HU.out.1.cell (i := 3) rfl
      have c4 := HU.out.1.cell (i := 4) rfl
      exact bodyPost_ret (v := .agg #[.int .i64 d.k, .int .i64 d.n, sV d.s, .slice d.la d.ln d.lc, .slice d.fa d.fn d.fc]) (by simp [results, Try.results14, go_sem, c0, c1, c2, c3, c4]) rfl ⟨d, rfl, HU.out.2, by rw [HF.out]; exact HI0.out.2.isA.keep (below_all HB0.out HU.out.2).size (fun b hb => Or.inl hb) (fun b hb _ => (below_all HB0.out HU.out.2).block b hb)⟩
    have e5 : (d.k != 5) = false := by rw [bne_eq_false_iff_eq, HDK.out.2]; exact h5
    have HK := Lib.hid h5
    clear h5
    have hbN := below_alloc V (.cells #[.int .i64 5, .int .i64 0, .string ⟨#[]⟩, .slice none 0 0, .slice none 0 0] 25)
    replace hB := below_all hB hbN
    replace oc := oc.all hbN
    replace od := od.all hbN
    replace orr := orr.all hbN
    clear hbN
    have oo : Own (V.alloc (.cells #[.int .i64 5, .int .i64 0, .string ⟨#[]⟩, .slice none 0 0, .slice none 0 0] 25)) V.heap.size [.int .i64 5, .int .i64 0, .string ⟨#[]⟩, .slice none 0 0, .slice none 0 0] 25 := Own.new _ _ _
    have HS1 := Lib.hid (And.intro hB (And.intro oc (And.intro od (And.intro orr oo))))
    clear hB oc od orr oo
    go_upto_region 4 with (fail)
    clear y0 e5
    change Code.wp Try.prog _ _ _ (V.alloc (.cells #[.int .i64 5, .int .i64 0, .string ⟨#[]⟩, .slice none 0 0, .slice none 0 0] 25))
    have HSV1 := Lib.hid (show (V.alloc (.cells #[.int .i64 5, .int .i64 0, .string ⟨#[]⟩, .slice none 0 0, .slice none 0 0] 25)).heap.size = w.heap.size + 4 from by rw [size_alloc, HSV.out])
    have HOB := HSV
    generalize (V.alloc (.cells #[.int .i64 5, .int .i64 0, .string ⟨#[]⟩, .slice none 0 0, .slice none 0 0] 25)) = V1 at *
    generalize V.heap.size = ob at *
    obtain ⟨hB, oc, od, orr, oo⟩ := HS1.out
    clear HS1
    have HSZ := Lib.hid (Nat.le_of_eq HSV1.out.symm)
    have x0 := oc.cell (i := 0) rfl
    go_upto_if 17 with fail
    go_cut [18] (fun s18 wx => ∃ (co : VC), Below w.heap.size w wx ∧ Own wx w.heap.size [.int .i64 c.k, .int .i64 c.n, sV c.s, .slice c.la c.ln c.lc, .slice c.fa c.fn c.fc] 25 ∧ Own wx (w.heap.size + 1) [.int .i64 d.k, .int .i64 d.n, sV d.s, .slice d.la d.ln d.lc, .slice d.fa d.fn d.fc] 25 ∧ Own wx (w.heap.size + 1 + 1) [.int .i64 0, .int .i64 0, .string ⟨#[]⟩, .slice none 0 0, .slice none 0 0] 25 ∧ Own wx ob [.int .i64 co.k, .int .i64 co.n, sV co.s, .slice co.la co.ln co.lc, .slice co.fa co.fn co.fc] 25 ∧ IsA wx (fun b => b < w0.heap.size ∨ w.heap.size + 4 ≤ b) co (tm (fls v)))
    case first =>
      by_cases hv5 : kd v = 5
      · have ec : (c.k == 5) = true := by rw [beq_iff_eq, HDK.out.1]; exact hv5
        have HVF := Lib.hid (show v = tm (fls v) from HS.out.2.2.2.2.form hv5)
        clear hv5
        have x1 := oc.cell (i := 1) rfl
        have x2 := oc.cell (i := 2) rfl
        have x3 := oc.cell (i := 3) rfl
        have x4 := oc.cell (i := 4) rfl
        have q0 := oo.cell (i := 0) rfl
        have g0 := oo.frozen 0
        have q1 := oo.cell (i := 1) rfl
        have g1 := oo.frozen 1
        have q2 := oo.cell (i := 2) rfl
        have g2 := oo.frozen 2
        have q3 := oo.cell (i := 3) rfl
        have g3 := oo.frozen 3
        have q4 := oo.cell (i := 4) rfl
        have g4 := oo.frozen 4
        have ia : IsA V1 (fun b => b < w0.heap.size ∨ w.heap.size + 4 ≤ b) c (tm (fls v)) := by
          have h := HI0.out.1.isA
          rw [HVF.out] at h
          exact h.keep (below_all HB0.out hB).size (fun b hb => Or.inl hb) (fun b hb _ => (below_all HB0.out hB).block b hb)
        replace hB := below_put5 (b := ob) hB (by have := HOB.out; omega) (.int .i64 c.k) (.int .i64 c.n) (sV c.s) (.slice c.la c.ln c.lc) (.slice c.fa c.fn c.fc)
        replace oc := Own.put5n oc (c := ob) (by have := HOB.out; have := HSZ.out; omega) (.int .i64 c.k) (.int .i64 c.n) (sV c.s) (.slice c.la c.ln c.lc) (.slice c.fa c.fn c.fc)
        replace od := Own.put5n od (c := ob) (by have := HOB.out; have := HSZ.out; omega) (.int .i64 c.k) (.int .i64 c.n) (sV c.s) (.slice c.la c.ln c.lc) (.slice c.fa c.fn c.fc)
        replace orr := Own.put5n orr (c := ob) (by have := HOB.out; have := HSZ.out; omega) (.int .i64 c.k) (.int .i64 c.n) (sV c.s) (.slice c.la c.ln c.lc) (.slice c.fa c.fn c.fc)
        have oo2 := own_put5 oo (.int .i64 c.k) (.int .i64 c.n) (sV c.s) (.slice c.la c.ln c.lc) (.slice c.fa c.fn c.fc)
        replace ia := ia.put5 (b := ob) (by have := HOB.out; have := HSZ.out; omega) (.int .i64 c.k) (.int .i64 c.n) (sV c.s) (.slice c.la c.ln c.lc) (.slice c.fa c.fn c.fc)
        clear oo
        have HE := Lib.hid (And.intro hB (And.intro oc (And.intro od (And.intro orr (And.intro oo2 ia)))))
        clear hB oc od orr oo2 ia
        go_wp2
        clear x0 q0 g0 x1 q1 g1 x2 q2 g2 x3 q3 g3 x4 q4 g4
        go_meet
        exact ⟨c, HE.out.1, HE.out.2.1, HE.out.2.2.1, HE.out.2.2.2.1, HE.out.2.2.2.2.1, HE.out.2.2.2.2.2⟩
      · have ec : (c.k == 5) = false := by rw [beq_eq_false_iff_ne, HDK.out.1]; exact hv5
        have HVF := Lib.hid (fls_not hv5)
        have HE := Lib.hid (And.intro hB (And.intro oc (And.intro od (And.intro orr oo))))
        clear hv5 hB oc od orr oo
        go_wp2
        go_meet
        exact ⟨⟨5, 0, [], none, 0, 0, none, 0, 0⟩, HE.out.1, HE.out.2.1, HE.out.2.2.1, HE.out.2.2.2.1, HE.out.2.2.2.2, by rw [HVF.out]; exact isA_mapP (fldsA_nil _ _)⟩
    case rest =>
      obtain ⟨co, hB', oc', od', orr', oo, ia⟩ := hcut
      clear hB oc od orr x0
      have hB := hB'; have oc := oc'; have od := od'; have orr := orr'
      clear hB' oc' od' orr' HSZ HSV1
      have hsz : w.heap.size + 4 ≤ wc.heap.size := by have h1 := oo.lt; have h2 := HOB.out; omega
      obtain ⟨f, hfl⟩ : ∃ f, fls p = f := ⟨_, rfl⟩
      have hff : Flds w0 (.slice d.fa d.fn d.fc) f := by have h := fvl_flds HI0.out.2; unfold fvl at h; rw [if_pos (show d.k = 5 by rw [HDK.out.2]; exact HK.out), hfl] at h; exact h
      have hfn := hff.slice.1
      have hle := hff.slice.2.1
      have hcap := hff.slice.2.2
      unfold maxLen at hcap
      obtain ⟨dk, dn, ds, dla, dln, dlc, dfa, dfn, dfc⟩ := d
      simp only at hfn hle hcap hff
      subst hfn
      have HFF := Lib.hid hff
      have HFL := Lib.hid hfl
      clear hff hfl
      have HSW := Lib.hid hsz
      have HS1 := Lib.hid (And.intro hB (And.intro oc (And.intro od (And.intro orr (And.intro oo ia)))))
      clear hB oc od orr oo ia
      clear hsz
      go_upto_region 7 with (fail)
      go_loopg [6] f.length (fun g i wr => ∃ (q : Nat) (co : VC) (M : List (Str × T)), q ≤ f.length ∧ g = f.length - q ∧ i = .int .i64 q ∧ Below w.heap.size w wr ∧ Own wr w.heap.size [.int .i64 c.k, .int .i64 c.n, sV c.s, .slice c.la c.ln c.lc, .slice c.fa c.fn c.fc] 25 ∧ Own wr (w.heap.size + 1) [.int .i64 dk, .int .i64 dn, sV ds, .slice dla dln dlc, .slice dfa f.length dfc] 25 ∧ Own wr (w.heap.size + 1 + 1) [.int .i64 0, .int .i64 0, .string ⟨#[]⟩, .slice none 0 0, .slice none 0 0] 25 ∧ Own wr ob [.int .i64 co.k, .int .i64 co.n, sV co.s, .slice co.la co.ln co.lc, .slice co.fa co.fn co.fc] 25 ∧ IsA wr (fun b => b < w0.heap.size ∨ w.heap.size + 4 ≤ b) co (tm M) ∧ Hid (M = mrgF (f.take q) (fls v)))
      case atStart =>
        obtain ⟨hB, oc, od, orr, oo, ia⟩ := HS1.out
        exact ⟨0, co, fls v, Nat.zero_le _, rfl, rfl, hB, oc, od, orr, oo, ia, Lib.hid rfl⟩
      case round =>
        obtain ⟨q, co, M, hq, hgq, rfl, hB, oc, od, orr, oo, ia, HM⟩ := hrel
        have hsz : w.heap.size + 4 ≤ wr.heap.size := by have h1 := oo.lt; have h2 := HOB.out; omega
        have HGQ := Lib.hid hgq
        have HSZ := Lib.hid hsz
        clear hgq HS1 HSW hsz
        by_cases hlt : q < f.length
        case neg =>
          obtain rfl : q = f.length := by omega
          have HF : Hid (mrgT p v = tm M) := Lib.hid (by rw [HM.out, List.take_length, mrgT_map HK.out, HFL.out]; rfl)
          have z4 := od.cell (i := 4) rfl
          have s0 := oo.cell (i := 0) rfl
          have s1 := oo.cell (i := 1) rfl
          have s2 := oo.cell (i := 2) rfl
          have s3 := oo.cell (i := 3) rfl
          have s4 := oo.cell (i := 4) rfl
          have oFin := orr
          have q0 := oFin.cell (i := 0) rfl
          have g0 := oFin.frozen 0
          have q1 := oFin.cell (i := 1) rfl
          have g1 := oFin.frozen 1
          have q2 := oFin.cell (i := 2) rfl
          have g2 := oFin.frozen 2
          have q3 := oFin.cell (i := 3) rfl
          have g3 := oFin.frozen 3
          have q4 := oFin.cell (i := 4) rfl
          have g4 := oFin.frozen 4
          have HU := Lib.hid (And.intro (own_put5 oFin (.int .i64 co.k) (.int .i64 co.n) (sV co.s) (.slice co.la co.ln co.lc) (.slice co.fa co.fn co.fc)) (below_put5 (b := w.heap.size + 1 + 1) hB (by omega) (.int .i64 co.k) (.int .i64 co.n) (sV co.s) (.slice co.la co.ln co.lc) (.slice co.fa co.fn co.fc)))
          clear oFin
          have HIA := Lib.hid (ia.put5 (b := w.heap.size + 1 + 1) (by omega) (.int .i64 co.k) (.int .i64 co.n) (sV co.s) (.slice co.la co.ln co.lc) (.slice co.fa co.fn co.fc))
          clear oc od orr oo ia hB
          go_wp2
          clear z4 s0 q0 g0 s1 q1 g1 s2 q2 g2 s3 q3 g3 s4 q4 g4
          change bodyPost Try.prog Try.f14 _ _ _ (put5 wr (w.heap.size + 1 + 1) (.int .i64 co.k) (.int .i64 co.n) (sV co.s) (.slice co.la co.ln co.lc) (.slice co.fa co.fn co.fc))
          generalize put5 wr (w.heap.size + 1 + 1) (.int .i64 co.k) (.int .i64 co.n) (sV co.s) (.slice co.la co.ln co.lc) (.slice co.fa co.fn co.fc) = U at *
          have c0 := HU.out.1.cell (i := 0) rfl
          have c1 := HU.out.1.cell (i := 1) rfl
          have c2 := HU.out.1.cell (i := 2) rfl
          have c3 := HU.out.1.cell (i := 3) rfl
          have c4 := HU.out.1.cell (i := 4) rfl
          exact bodyPost_ret (v := .agg #[.int .i64 co.k, .int .i64 co.n, sV co.s, .slice co.la co.ln co.lc, .slice co.fa co.fn co.fc]) (by simp [results, Try.results14, go_sem, c0, c1, c2, c3, c4]) rfl ⟨co, rfl, HU.out.2, by rw [HF.out]; exact HIA.out.mono (fun b hb => by omega)⟩
        have hx := List.getElem?_eq_getElem hlt
        generalize f[q] = e at hx
        obtain ⟨b, off, z, hao, hbl, hz, z5, z0, z1, z2, z3, z4⟩ := HFF.out.at (below_all HB0.out hB) hx
        subst hao
        obtain ⟨pn, pt⟩ := e
        have HX := Lib.hid (And.intro hx hz)
        have HPT := Lib.hid (show (pn, pt) ∈ fls p from by rw [HFL.out]; exact List.mem_of_getElem? hx)
        have y4 := od.cell (i := 4) rfl
        have HTK : Hid (mrgF (f.take (q + 1)) (fls v) = if kd pt = 0 then wo pn M else wi pn (mrgT pt ((look pn (fls v)).getD T0)) M) := Lib.hid (by
          have h1 : f.take (q + 1) = f.take q ++ [(pn, pt)] := by rw [List.take_add_one, hx]; rfl
          rw [h1, mrgF_snoc, ← HM.out]
          have h2 : look pn M = look pn (fls v) := by
            rw [HM.out]
            exact mrg_old (by rw [← HFL.out]; exact HS.out.2.2.2.1.fls) HS.out.2.2.2.2.fls hx
          rw [h2])
        have HMS : Hid ((tm M).size ≤ 3800) := Lib.hid (by
          have h1 := mrgF_size (f.take q) (fls v)
          have h2 := sizeF_take f q
          have h3 := fls_size p
          have h4 := fls_size v
          have h5 := HS.out.2.1
          have h6 := HS.out.2.2.1
          rw [HFL.out] at h3
          rw [← HM.out] at h1
          have h7 : (tm M).size = 1 + sizeF M := by simp [tm, T.size, sizeL]
          omega)
        clear hx hz
        have hbN := below_alloc wr (.cells #[sV pn, .int .i64 z.k, .int .i64 z.n, sV z.s, .slice z.la z.ln z.lc, .slice z.fa z.fn z.fc] 33)
        replace hB := below_all hB hbN
        replace oc := oc.all hbN
        replace od := od.all hbN
        replace orr := orr.all hbN
        replace oo := oo.all hbN
        replace ia := ia.all hbN
        clear hbN
        have of : Own (wr.alloc (.cells #[sV pn, .int .i64 z.k, .int .i64 z.n, sV z.s, .slice z.la z.ln z.lc, .slice z.fa z.fn z.fc] 33)) wr.heap.size [sV pn, .int .i64 z.k, .int .i64 z.n, sV z.s, .slice z.la z.ln z.lc, .slice z.fa z.fn z.fc] 33 := Own.new _ _ _
        have izz := HX.out.2.all (below_alloc _ (.cells #[sV pn, .int .i64 z.k, .int .i64 z.n, sV z.s, .slice z.la z.ln z.lc, .slice z.fa z.fn z.fc] 33))
        have HS1 := Lib.hid (And.intro hB (And.intro oc (And.intro od (And.intro orr (And.intro oo (And.intro ia (And.intro of izz)))))))
        clear hB oc od orr oo ia of izz
        go_upto_region 10 with (fail)
        clear z5 z0 z1 z2 z3 z4 y4
        change Code.wp Try.prog _ _ _ (wr.alloc (.cells #[sV pn, .int .i64 z.k, .int .i64 z.n, sV z.s, .slice z.la z.ln z.lc, .slice z.fa z.fn z.fc] 33))
        have HSZ2 := Lib.hid (show w.heap.size + 4 ≤ (wr.alloc (.cells #[sV pn, .int .i64 z.k, .int .i64 z.n, sV z.s, .slice z.la z.ln z.lc, .slice z.fa z.fn z.fc] 33)).heap.size from by rw [size_alloc]; have := HSZ.out; omega)
        have HNF := Lib.hid (show w.heap.size + 4 ≤ wr.heap.size from HSZ.out)
        generalize (wr.alloc (.cells #[sV pn, .int .i64 z.k, .int .i64 z.n, sV z.s, .slice z.la z.ln z.lc, .slice z.fa z.fn z.fc] 33)) = V9 at *
        generalize wr.heap.size = nf at *
        clear HSZ
        have HSZ := HSZ2
        clear HSZ2
        obtain ⟨hB, oc, od, orr, oo, ia, of, izz⟩ := HS1.out
        clear HS1
        have f1 := of.cell (i := 1) rfl
        by_cases h0 : kd pt = 0
        case pos =>
          have e0 : (z.k == 0) = true := by rw [beq_iff_eq, is_kd izz]; exact h0
          have HMN : Hid (wo pn M = mrgF (f.take (q + 1)) (fls v)) := Lib.hid (by rw [HTK.out, if_pos h0])
          clear h0
          have s0 := oo.cell (i := 0) rfl
          have s1 := oo.cell (i := 1) rfl
          have s2 := oo.cell (i := 2) rfl
          have s3 := oo.cell (i := 3) rfl
          have s4 := oo.cell (i := 4) rfl
          have f0 := of.cell (i := 0) rfl
          have HS1 := Lib.hid (And.intro hB (And.intro oc (And.intro od (And.intro orr (And.intro oo (And.intro ia (And.intro of izz)))))))
          clear hB oc od orr oo ia of izz
          go_wp2_with fail
          clear f0 f1 e0 s0 s1 s2 s3 s4
          obtain ⟨hB, oc, od, orr, oo, ia, of, izz⟩ := HS1.out
          clear HS1
          refine (rwithout_any co 5 0 [] [] M pn _ ia.is (by have := HMS.out; have h : (T.mk 5 0 [] [] M).size ≤ 3800 := this; omega)).mono ?_
          rintro e w1 ⟨c2, t2, rfl, hb, hN, hW⟩
          obtain ⟨M2, rfl, hM2⟩ := hW.map rfl
          obtain rfl : M2 = wo pn M := hM2.unique (mapL_of _)
          clear hW hM2
          have hszz := hb.size
          replace hB := below_all hB hb
          replace oc := oc.all hb
          replace od := od.all hb
          replace orr := orr.all hb
          replace oo := oo.all hb
          replace ia := ia.all hb
          replace of := of.all hb
          replace izz := izz.all hb
          clear hb
          have HSZ2 := Lib.hid (show w.heap.size + 4 ≤ w1.heap.size from by have := HSZ.out; omega)
          have hN2 : IsA w1 (fun b => b < w0.heap.size ∨ w.heap.size + 4 ≤ b) c2 (tm (wo pn M)) := hN.mono (fun b hb => Or.inr (by have := HSZ.out; omega))
          clear hszz hN ia HSZ
          have HSZ := HSZ2
          clear HSZ2
          have ia := hN2
          clear hN2
          have q0 := oo.cell (i := 0) rfl
          have g0 := oo.frozen 0
          have q1 := oo.cell (i := 1) rfl
          have g1 := oo.frozen 1
          have q2 := oo.cell (i := 2) rfl
          have g2 := oo.frozen 2
          have q3 := oo.cell (i := 3) rfl
          have g3 := oo.frozen 3
          have q4 := oo.cell (i := 4) rfl
          have g4 := oo.frozen 4
          clear izz of
          replace hB := below_put5 (b := ob) hB (by have := HOB.out; omega) (.int .i64 c2.k) (.int .i64 c2.n) (sV c2.s) (.slice c2.la c2.ln c2.lc) (.slice c2.fa c2.fn c2.fc)
          replace oc := Own.put5n oc (c := ob) (by have := HOB.out; have := HSZ.out; omega) (.int .i64 c2.k) (.int .i64 c2.n) (sV c2.s) (.slice c2.la c2.ln c2.lc) (.slice c2.fa c2.fn c2.fc)
          replace od := Own.put5n od (c := ob) (by have := HOB.out; have := HSZ.out; omega) (.int .i64 c2.k) (.int .i64 c2.n) (sV c2.s) (.slice c2.la c2.ln c2.lc) (.slice c2.fa c2.fn c2.fc)
          replace orr := Own.put5n orr (c := ob) (by have := HOB.out; have := HSZ.out; omega) (.int .i64 c2.k) (.int .i64 c2.n) (sV c2.s) (.slice c2.la c2.ln c2.lc) (.slice c2.fa c2.fn c2.fc)
          have oo2 := own_put5 oo (.int .i64 c2.k) (.int .i64 c2.n) (sV c2.s) (.slice c2.la c2.ln c2.lc) (.slice c2.fa c2.fn c2.fc)
          replace ia := ia.put5 (b := ob) (by have := HOB.out; have := HSZ.out; omega) (.int .i64 c2.k) (.int .i64 c2.n) (sV c2.s) (.slice c2.la c2.ln c2.lc) (.slice c2.fa c2.fn c2.fc)
          have HE := Lib.hid (And.intro hB (And.intro oc (And.intro od (And.intro orr (And.intro oo2 ia)))))
          clear hB oc od orr oo oo2 ia
          go_wp2
          clear q0 g0 q1 g1 q2 g2 q3 g3 q4 g4
          go_roundg (f.length - (q + 1))
          case measure => have := HGQ.out; omega
          case rel => exact ⟨q + 1, c2, wo pn M, by omega, rfl, by go_num, HE.out.1, HE.out.2.1, HE.out.2.2.1, HE.out.2.2.2.1, HE.out.2.2.2.2.1, HE.out.2.2.2.2.2, HMN⟩
        have e0 : (z.k == 0) = false := by rw [beq_eq_false_iff_ne, is_kd izz]; exact h0
        obtain ⟨ot, hot⟩ : ∃ ot, (look pn (fls v)).getD T0 = ot := ⟨_, rfl⟩
        have HMN : Hid (wi pn (mrgT pt ot) M = mrgF (f.take (q + 1)) (fls v)) := Lib.hid (by rw [HTK.out, if_neg h0, hot])
        have HOT := Lib.hid (show ot.size ≤ 1900 ∧ Mp ot ∧ (look pn M).getD T0 = ot from ⟨by
          rw [← hot]
          cases hl : look pn (fls v) with
          | none => simp only [Option.getD_none]; rw [T0_size]; omega
          | some u => simp only [Option.getD_some]; have h1 := kid_szn (look_mem hl); have h2 := HS.out.2.2.1; omega, by rw [← hot]; exact HS.out.2.2.2.2.getD, by
          rw [← hot, HM.out, mrg_old (by rw [← HFL.out]; exact HS.out.2.2.2.1.fls) HS.out.2.2.2.2.fls HX.out.1]⟩)
        clear h0 hot
        have s0 := oo.cell (i := 0) rfl
        have s1 := oo.cell (i := 1) rfl
        have s2 := oo.cell (i := 2) rfl
        have s3 := oo.cell (i := 3) rfl
        have s4 := oo.cell (i := 4) rfl
        have f0 := of.cell (i := 0) rfl
        have HS1 := Lib.hid (And.intro hB (And.intro oc (And.intro od (And.intro orr (And.intro oo (And.intro ia (And.intro of izz)))))))
        clear hB oc od orr oo ia of izz
        go_wp2_with fail
        clear f0 f1 e0 s0 s1 s2 s3 s4
        obtain ⟨hB, oc, od, orr, oo, ia, of, izz⟩ := HS1.out
        clear HS1
        refine (rget_any co 5 0 [] [] M pn _ ia.is (fun p hp => by have h1 := size_in_f (k := 5) (n := 0) (s := []) (l := []) hp; have h2 := HMS.out; have h3 : (T.mk 5 0 [] [] M).size ≤ 3800 := h2; omega)).mono ?_
        rintro e w1 ⟨x, rfl, hb, hN⟩
        have ix := hN.is
        rw [show getK 5 pn M = look pn M from if_pos rfl, HOT.out.2.2] at ix
        clear hN
        have hszz := hb.size
        replace hB := below_all hB hb
        replace oc := oc.all hb
        replace od := od.all hb
        replace orr := orr.all hb
        replace oo := oo.all hb
        replace ia := ia.all hb
        replace of := of.all hb
        replace izz := izz.all hb
        clear hb
        have hbN := below_alloc w1 (.cells #[.int .i64 x.k, .int .i64 x.n, sV x.s, .slice x.la x.ln x.lc, .slice x.fa x.fn x.fc] 25)
        replace hB := below_all hB hbN
        replace oc := oc.all hbN
        replace od := od.all hbN
        replace orr := orr.all hbN
        replace oo := oo.all hbN
        replace ia := ia.all hbN
        replace of := of.all hbN
        replace izz := izz.all hbN
        replace ix := ix.all hbN
        clear hbN
        have ox : Own (w1.alloc (.cells #[.int .i64 x.k, .int .i64 x.n, sV x.s, .slice x.la x.ln x.lc, .slice x.fa x.fn x.fc] 25)) w1.heap.size [.int .i64 x.k, .int .i64 x.n, sV x.s, .slice x.la x.ln x.lc, .slice x.fa x.fn x.fc] 25 := Own.new _ _ _
        have HS1 := Lib.hid (And.intro hB (And.intro oc (And.intro od (And.intro orr (And.intro oo (And.intro ia (And.intro of (And.intro izz (And.intro ix ox)))))))))
        clear hB oc od orr oo ia of izz ix ox
        go_upto_region 13 with (fail)
        change Code.wp Try.prog _ _ _ (w1.alloc (.cells #[.int .i64 x.k, .int .i64 x.n, sV x.s, .slice x.la x.ln x.lc, .slice x.fa x.fn x.fc] 25))
        have HSZ2 := Lib.hid (show w.heap.size + 4 ≤ (w1.alloc (.cells #[.int .i64 x.k, .int .i64 x.n, sV x.s, .slice x.la x.ln x.lc, .slice x.fa x.fn x.fc] 25)).heap.size from by rw [size_alloc]; have := HSZ.out; omega)
        generalize (w1.alloc (.cells #[.int .i64 x.k, .int .i64 x.n, sV x.s, .slice x.la x.ln x.lc, .slice x.fa x.fn x.fc] 25)) = W2 at *
        generalize w1.heap.size = nx at *
        clear HSZ hszz
        have HSZ := HSZ2
        clear HSZ2
        obtain ⟨hB, oc, od, orr, oo, ia, of, izz, ix, ox⟩ := HS1.out
        clear HS1
        have s0 := cell_regrown (oo.cell (i := 0) rfl)
        have s1 := cell_regrown (oo.cell (i := 1) rfl)
        have s2 := cell_regrown (oo.cell (i := 2) rfl)
        have s3 := cell_regrown (oo.cell (i := 3) rfl)
        have s4 := cell_regrown (oo.cell (i := 4) rfl)
        have f0 := cell_regrown (of.cell (i := 0) rfl)
        have f1 := cell_regrown (of.cell (i := 1) rfl)
        have f2 := cell_regrown (of.cell (i := 2) rfl)
        have f3 := cell_regrown (of.cell (i := 3) rfl)
        have f4 := cell_regrown (of.cell (i := 4) rfl)
        have f5 := cell_regrown (of.cell (i := 5) rfl)
        have x0 := cell_regrown (ox.cell (i := 0) rfl)
        have x1 := cell_regrown (ox.cell (i := 1) rfl)
        have x2 := cell_regrown (ox.cell (i := 2) rfl)
        have x3 := cell_regrown (ox.cell (i := 3) rfl)
        have x4 := cell_regrown (ox.cell (i := 4) rfl)
        have HS1 := Lib.hid (And.intro hB (And.intro oc (And.intro od (And.intro orr (And.intro oo (And.intro ia (And.intro of (And.intro izz (And.intro ix ox)))))))))
        clear hB oc od orr oo ia of izz ix ox
        refine Dep.wp_region_multi 8 (fun i => i == 6 || i == 7) (fun ii _ uu ww => WV W2.heap.size (mrgT pt ot) (tm (wi pn (mrgT pt ot) M)) ii uu ww) (fun _ uu => ∃ c' : VC, uu = c'.val) (fun i => if i = 7 then [6] else []) (by kernel_rfl) (by kernel_rfl) (by kernel_rfl)
          (fun i xs u w1 w2 h hb => WV.up h hb) (fun _ => ⟨VC0.val, VC0, rfl⟩) ?_
        simp only [List.take_succ_cons, List.take_zero, List.drop_succ_cons, List.drop_zero]
        refine Dep.wpM_stretch 6 rfl rfl rfl rfl ?_
        simp only [List.take_succ_cons, List.take_zero, List.drop_succ_cons, List.drop_zero]
        repeat (first | go_big_quiet_step (fail) | quiet_step (fail))
        refine wpQuiet_nil ?_
        refine Dep.wpM_dem rfl rfl rfl ?_ ?_
        · rintro _ ⟨pp, rfl⟩ hd
          go_simp
          simp only [demUpon]
          obtain ⟨hB, oc, od, orr, oo, ia, of, izz, ix, ox⟩ := HS1.out
          refine ⟨trivial, (IH.out pt ot (by have h1 := kid_lt HPT.out; have h2 := HS.out.1; omega) (by have h1 := kid_szn HPT.out; have h2 := HS.out.2.1; omega) HOT.out.1 (HS.out.2.2.2.1.kid HPT.out) HOT.out.2.1 x z _ _ (Below.refl _ _) (ix.all (below_regrown W2 pp.d pp.os)) (izz.all (below_regrown W2 pp.d pp.os))).mono ?_⟩
          rintro e wA ⟨c', rfl, hbA, hN⟩
          exact ⟨_, rfl, ⟨c', rfl⟩, hbA, fun _ => ⟨c', rfl, hN.is⟩, fun h => by omega⟩
        rintro vv hvv
        obtain ⟨m1, rfl⟩ : ∃ c' : VC, vv = c'.val := hvv
        try clear hvv
        refine Dep.wpM_dem rfl rfl rfl ?_ ?_
        · rintro _ ⟨pp, rfl⟩ hd
          go_simp
          simp only [demUpon]
          obtain ⟨hB, oc, od, orr, oo, ia, of, izz, ix, ox⟩ := HS1.out
          obtain ⟨e6, he6, hI6⟩ := (hd 6 (by decide)).1 rfl
          obtain rfl := VC.val_inj he6
          have hsz := (below_regrown W2 pp.d pp.os).size
          refine ⟨trivial, (rwith_any co m1 5 0 [] [] M pn (mrgT pt ot) _ (ia.is.all (below_regrown W2 pp.d pp.os)) hI6 HMS.out (by have h1 := mrgT_size2 pt ot; have h2 := HOT.out.1; have h3 := kid_szn HPT.out; have h4 := HS.out.2.1; omega)).mono ?_⟩
          rintro e wA ⟨c', M', rfl, hbA, hN, hM⟩
          obtain rfl : M' = wi pn (mrgT pt ot) M := by
            have hM2 : MapOf (oth pn M ++ [(pn, mrgT pt ot)]) M' := by rw [show othK 5 pn M = oth pn M from if_pos rfl] at hM; exact hM
            exact hM2.unique (mapL_of _)
          exact ⟨_, rfl, ⟨c', rfl⟩, hbA, fun h => by omega, fun _ => ⟨c', rfl, hN.mono (fun b hb => by omega)⟩⟩
        rintro vv hvv
        obtain ⟨m2, rfl⟩ : ∃ c' : VC, vv = c'.val := hvv
        try clear hvv
        refine Dep.wpM_end ?_
        rintro U hbU hFU
        obtain ⟨e7, he7, hI7⟩ := (show WV W2.heap.size (mrgT pt ot) (tm (wi pn (mrgT pt ot) M)) 7 m2.val U from hFU 7).2 rfl
        obtain rfl := VC.val_inj he7
        obtain ⟨hB, oc, od, orr, oo, ia, of, izz, ix, ox⟩ := HS1.out
        clear HS1 hFU he7
        clear s0 x0 s1 x1 s2 x2 s3 x3 s4 x4 f0 f1 f2 f3 f4 f5
        have hszU := hbU.size
        clear of ox ix izz ia
        replace hB := below_all hB hbU
        replace oc := oc.all hbU
        replace od := od.all hbU
        replace orr := orr.all hbU
        replace oo := oo.all hbU
        have HSZ2 := Lib.hid (show w.heap.size + 4 ≤ U.heap.size from by have := HSZ.out; omega)
        have ia : IsA U (fun b => b < w0.heap.size ∨ w.heap.size + 4 ≤ b) m2 (tm (wi pn (mrgT pt ot) M)) := hI7.mono (fun b hb => Or.inr (by have := HSZ.out; omega))
        clear hbU hszU hI7 HSZ
        have HSZ := HSZ2
        clear HSZ2
        have q0 := oo.cell (i := 0) rfl
        have g0 := oo.frozen 0
        have q1 := oo.cell (i := 1) rfl
        have g1 := oo.frozen 1
        have q2 := oo.cell (i := 2) rfl
        have g2 := oo.frozen 2
        have q3 := oo.cell (i := 3) rfl
        have g3 := oo.frozen 3
        have q4 := oo.cell (i := 4) rfl
        have g4 := oo.frozen 4
        replace hB := below_put5 (b := ob) hB (by have := HOB.out; omega) (.int .i64 m2.k) (.int .i64 m2.n) (sV m2.s) (.slice m2.la m2.ln m2.lc) (.slice m2.fa m2.fn m2.fc)
        replace oc := Own.put5n oc (c := ob) (by have := HOB.out; have := HSZ.out; omega) (.int .i64 m2.k) (.int .i64 m2.n) (sV m2.s) (.slice m2.la m2.ln m2.lc) (.slice m2.fa m2.fn m2.fc)
        replace od := Own.put5n od (c := ob) (by have := HOB.out; have := HSZ.out; omega) (.int .i64 m2.k) (.int .i64 m2.n) (sV m2.s) (.slice m2.la m2.ln m2.lc) (.slice m2.fa m2.fn m2.fc)
        replace orr := Own.put5n orr (c := ob) (by have := HOB.out; have := HSZ.out; omega) (.int .i64 m2.k) (.int .i64 m2.n) (sV m2.s) (.slice m2.la m2.ln m2.lc) (.slice m2.fa m2.fn m2.fc)
        have oo2 := own_put5 oo (.int .i64 m2.k) (.int .i64 m2.n) (sV m2.s) (.slice m2.la m2.ln m2.lc) (.slice m2.fa m2.fn m2.fc)
        replace ia := ia.put5 (b := ob) (by have := HOB.out; have := HSZ.out; omega) (.int .i64 m2.k) (.int .i64 m2.n) (sV m2.s) (.slice m2.la m2.ln m2.lc) (.slice m2.fa m2.fn m2.fc)
        have HE := Lib.hid (And.intro hB (And.intro oc (And.intro od (And.intro orr (And.intro oo2 ia)))))
        clear hB oc od orr oo oo2 ia
        go_wp2
        clear q0 g0 q1 g1 q2 g2 q3 g3 q4 g4
        go_roundg (f.length - (q + 1))
        case measure => have := HGQ.out; omega
        case rel => exact ⟨q + 1, m2, wi pn (mrgT pt ot) M, by omega, rfl, by go_num, HE.out.1, HE.out.2.1, HE.out.2.2.1, HE.out.2.2.2.1, HE.out.2.2.2.2.1, HE.out.2.2.2.2.2, HMN⟩
end Go.Proofs.Ytinenbgdkchghaa
