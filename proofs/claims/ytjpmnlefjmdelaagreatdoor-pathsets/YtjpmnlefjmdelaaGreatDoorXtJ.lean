/- The program's setBelow. The program's Set. -/
import Derived.Test.YtjpmnlefjmdelaaGreatDoorXpJ
import Derived.Test.YtjpmnlefjmdelaaGreatDoorRmJ
import Derived.RegionTactic
set_option linter.unusedSimpArgs false
set_option linter.unusedVariables false
namespace Go.Proofs.YtjpmnlefjmdelaaGreatDoor
open Go.RowKit Go.Sort Go.Proofs.LawFrame

theorem RowB.flatA {w : World} {b lo : Nat} {ty : TypeId} {v : Value} {n : Nat} {xs : List Value} (h : RowB w b ty v n xs) (hb : 0 < n → lo ≤ b) : FlatA w (fun b' => lo ≤ b') v n xs := by
  rcases h.out with ⟨rfl, rfl⟩ | ⟨h0, h1, h2, h3⟩
  · exact FlatA.nil w _ xs
  · exact ⟨_, _, h1, Nat.le_refl _, h2, fun _ => ⟨b, 0, rfl, h3.lt, hb h0, fun j x hx => by rw [Nat.zero_add]; exact h3.cell hx⟩⟩
theorem IsS.isA {w : World} {lo hi : Nat} {c : VC} {t : T} (h : IsS w lo hi c t) : IsA w (fun b => lo ≤ b) c t := by
  induction h with
  | mk cs fs bl bf P Q h1 h2 h3 h4 h5 h6 h7 hl1 hl2 hl3 hf1 hf2 hf3 hf4 ih1 ih2 =>
    rename_i lo hi c l f
    have hP0 := fun i (hi : i ≤ l.length) => chain_le h3 (Nat.zero_le i) hi
    have hQ0 := fun i (hi : i ≤ f.length) => chain_le h6 (Nat.zero_le i) hi
    have e1 := hP0 l.length (Nat.le_refl _)
    refine .mk cs fs hl1 (hl2.flatA (fun hn => (h2 hn).1)) (fun i x t hx ht => (ih1 i x t hx ht).mono (fun b hb => ?_)) hf1 (hf2.flatA (fun hn => by have := (h5 hn).1; omega)) hf3 (fun i x t hx ht => (ih2 i x t hx ht).mono (fun b hb => ?_))
    · have := hP0 i (by have := (List.getElem?_eq_some_iff.1 ht).1; omega); omega
    · have := hQ0 i (by have := (List.getElem?_eq_some_iff.1 ht).1; omega); omega
theorem Own.put5n {W : World} {b c : Nat} {cs : List Value} {t : TypeId} (o : Own W b cs t) (hb : b ≠ c) (v0 v1 v2 v3 v4 : Value) : Own (put5 W c v0 v1 v2 v3 v4) b cs t :=
  ((((o.set_ne hb 0 v0).set_ne hb 1 v1).set_ne hb 2 v2).set_ne hb 3 v3).set_ne hb 4 v4
theorem VAt.unique {w : World} {b o : Nat} {c d : VC} (h : VAt w b o c) (h' : VAt w b o d) : c = d := by
  apply VC.cells_inj
  have a0 := h.k.symm.trans h'.k
  have a1 := h.n.symm.trans h'.n
  have a2 := h.s.symm.trans h'.s
  have a3 := h.l.symm.trans h'.l
  have a4 := h.f.symm.trans h'.f
  simp only [VC.cells]
  rw [Option.some.inj a0, Option.some.inj a1, Option.some.inj a2, Option.some.inj a3, Option.some.inj a4]
/-- a step down keeps to the older world's trees -/
theorem is_down {w W : World} {s : S} {u u' : T} {d d' : VC} {i b' o' : Nat} (hb : Below w.heap.size w W) (hI : Is w d u) (hs : 0 ≤ s.ix) (hp : place s u = some i) (hk : kidAt s i u = some u') (hd : Down s i d b' o') (hv : VAt W b' o' d') : Is w d' u' := by
  obtain ⟨k, n, x, l, f⟩ := u
  have hlt := place_lt hs hp
  simp only [kidAt] at hk
  unfold Down at hd
  by_cases h1 : s.k = 1
  · rw [if_pos h1] at hlt hk hd
    obtain ⟨o1, e1, rfl⟩ := hd
    have hpi := List.getElem?_eq_getElem hlt
    generalize f[i] = pr at hpi
    rw [hpi] at hk
    have hpr : pr.2 = u' := by simpa using hk
    have hf := hI.flds
    rw [e1] at hf
    obtain ⟨bb, oo, c, e, hbb, hc, q, q0, q1, q2, q3, q4⟩ := hf.at (Below.refl _ _) hpi
    cases e
    have hvc : VAt w b' (o1 + i * 6 + 1) c := ⟨q0, q1, q2, q3, q4⟩
    rw [hv.unique (hvc.all hb), ← hpr]
    exact hc
  · rw [if_neg h1] at hlt hk hd
    obtain ⟨o1, e1, rfl⟩ := hd
    have hl := hI.vals
    rw [e1] at hl
    obtain ⟨bb, oo, c, e, hbb, hc, q0, q1, q2, q3, q4⟩ := hl.at (Below.refl _ _) hk
    cases e
    have hvc : VAt w b' (o1 + i * 5) c := ⟨q0, q1, q2, q3, q4⟩
    rw [hv.unique (hvc.all hb)]
    exact hc
theorem Stps.tail {w : World} {b off cap n : Nat} {s : S} {p : List S} (h : Stps w (.slice (some ⟨b, off, none⟩) n cap) (s :: p)) : Stps w (.slice (some ⟨b, off + 4, none⟩) p.length (cap - 1)) p := by
  obtain ⟨ao, cap', h1, h2, h3, h4⟩ := h.out
  cases h1
  obtain ⟨b', off', h5, h6, h7⟩ := h4 (by simp)
  cases h5
  refine ⟨_, _, rfl, by simp at h2; omega, by omega, fun _ => ⟨b, off + 4, rfl, h6, fun j x hx => ?_⟩⟩
  have := h7 (4 + j) x (by rw [List.flatMap_cons, List.getElem?_append_right (by simp)]; simpa using hx)
  rw [show off + (4 + j) = off + 4 + j by omega] at this
  exact this
theorem Stps.tailIf {w : World} {b off cap n : Nat} {s : S} {p : List S} (h : Stps w (.slice (some ⟨b, off, none⟩) n cap) (s :: p)) : Stps w (.slice (if cap = 1 then some ⟨b, off, none⟩ else some ⟨b, off + 4, none⟩) p.length (cap - 1)) p := by
  split
  · rename_i hc
    obtain ⟨ao, cap', h1, h2, h3, h4⟩ := h.out
    cases h1
    have : p = [] := by cases p with
      | nil => rfl
      | cons a p => simp at h2; omega
    subst this
    exact ⟨_, _, rfl, by simp, by omega, fun h => absurd h (by simp)⟩
  · exact h.tail
theorem Stps.head {w : World} {b off cap n : Nat} {s : S} {p : List S} (h : Stps w (.slice (some ⟨b, off, none⟩) n cap) (s :: p)) : Stps w (.slice (some ⟨b, off, none⟩) 1 cap) [s] := by
  obtain ⟨ao, cap', h1, h2, h3, h4⟩ := h.out
  cases h1
  obtain ⟨b', off', h5, h6, h7⟩ := h4 (by simp)
  cases h5
  refine ⟨_, _, rfl, by simp at h2 ⊢; omega, h3, fun _ => ⟨b, off, rfl, h6, fun j x hx => h7 j x ?_⟩⟩
  have hj := (List.getElem?_eq_some_iff.1 hx).1
  rw [List.flatMap_cons, List.getElem?_append_left (by simpa using hj)]
  simpa using hx

/-- what setBelow answers -/
structure QSb (w : World) (p : List S) (t x : T) (e : Ending) (w' : World) : Prop where
  below : Below w.heap.size w w'
  out : ∃ c' : VC, e = .returned (.tuple #[c'.val, .int .i64 (setP p t x).2]) ∧ IsA w' (fun b => w.heap.size ≤ b) c' (setP p t x).1

set_option maxHeartbeats 16000000 in
set_option maxRecDepth 4000 in
theorem setBelow_any : ∀ (p : List S) (v : Value) (w : World), Stps w v p → ∀ (c cx : VC) (t x : T), Is w c t → Is w cx x → t.size ≤ 700 → x.size ≤ 700 → p.length ≤ 100 → (∀ s ∈ p, stepOk s = true) →
    Calls Tryz.prog 80 #[c.val, v, cx.val] w (QSb w p t x) := by
  intro p
  induction p with
  | nil =>
    intro v w hp c cx t x hI hX hz hzx hpl hall
    obtain ⟨ao, cp, rfl, -, -⟩ := Stps.form hp
    obtain ⟨ck, cn, cs, la, ln, lc, fa, fn, fc⟩ := c
    obtain ⟨xk, xn, xs, xla, xln, xlc, xfa, xfn, xfc⟩ := cx
    show Calls Tryz.prog 80 #[.agg #[.int .i64 ck, .int .i64 cn, sV cs, .slice la ln lc, .slice fa fn fc], .slice ao 0 cp, .agg #[.int .i64 xk, .int .i64 xn, sV xs, .slice xla xln xlc, .slice xfa xfn xfc]] w _
    have hb0 : Below w.heap.size w (((w.alloc (.cells #[.int .i64 ck, .int .i64 cn, sV cs, .slice la ln lc, .slice fa fn fc] 25)).alloc (.cells #[.int .i64 xk, .int .i64 xn, sV xs, .slice xla xln xlc, .slice xfa xfn xfc] 25)).alloc (.cells #[.int .i64 0, .int .i64 0, .string ⟨#[]⟩, .slice none 0 0, .slice none 0 0] 25)) := (((Below.refl _ _).alloc (Nat.le_refl _) _).alloc (by simp) _).alloc (by simp; omega) _
    have oX : Own (((w.alloc (.cells #[.int .i64 ck, .int .i64 cn, sV cs, .slice la ln lc, .slice fa fn fc] 25)).alloc (.cells #[.int .i64 xk, .int .i64 xn, sV xs, .slice xla xln xlc, .slice xfa xfn xfc] 25)).alloc (.cells #[.int .i64 0, .int .i64 0, .string ⟨#[]⟩, .slice none 0 0, .slice none 0 0] 25)) (w.heap.size + 1) [.int .i64 xk, .int .i64 xn, sV xs, .slice xla xln xlc, .slice xfa xfn xfc] 25 := (Own.new_at (by rw [size_alloc]) _ _).alloc _
    have oR : Own (((w.alloc (.cells #[.int .i64 ck, .int .i64 cn, sV cs, .slice la ln lc, .slice fa fn fc] 25)).alloc (.cells #[.int .i64 xk, .int .i64 xn, sV xs, .slice xla xln xlc, .slice xfa xfn xfc] 25)).alloc (.cells #[.int .i64 0, .int .i64 0, .string ⟨#[]⟩, .slice none 0 0, .slice none 0 0] 25)) (w.heap.size + 1 + 1) [.int .i64 0, .int .i64 0, .string ⟨#[]⟩, .slice none 0 0, .slice none 0 0] 25 := Own.new_at (by rw [size_alloc, size_alloc]) _ _
    go_enter Tryz.func80, Tryz.ntmps80
    go_upto_region 1 with (fail)
    change Code.wp Tryz.prog _ _ _ (((w.alloc (.cells #[.int .i64 ck, .int .i64 cn, sV cs, .slice la ln lc, .slice fa fn fc] 25)).alloc (.cells #[.int .i64 xk, .int .i64 xn, sV xs, .slice xla xln xlc, .slice xfa xfn xfc] 25)).alloc (.cells #[.int .i64 0, .int .i64 0, .string ⟨#[]⟩, .slice none 0 0, .slice none 0 0] 25))
    generalize (((w.alloc (.cells #[.int .i64 ck, .int .i64 cn, sV cs, .slice la ln lc, .slice fa fn fc] 25)).alloc (.cells #[.int .i64 xk, .int .i64 xn, sV xs, .slice xla xln xlc, .slice xfa xfn xfc] 25)).alloc (.cells #[.int .i64 0, .int .i64 0, .string ⟨#[]⟩, .slice none 0 0, .slice none 0 0] 25)) = V at *
    have C := Lib.hid (duplicate_any ⟨xk, xn, xs, xla, xln, xlc, xfa, xfn, xfc⟩ x V (hX.all hb0) (by omega))
    have x0 := oX.cell (i := 0) rfl
    have x1 := oX.cell (i := 1) rfl
    have x2 := oX.cell (i := 2) rfl
    have x3 := oX.cell (i := 3) rfl
    have x4 := oX.cell (i := 4) rfl
    have hVs : w.heap.size + 1 + 1 < V.heap.size := oR.lt
    have HS := Lib.hid (And.intro hb0 oR)
    clear hI hX hp hb0 oX oR
    go_wp2_with fail
    refine C.out.mono ?_
    rintro e w3 ⟨d, hi, rfl, hb3, hlo, hhi, hD⟩
    have HQ := Lib.hid (And.intro (below_all HS.out.1 hb3) (And.intro (HS.out.2.all hb3) hD.isA))
    clear C HS hb3 hD x0 x1 x2 x3 x4
    have oFin := HQ.out.2.1
    have q0 := oFin.cell (i := 0) rfl
    have q1 := oFin.cell (i := 1) rfl
    have q2 := oFin.cell (i := 2) rfl
    have q3 := oFin.cell (i := 3) rfl
    have q4 := oFin.cell (i := 4) rfl
    have g0 := oFin.frozen 0
    have g1 := oFin.frozen 1
    have g2 := oFin.frozen 2
    have g3 := oFin.frozen 3
    have g4 := oFin.frozen 4
    have HU := Lib.hid (And.intro (own_put5 oFin (.int .i64 d.k) (.int .i64 d.n) (sV d.s) (.slice d.la d.ln d.lc) (.slice d.fa d.fn d.fc)) (And.intro (below_put5 (b := w.heap.size + 1 + 1) HQ.out.1 (by omega) (.int .i64 d.k) (.int .i64 d.n) (sV d.s) (.slice d.la d.ln d.lc) (.slice d.fa d.fn d.fc)) (HQ.out.2.2.put5 (b := w.heap.size + 1 + 1) (by omega) (.int .i64 d.k) (.int .i64 d.n) (sV d.s) (.slice d.la d.ln d.lc) (.slice d.fa d.fn d.fc))))
    clear oFin
    go_wp2
    clear q0 q1 q2 q3 q4 g0 g1 g2 g3 g4
    change bodyPost Tryz.prog Tryz.f80 _ _ _ (put5 w3 (w.heap.size + 1 + 1) (.int .i64 d.k) (.int .i64 d.n) (sV d.s) (.slice d.la d.ln d.lc) (.slice d.fa d.fn d.fc))
    generalize put5 w3 (w.heap.size + 1 + 1) (.int .i64 d.k) (.int .i64 d.n) (sV d.s) (.slice d.la d.ln d.lc) (.slice d.fa d.fn d.fc) = U at *
    have c0 := HU.out.1.cell (i := 0) rfl
    have c1 := HU.out.1.cell (i := 1) rfl
    have c2 := HU.out.1.cell (i := 2) rfl
    have c3 := HU.out.1.cell (i := 3) rfl
    have c4 := HU.out.1.cell (i := 4) rfl
    exact bodyPost_ret (v := .tuple #[.agg #[.int .i64 d.k, .int .i64 d.n, sV d.s, .slice d.la d.ln d.lc, .slice d.fa d.fn d.fc], .int .i64 0]) (by simp [results, Tryz.results80, go_sem, c0, c1, c2, c3, c4]) rfl ⟨HU.out.2.1, d, rfl, HU.out.2.2.mono (fun b hb => by omega)⟩
  | cons s p ih =>
    intro v w hp c cx t x hI hX hz hzx hpl hall
    have IH := Lib.hid ih
    clear ih
    obtain ⟨ao, cp, rfl, hcp, hcm⟩ := Stps.form hp
    unfold maxLen at hcm
    simp only [List.length_cons] at hcp
    have hcp1 : 1 ≤ cp := by omega
    obtain ⟨pb, off, rfl⟩ : ∃ pb off, ao = some ⟨pb, off, none⟩ := by
      obtain ⟨ao', cap', h1, h2, h3, h4⟩ := hp.out
      cases h1
      obtain ⟨b', off', h5, -⟩ := h4 (by simp)
      exact ⟨b', off', h5⟩
    obtain ⟨sk, sn, si, sv⟩ := s
    obtain ⟨ck, cn, cs, la, ln, lc, fa, fn, fc⟩ := c
    obtain ⟨xk, xn, xs, xla, xln, xlc, xfa, xfn, xfc⟩ := cx
    have HP := Lib.hid hp
    have HTL := Lib.hid hp.tailIf
    have HHD := Lib.hid hp.head
    have HIX := Lib.hid (And.intro hI hX)
    have HST := Lib.hid (stepOk_ix (hall ⟨sk, sn, si, sv⟩ (by simp)))
    have HALL := Lib.hid (fun q (hq : q ∈ p) => hall q (by simp [hq]))
    have HSOK := Lib.hid (hall ⟨sk, sn, si, sv⟩ (by simp))
    have HPL : Hid (p.length ≤ 100) := Lib.hid (by simp at hpl; omega)
    clear hp hall hpl
    have hpln : p.length + 1 ≤ cp := by omega
    clear hcp
    show Calls Tryz.prog 80 #[.agg #[.int .i64 ck, .int .i64 cn, sV cs, .slice la ln lc, .slice fa fn fc], .slice (some ⟨pb, off, none⟩) (p.length + 1) cp, .agg #[.int .i64 xk, .int .i64 xn, sV xs, .slice xla xln xlc, .slice xfa xfn xfc]] w _
    have hb0 : Below w.heap.size w (((w.alloc (.cells #[.int .i64 ck, .int .i64 cn, sV cs, .slice la ln lc, .slice fa fn fc] 25)).alloc (.cells #[.int .i64 xk, .int .i64 xn, sV xs, .slice xla xln xlc, .slice xfa xfn xfc] 25)).alloc (.cells #[.int .i64 0, .int .i64 0, .string ⟨#[]⟩, .slice none 0 0, .slice none 0 0] 25)) := (((Below.refl _ _).alloc (Nat.le_refl _) _).alloc (by simp) _).alloc (by simp; omega) _
    have oB : Own (((w.alloc (.cells #[.int .i64 ck, .int .i64 cn, sV cs, .slice la ln lc, .slice fa fn fc] 25)).alloc (.cells #[.int .i64 xk, .int .i64 xn, sV xs, .slice xla xln xlc, .slice xfa xfn xfc] 25)).alloc (.cells #[.int .i64 0, .int .i64 0, .string ⟨#[]⟩, .slice none 0 0, .slice none 0 0] 25)) w.heap.size [.int .i64 ck, .int .i64 cn, sV cs, .slice la ln lc, .slice fa fn fc] 25 := ((Own.new _ _ _).alloc _).alloc _
    have oX : Own (((w.alloc (.cells #[.int .i64 ck, .int .i64 cn, sV cs, .slice la ln lc, .slice fa fn fc] 25)).alloc (.cells #[.int .i64 xk, .int .i64 xn, sV xs, .slice xla xln xlc, .slice xfa xfn xfc] 25)).alloc (.cells #[.int .i64 0, .int .i64 0, .string ⟨#[]⟩, .slice none 0 0, .slice none 0 0] 25)) (w.heap.size + 1) [.int .i64 xk, .int .i64 xn, sV xs, .slice xla xln xlc, .slice xfa xfn xfc] 25 := (Own.new_at (by rw [size_alloc]) _ _).alloc _
    have oR : Own (((w.alloc (.cells #[.int .i64 ck, .int .i64 cn, sV cs, .slice la ln lc, .slice fa fn fc] 25)).alloc (.cells #[.int .i64 xk, .int .i64 xn, sV xs, .slice xla xln xlc, .slice xfa xfn xfc] 25)).alloc (.cells #[.int .i64 0, .int .i64 0, .string ⟨#[]⟩, .slice none 0 0, .slice none 0 0] 25)) (w.heap.size + 1 + 1) [.int .i64 0, .int .i64 0, .string ⟨#[]⟩, .slice none 0 0, .slice none 0 0] 25 := Own.new_at (by rw [size_alloc, size_alloc]) _ _
    go_enter Tryz.func80, Tryz.ntmps80
    go_upto_region 1 with (fail)
    change Code.wp Tryz.prog _ _ _ (((w.alloc (.cells #[.int .i64 ck, .int .i64 cn, sV cs, .slice la ln lc, .slice fa fn fc] 25)).alloc (.cells #[.int .i64 xk, .int .i64 xn, sV xs, .slice xla xln xlc, .slice xfa xfn xfc] 25)).alloc (.cells #[.int .i64 0, .int .i64 0, .string ⟨#[]⟩, .slice none 0 0, .slice none 0 0] 25))
    generalize (((w.alloc (.cells #[.int .i64 ck, .int .i64 cn, sV cs, .slice la ln lc, .slice fa fn fc] 25)).alloc (.cells #[.int .i64 xk, .int .i64 xn, sV xs, .slice xla xln xlc, .slice xfa xfn xfc] 25)).alloc (.cells #[.int .i64 0, .int .i64 0, .string ⟨#[]⟩, .slice none 0 0, .slice none 0 0] 25)) = V at *
    have HA := Lib.hid (And.intro hb0 (And.intro oR (And.intro oX oB)))
    have hVs : w.heap.size + 1 + 1 < V.heap.size := oR.lt
    clear oX oR oB
    obtain ⟨pb', off', hao', hbl', q0, q1, q2, q3⟩ := Stps.at HP.out hb0 (i := 0) (s := ⟨sk, sn, si, sv⟩) rfl
    cases hao'
    simp only [Nat.zero_mul, Nat.add_zero] at q0 q1 q2 q3
    have y0 := cell_regrown q0
    have y1 := cell_regrown q1
    have y2 := cell_regrown q2
    have y3 := cell_regrown q3
    clear q0 q1 q2 q3
    have z0 := cell_regrown (HA.out.2.2.2.cell (i := 0) rfl)
    have z1 := cell_regrown (HA.out.2.2.2.cell (i := 1) rfl)
    have z2 := cell_regrown (HA.out.2.2.2.cell (i := 2) rfl)
    have z3 := cell_regrown (HA.out.2.2.2.cell (i := 3) rfl)
    have z4 := cell_regrown (HA.out.2.2.2.cell (i := 4) rfl)
    obtain ⟨E0, hE0⟩ : ∃ E0, entE (⟨sk, sn, si, sv⟩ : S) t = E0 := ⟨_, rfl⟩
    have cE : ∀ dd os, Calls Tryz.prog 121 #[.agg #[.int .i64 ck, .int .i64 cn, sV cs, .slice la ln lc, .slice fa fn fc], .agg #[.int .i64 sk, sV sn, .int .i64 si, sV sv]] (grow (redrawn V dd) os) fun e w'' => e = .returned (.int .i64 E0) ∧ ∃ p : Regrown, w'' = grow (redrawn V p.d) p.os := fun dd os => Calls.regrown_of (by rw [← hE0]; exact checkEnter_any ⟨ck, cn, cs, la, ln, lc, fa, fn, fc⟩ t ⟨sk, sn, si, sv⟩ _ ((HIX.out.1.all HA.out.1).all (below_regrown V dd os)))
    have HE0' := Lib.hid hE0
    clear hE0 hI hX hb0
    go_upto_region 3 with (fail)
    refine wp_region_quiet_below (by kernel_rfl) (by kernel_rfl) ?_
    repeat (first | go_big_quiet_step (first | with_reducible exact cE _ _) | quiet_step (first | with_reducible exact cE _ _))
    refine wpQuiet_nil ?_
    intro _ hw'
    obtain ⟨⟨dq, osq⟩, hw''⟩ := hw'
    subst hw''
    have hbq := below_regrown V dq osq
    have HA1 := Lib.hid (And.intro (below_all HA.out.1 hbq) (And.intro (HA.out.2.1.all hbq) (And.intro (HA.out.2.2.1.all hbq) (HA.out.2.2.2.all hbq))))
    have hVs1 := hbq.size
    clear z0 z1 z2 z3 z4 y0 y1 y2 y3 cE HA hbq
    generalize grow (redrawn V dq) osq = V1 at *
    by_cases hE : ¬ E0 = 0
    · have HF : Hid (setP ((⟨sk, sn, si, sv⟩ : S) :: p) t x = (T0, E0)) := Lib.hid (by rw [setP, HE0'.out, if_pos hE])
      have hne : (E0 != 0) = true := by simpa using hE
      have oFin := HA1.out.2.1
      have q0 := oFin.cell (i := 0) rfl
      have q1 := oFin.cell (i := 1) rfl
      have q2 := oFin.cell (i := 2) rfl
      have q3 := oFin.cell (i := 3) rfl
      have q4 := oFin.cell (i := 4) rfl
      have g0 := oFin.frozen 0
      have g1 := oFin.frozen 1
      have g2 := oFin.frozen 2
      have g3 := oFin.frozen 3
      have g4 := oFin.frozen 4
      have HU := Lib.hid (And.intro (own_put5 oFin (.int .i64 0) (.int .i64 0) (.string ⟨#[]⟩) (.slice none 0 0) (.slice none 0 0)) (below_put5 (b := w.heap.size + 1 + 1) HA1.out.1 (by omega) (.int .i64 0) (.int .i64 0) (.string ⟨#[]⟩) (.slice none 0 0) (.slice none 0 0)))
      clear oFin
      go_wp2
      clear q0 q1 q2 q3 q4 g0 g1 g2 g3 g4
      change bodyPost Tryz.prog Tryz.f80 _ _ _ (put5 V1 (w.heap.size + 1 + 1) (.int .i64 0) (.int .i64 0) (.string ⟨#[]⟩) (.slice none 0 0) (.slice none 0 0))
      generalize put5 V1 (w.heap.size + 1 + 1) (.int .i64 0) (.int .i64 0) (.string ⟨#[]⟩) (.slice none 0 0) (.slice none 0 0) = U at *
      have c0 := HU.out.1.cell (i := 0) rfl
      have c1 := HU.out.1.cell (i := 1) rfl
      have c2 := HU.out.1.cell (i := 2) rfl
      have c3 := HU.out.1.cell (i := 3) rfl
      have c4 := HU.out.1.cell (i := 4) rfl
      exact bodyPost_ret (v := .tuple #[.agg #[.int .i64 0, .int .i64 0, .string ⟨#[]⟩, .slice none 0 0, .slice none 0 0], .int .i64 E0]) (by simp [results, Tryz.results80, go_sem, c0, c1, c2, c3, c4]) rfl ⟨HU.out.2, VC0, by rw [HF.out]; rfl, by rw [HF.out]; exact isA_zero _ _⟩
    have hE2 : E0 = 0 := by omega
    clear hE
    subst hE2
    have HE0 : Hid (entE (⟨sk, sn, si, sv⟩ : S) t = 0) := HE0'
    have hHl := HA1.out.1
    obtain ⟨pb', off', hao', hbl', q0, q1, q2, q3⟩ := Stps.at HP.out hHl (i := 0) (s := ⟨sk, sn, si, sv⟩) rfl
    cases hao'
    simp only [Nat.zero_mul, Nat.add_zero] at q0 q1 q2 q3
    have C := Lib.hid (created_any ⟨sk, sn, si, sv⟩ V1)
    go_wp2_with fail
    refine C.out.mono ?_
    rintro e w2 ⟨⟨bk, bn, bs, bla, bln, blc, bfa, bfn, bfc⟩, rfl, hb2, hN⟩
    clear C q0 q1 q2 q3 hHl
    have hb2l := below_alloc w2 (.cells #[.int .i64 bk, .int .i64 bn, sV bs, .slice bla bln blc, .slice bfa bfn bfc] 25)
    have oN := Own.new w2 [.int .i64 bk, .int .i64 bn, sV bs, .slice bla bln blc, .slice bfa bfn bfc] 25
    have hb2s := hb2.size
    have hw2 : (w2.alloc (.cells #[.int .i64 bk, .int .i64 bn, sV bs, .slice bla bln blc, .slice bfa bfn bfc] 25)).heap.size = w2.heap.size + 1 := size_alloc _ _
    have HA2 := Lib.hid (And.intro (below_all (below_all HA1.out.1 hb2) hb2l) (And.intro ((HA1.out.2.1.all hb2).all hb2l) (And.intro ((HA1.out.2.2.1.all hb2).all hb2l) (And.intro ((HA1.out.2.2.2.all hb2).all hb2l) oN))))
    have HNI := Lib.hid (hN.all hb2l)
    clear hb2 hb2l oN HA1 hN
    go_upto_region 7 with (fail)
    change Code.wp Tryz.prog _ _ _ (w2.alloc (.cells #[.int .i64 bk, .int .i64 bn, sV bs, .slice bla bln blc, .slice bfa bfn bfc] 25))
    generalize w2.alloc (.cells #[.int .i64 bk, .int .i64 bn, sV bs, .slice bla bln blc, .slice bfa bfn bfc] 25) = W at *
    generalize hnbq : w2.heap.size = nb at *
    have hnb3 : w.heap.size + 1 + 1 < nb := by omega
    clear hnbq
    have C := Lib.hid (find_any (fun _ u _ _ d => Is w d u) [(⟨sk, sn, si, sv⟩ : S)] (.slice (some ⟨pb, off, none⟩) 1 cp) W (Flat.all HHD.out HA2.out.1) (by simp) (fun s hs => by simp at hs; rw [hs]; exact HSOK.out) t (by omega) w.heap.size 0 ⟨ck, cn, cs, la, ln, lc, fa, fn, fc⟩ (VAt.own HA2.out.2.2.2.1) (HIX.out.1.all HA2.out.1) HIX.out.1 (fun q s u b o d i u' b' o' d' hJ hv hI hs hp hk hd hv' hI' => is_down HA2.out.1 hJ (stepOk_ix hs).1 hp hk hd hv'))
    go_wp2_with fail
    refine C.out.mono ?_
    rintro e W1 hres
    clear C
    have hbf := hres.below
    cases hfi : findT t [(⟨sk, sn, si, sv⟩ : S)] with
    | none =>
      obtain rfl := hres.no hfi
      have HB := Lib.hid (And.intro (below_all HA2.out.1 hbf) (And.intro (HA2.out.2.1.all hbf) (And.intro (HA2.out.2.2.1.all hbf) (And.intro (HA2.out.2.2.2.1.all hbf) (HA2.out.2.2.2.2.all hbf)))))
      have hkd : kid (⟨sk, sn, si, sv⟩ : S) t = none := by
        rw [findT_step] at hfi
        cases hk : kid (⟨sk, sn, si, sv⟩ : S) t with
        | none => rfl
        | some u => rw [hk] at hfi; simp [findT] at hfi
      have HBI := Lib.hid (HNI.out.all hbf)
      obtain ⟨bT, hbT⟩ : ∃ b, newT (⟨sk, sn, si, sv⟩ : S) = b := ⟨_, rfl⟩
      rw [hbT] at HBI
      have HBT : Hid ((kid (⟨sk, sn, si, sv⟩ : S) t).getD (newT (⟨sk, sn, si, sv⟩ : S)) = bT ∧ bT.size ≤ 700) := Lib.hid ⟨by rw [hkd]; exact hbT, by rw [← hbT]; have := newT_size (⟨sk, sn, si, sv⟩ : S); omega⟩
      clear hres hfi hkd hbf HA2 HNI hbT
      have hBl := HB.out.1
      have z0 := cell_regrown (HB.out.2.2.2.2.cell (i := 0) rfl)
      have z1 := cell_regrown (HB.out.2.2.2.2.cell (i := 1) rfl)
      have z2 := cell_regrown (HB.out.2.2.2.2.cell (i := 2) rfl)
      have z3 := cell_regrown (HB.out.2.2.2.2.cell (i := 3) rfl)
      have z4 := cell_regrown (HB.out.2.2.2.2.cell (i := 4) rfl)
      have y0 := cell_regrown (HB.out.2.2.1.cell (i := 0) rfl)
      have y1 := cell_regrown (HB.out.2.2.1.cell (i := 1) rfl)
      have y2 := cell_regrown (HB.out.2.2.1.cell (i := 2) rfl)
      have y3 := cell_regrown (HB.out.2.2.1.cell (i := 3) rfl)
      have y4 := cell_regrown (HB.out.2.2.1.cell (i := 4) rfl)
      have hnb := HB.out.2.2.2.2.lt
      have hrb := HB.out.2.1.lt
      go_upto_region 10 with (fail)
      refine wp_region_multiE 5 #[true, true, true, true, true, false, false, false, false, false] (fun i => i == 4) (fun _ _ u w' => ∃ c' : VC, u = .tuple #[c'.val, .int .i64 (setP p bT x).2] ∧ IsA w' (fun b => W1.heap.size ≤ b) c' (setP p bT x).1) (fun _ u => ∃ c' : VC, u = .tuple #[c'.val, .int .i64 (setP p bT x).2]) (by kernel_rfl) (by kernel_rfl)
        (fun _ _ _ w1 w2 ⟨c', h1, h2⟩ hb => ⟨c', h1, h2.all hb⟩) (fun _ => ⟨_, VC0, rfl⟩) ?_
      simp only [List.take_succ_cons, List.take_zero, List.drop_succ_cons, List.drop_zero]
      refine wpM_stretch 4 rfl rfl rfl rfl ?_
      simp only [List.take_succ_cons, List.take_zero, List.drop_succ_cons, List.drop_zero]
      repeat (first | go_big_quiet_step (fail) | quiet_step (fail))
      refine wpQuiet_nil ?_
      refine wpM_dem rfl rfl rfl ?_ ?_
      · rintro _ ⟨pp, rfl⟩
        go_simp
        simp only [demUpon]
        have hbp := below_all HB.out.1 (below_regrown W1 pp.d pp.os)
        have hsz := (below_regrown W1 pp.d pp.os).size
        refine ⟨trivial, (IH.out (.slice (if cp = 1 then some ⟨pb, off, none⟩ else some ⟨pb, off + 4, none⟩) p.length (cp - 1)) _ (Flat.all HTL.out hbp) ⟨bk, bn, bs, bla, bln, blc, bfa, bfn, bfc⟩ ⟨xk, xn, xs, xla, xln, xlc, xfa, xfn, xfc⟩ bT x (HBI.out.all (below_regrown W1 pp.d pp.os)) (HIX.out.2.all hbp) HBT.out.2 hzx HPL.out HALL.out).mono ?_⟩
        rintro e w6 ⟨hb6, c', rfl, h2⟩
        exact ⟨_, rfl, ⟨c', rfl⟩, hb6, c', rfl, h2.mono (fun b hb => by omega)⟩
      rintro _ ⟨⟨rk, rn, rs, rla, rln, rlc, rfa, rfn, rfc⟩, rfl⟩
      refine wpM_end ?_
      rintro U hbU ⟨-, c2, he2, hR⟩
      obtain rfl : (⟨rk, rn, rs, rla, rln, rlc, rfa, rfn, rfc⟩ : VC) = c2 := VC.val_inj (by simpa using he2)
      have oN := HB.out.2.2.2.2.all hbU
      have hN0 := oN.cell (i := 0) rfl
      have fN0 := oN.frozen 0
      have hN1 := oN.cell (i := 1) rfl
      have fN1 := oN.frozen 1
      have hN2 := oN.cell (i := 2) rfl
      have fN2 := oN.frozen 2
      have hN3 := oN.cell (i := 3) rfl
      have fN3 := oN.frozen 3
      have hN4 := oN.cell (i := 4) rfl
      have fN4 := oN.frozen 4
      have HB2 := Lib.hid (And.intro (below_put5 (b := nb) (below_all HB.out.1 hbU) (by omega) (.int .i64 rk) (.int .i64 rn) (sV rs) (.slice rla rln rlc) (.slice rfa rfn rfc)) (And.intro (Own.put5n (c := nb) (HB.out.2.1.all hbU) (by omega) (.int .i64 rk) (.int .i64 rn) (sV rs) (.slice rla rln rlc) (.slice rfa rfn rfc)) (And.intro (Own.put5n (c := nb) (HB.out.2.2.2.1.all hbU) (by omega) (.int .i64 rk) (.int .i64 rn) (sV rs) (.slice rla rln rlc) (.slice rfa rfn rfc)) (own_put5 oN (.int .i64 rk) (.int .i64 rn) (sV rs) (.slice rla rln rlc) (.slice rfa rfn rfc)))))
      have HRI := Lib.hid (hR.put5 (b := nb) (by omega) (.int .i64 rk) (.int .i64 rn) (sV rs) (.slice rla rln rlc) (.slice rfa rfn rfc))
      clear z0 z1 z2 z3 z4 y0 y1 y2 y3 y4 hbU hR oN he2
      refine wpAny_take (i := 5) rfl (by kernel_rfl) (by kernel_rfl) (by kernel_rfl) (fun _ _ _ h => h) (Or.inl ⟨by rfl, by intro w0; go_simp; try with_reducible rfl⟩) ?_
      refine wpAny_take (i := 6) rfl (by kernel_rfl) (by kernel_rfl) (by kernel_rfl) (fun _ _ _ h => h) (Or.inl ⟨by rfl, by intro w0; go_simp; try with_reducible rfl⟩) ?_
      refine wpAny_take (i := 7) rfl (by kernel_rfl) (by kernel_rfl) (by kernel_rfl) (fun _ _ _ h => h) (Or.inl ⟨by rfl, by intro w0; go_simp; try with_reducible rfl⟩) ?_
      refine wpAny_ready (rs := [8]) (by kernel_rfl) (by simp) ?_
      refine AllReady.cons rfl (fun K hK => ?_) AllReady.nil
      go_simp
      refine hK _ _ ?_
      clear hK K
      refine wpAny_take (i := 9) rfl (by kernel_rfl) (by kernel_rfl) (by kernel_rfl) (fun _ _ _ h => h) (Or.inl ⟨by rfl, by intro w0; go_simp; try with_reducible rfl⟩) ?_
      refine wpAny_done (by kernel_rfl) ?_ _
      generalize (if cp = 1 then some (⟨pb, off, none⟩ : Addr) else some ⟨pb, off + 4, none⟩) = tp at *
      go_upto_region 11 with (fail)
      clear hN0 hN1 hN2 hN3 hN4 fN0 fN1 fN2 fN3 fN4
      change Code.wp Tryz.prog _ _ _ (put5 U nb (.int .i64 rk) (.int .i64 rn) (sV rs) (.slice rla rln rlc) (.slice rfa rfn rfc))
      generalize put5 U nb (.int .i64 rk) (.int .i64 rn) (sV rs) (.slice rla rln rlc) (.slice rfa rfn rfc) = U2 at *
      have HFZ : Hid (setP ((⟨sk, sn, si, sv⟩ : S) :: p) t x = if ¬ (setP p bT x).2 = 0 then (T0, (setP p bT x).2) else if sk = 3 ∧ hasK sn sv (setP p bT x).1 = false then (T0, 6) else (replT (⟨sk, sn, si, sv⟩ : S) (setP p bT x).1 t, 0)) := Lib.hid (by rw [setP, if_neg (by rw [HE0.out]; simp), HBT.out.1])
      have HRZ0 := Lib.hid (setP_size p bT x HALL.out)
      generalize (setP p bT x).1 = Rt at *
      generalize (setP p bT x).2 = E at *
      have hu2 : w.heap.size + 1 + 1 < U2.heap.size := HB2.out.2.1.lt
      by_cases hE : ¬ E = 0
      · have HF : Hid (setP ((⟨sk, sn, si, sv⟩ : S) :: p) t x = (T0, E)) := Lib.hid (by rw [HFZ.out, if_pos hE])
        have hne : (E != 0) = true := by simpa using hE
        have oFin := HB2.out.2.1
        have q0 := oFin.cell (i := 0) rfl
        have q1 := oFin.cell (i := 1) rfl
        have q2 := oFin.cell (i := 2) rfl
        have q3 := oFin.cell (i := 3) rfl
        have q4 := oFin.cell (i := 4) rfl
        have g0 := oFin.frozen 0
        have g1 := oFin.frozen 1
        have g2 := oFin.frozen 2
        have g3 := oFin.frozen 3
        have g4 := oFin.frozen 4
        have HU := Lib.hid (And.intro (own_put5 oFin (.int .i64 0) (.int .i64 0) (.string ⟨#[]⟩) (.slice none 0 0) (.slice none 0 0)) (below_put5 (b := w.heap.size + 1 + 1) HB2.out.1 (by omega) (.int .i64 0) (.int .i64 0) (.string ⟨#[]⟩) (.slice none 0 0) (.slice none 0 0)))
        clear oFin
        go_wp2
        clear q0 q1 q2 q3 q4 g0 g1 g2 g3 g4
        change bodyPost Tryz.prog Tryz.f80 _ _ _ (put5 U2 (w.heap.size + 1 + 1) (.int .i64 0) (.int .i64 0) (.string ⟨#[]⟩) (.slice none 0 0) (.slice none 0 0))
        generalize put5 U2 (w.heap.size + 1 + 1) (.int .i64 0) (.int .i64 0) (.string ⟨#[]⟩) (.slice none 0 0) (.slice none 0 0) = U at *
        have c0 := HU.out.1.cell (i := 0) rfl
        have c1 := HU.out.1.cell (i := 1) rfl
        have c2 := HU.out.1.cell (i := 2) rfl
        have c3 := HU.out.1.cell (i := 3) rfl
        have c4 := HU.out.1.cell (i := 4) rfl
        exact bodyPost_ret (v := .tuple #[.agg #[.int .i64 0, .int .i64 0, .string ⟨#[]⟩, .slice none 0 0, .slice none 0 0], .int .i64 E]) (by simp [results, Tryz.results80, go_sem, c0, c1, c2, c3, c4]) rfl ⟨HU.out.2, VC0, by rw [HF.out]; rfl, by rw [HF.out]; exact isA_zero _ _⟩
      have hE2 : E = 0 := by omega
      clear hE
      subst hE2
      have HRZ : Hid (Rt.size ≤ 4000) := Lib.hid (by have a := HRZ0.out; have b := HBT.out.2; have c := HPL.out; omega)
      by_cases h3 : sk = 3
      · subst h3
        have hHl := HB2.out.1
        obtain ⟨pb', off', hao', hbl', q0, q1, q2, q3⟩ := Stps.at HP.out (hHl) (i := 0) (s := ⟨3, sn, si, sv⟩) rfl
        cases hao'
        simp only [Nat.zero_mul, Nat.add_zero] at q0 q1 q2 q3
        have y0 := cell_regrown q0
        have y1 := cell_regrown q1
        have y2 := cell_regrown q2
        have y3 := cell_regrown q3
        clear q0 q1 q2 q3
        have z0 := cell_regrown (HB2.out.2.2.2.cell (i := 0) rfl)
        have z1 := cell_regrown (HB2.out.2.2.2.cell (i := 1) rfl)
        have z2 := cell_regrown (HB2.out.2.2.2.cell (i := 2) rfl)
        have z3 := cell_regrown (HB2.out.2.2.2.cell (i := 3) rfl)
        have z4 := cell_regrown (HB2.out.2.2.2.cell (i := 4) rfl)
        obtain ⟨B, hB⟩ : ∃ B, hasK sn sv Rt = B := ⟨_, rfl⟩
        have cH : ∀ dd os, Calls Tryz.prog 120 #[.agg #[.int .i64 rk, .int .i64 rn, sV rs, .slice rla rln rlc, .slice rfa rfn rfc], .agg #[.int .i64 3, sV sn, .int .i64 si, sV sv]] (grow (redrawn U2 dd) os) fun e w'' => e = .returned (.bool B) ∧ ∃ p : Regrown, w'' = grow (redrawn U2 p.d) p.os := fun dd os => Calls.regrown_of (by rw [← hB]; exact hasKeyP_any ⟨rk, rn, rs, rla, rln, rlc, rfa, rfn, rfc⟩ Rt ⟨3, sn, si, sv⟩ _ (HRI.out.is.all (below_regrown U2 dd os)) (by have := HRZ.out; omega))
        have HBB := Lib.hid hB
        clear hB
        cases B with
        | false =>
          have HF : Hid (setP (⟨3, sn, si, sv⟩ :: p) t x = (T0, 6)) := Lib.hid (by rw [HFZ.out, if_neg (by simp), if_pos ⟨rfl, HBB.out⟩])
          go_upto_region 13 with (fail)
          refine wp_region_quiet_below (by kernel_rfl) (by kernel_rfl) ?_
          repeat (first | go_big_quiet_step (first | with_reducible exact cH _ _) | quiet_step (first | with_reducible exact cH _ _))
          refine wpQuiet_nil ?_
          intro _ hw'
          obtain ⟨⟨dq, osq⟩, hw''⟩ := hw'
          subst hw''
          have HB3 := Lib.hid (And.intro (below_all HB2.out.1 (below_regrown U2 dq osq)) (And.intro (HB2.out.2.1.all (below_regrown U2 dq osq)) trivial))
          clear z0 z1 z2 z3 z4 y0 y1 y2 y3 cH hHl
          generalize grow (redrawn U2 dq) osq = U4 at *
          have oFin := HB3.out.2.1
          have q0 := oFin.cell (i := 0) rfl
          have q1 := oFin.cell (i := 1) rfl
          have q2 := oFin.cell (i := 2) rfl
          have q3 := oFin.cell (i := 3) rfl
          have q4 := oFin.cell (i := 4) rfl
          have g0 := oFin.frozen 0
          have g1 := oFin.frozen 1
          have g2 := oFin.frozen 2
          have g3 := oFin.frozen 3
          have g4 := oFin.frozen 4
          have HU := Lib.hid (And.intro (own_put5 oFin (.int .i64 0) (.int .i64 0) (.string ⟨#[]⟩) (.slice none 0 0) (.slice none 0 0)) (below_put5 (b := w.heap.size + 1 + 1) HB3.out.1 (by omega) (.int .i64 0) (.int .i64 0) (.string ⟨#[]⟩) (.slice none 0 0) (.slice none 0 0)))
          clear oFin
          go_wp2
          clear q0 q1 q2 q3 q4 g0 g1 g2 g3 g4
          change bodyPost Tryz.prog Tryz.f80 _ _ _ (put5 U4 (w.heap.size + 1 + 1) (.int .i64 0) (.int .i64 0) (.string ⟨#[]⟩) (.slice none 0 0) (.slice none 0 0))
          generalize put5 U4 (w.heap.size + 1 + 1) (.int .i64 0) (.int .i64 0) (.string ⟨#[]⟩) (.slice none 0 0) (.slice none 0 0) = U at *
          have c0 := HU.out.1.cell (i := 0) rfl
          have c1 := HU.out.1.cell (i := 1) rfl
          have c2 := HU.out.1.cell (i := 2) rfl
          have c3 := HU.out.1.cell (i := 3) rfl
          have c4 := HU.out.1.cell (i := 4) rfl
          exact bodyPost_ret (v := .tuple #[.agg #[.int .i64 0, .int .i64 0, .string ⟨#[]⟩, .slice none 0 0, .slice none 0 0], .int .i64 6]) (by simp [results, Tryz.results80, go_sem, c0, c1, c2, c3, c4]) rfl ⟨HU.out.2, VC0, by rw [HF.out]; rfl, by rw [HF.out]; exact isA_zero _ _⟩
        | true =>
          have HF : Hid (setP (⟨3, sn, si, sv⟩ :: p) t x = (replT ⟨3, sn, si, sv⟩ Rt t, 0)) := Lib.hid (by rw [HFZ.out, if_neg (by simp), if_neg (by rintro ⟨-, h⟩; rw [HBB.out] at h; cases h)])
          go_upto_region 13 with (fail)
          refine wp_region_quiet_below (by kernel_rfl) (by kernel_rfl) ?_
          repeat (first | go_big_quiet_step (first | with_reducible exact cH _ _) | quiet_step (first | with_reducible exact cH _ _))
          refine wpQuiet_nil ?_
          intro _ hw'
          obtain ⟨⟨dq, osq⟩, hw''⟩ := hw'
          subst hw''
          have hbq := below_regrown U2 dq osq
          have HB3 := Lib.hid (And.intro (below_all HB2.out.1 hbq) (And.intro (HB2.out.2.1.all hbq) (And.intro (HB2.out.2.2.1.all hbq) (HB2.out.2.2.2.all hbq))))
          have HRI2 := Lib.hid (HRI.out.all hbq)
          clear z0 z1 z2 z3 z4 y0 y1 y2 y3 cH hHl hbq HRI
          have HRI := HRI2
          clear HRI2
          generalize grow (redrawn U2 dq) osq = U4 at *
          have hHBl := HB3.out.1
          obtain ⟨pb', off', hao', hbl', q0, q1, q2, q3⟩ := Stps.at HP.out (hHBl) (i := 0) (s := ⟨3, sn, si, sv⟩) rfl
          cases hao'
          simp only [Nat.zero_mul, Nat.add_zero] at q0 q1 q2 q3
          have y0 := cell_regrown q0
          have y1 := cell_regrown q1
          have y2 := cell_regrown q2
          have y3 := cell_regrown q3
          clear q0 q1 q2 q3
          have z0 := cell_regrown (HB3.out.2.2.2.cell (i := 0) rfl)
          have z1 := cell_regrown (HB3.out.2.2.2.cell (i := 1) rfl)
          have z2 := cell_regrown (HB3.out.2.2.2.cell (i := 2) rfl)
          have z3 := cell_regrown (HB3.out.2.2.2.cell (i := 3) rfl)
          have z4 := cell_regrown (HB3.out.2.2.2.cell (i := 4) rfl)
          have v0 := cell_regrown (HB3.out.2.2.1.cell (i := 0) rfl)
          have v1 := cell_regrown (HB3.out.2.2.1.cell (i := 1) rfl)
          have v2 := cell_regrown (HB3.out.2.2.1.cell (i := 2) rfl)
          have v3 := cell_regrown (HB3.out.2.2.1.cell (i := 3) rfl)
          have v4 := cell_regrown (HB3.out.2.2.1.cell (i := 4) rfl)
          go_upto_region 15 with (fail)
          refine wp_region_multi 6 (fun i => i == 5) (fun _ _ u w' => ∃ c' : VC, u = c'.val ∧ IsA w' (fun b => U4.heap.size ≤ b) c' (replT ⟨3, sn, si, sv⟩ Rt t)) (fun _ u => ∃ c' : VC, u = c'.val) (by kernel_rfl) (by kernel_rfl)
            (fun _ _ _ w1 w2 ⟨c', h1, h2⟩ hb => ⟨c', h1, h2.all hb⟩) (fun _ => ⟨VC0.val, VC0, rfl⟩) ?_
          simp only [List.take_succ_cons, List.take_zero, List.drop_succ_cons, List.drop_zero]
          refine wpM_stretch 5 rfl rfl rfl rfl ?_
          simp only [List.take_succ_cons, List.take_zero, List.drop_succ_cons, List.drop_zero]
          repeat (first | go_big_quiet_step (fail) | quiet_step (fail))
          refine wpQuiet_nil ?_
          refine wpM_dem rfl rfl rfl ?_ ?_
          · rintro _ ⟨pp, rfl⟩
            go_simp
            simp only [demUpon]
            have hbp := below_all HB3.out.1 (below_regrown U4 pp.d pp.os)
            have hsz := (below_regrown U4 pp.d pp.os).size
            refine ⟨trivial, (replace_any ⟨ck, cn, cs, la, ln, lc, fa, fn, fc⟩ ⟨rk, rn, rs, rla, rln, rlc, rfa, rfn, rfc⟩ t Rt ⟨3, sn, si, sv⟩ _ (HIX.out.1.all hbp) (HRI.out.is.all (below_regrown U4 pp.d pp.os)) (by omega) (HRZ.out) HST.out.1).mono ?_⟩
            rintro e w6 ⟨c', rfl, hb6, h2⟩
            exact ⟨_, rfl, ⟨c', rfl⟩, hb6, c', rfl, h2.mono (fun b hb => by omega)⟩
          rintro _ ⟨⟨ek, en, es, ela, eln, elc, efa, efn, efc⟩, rfl⟩
          refine wpM_end ?_
          rintro U3 hbU3 ⟨-, c3, he3, hE⟩
          obtain rfl : (⟨ek, en, es, ela, eln, elc, efa, efn, efc⟩ : VC) = c3 := VC.val_inj (by simpa using he3)
          have hrbl := HB3.out.2.1.lt
          have HC := Lib.hid (And.intro (below_all HB3.out.1 hbU3) (And.intro (HB3.out.2.1.all hbU3) hE))
          clear hbU3 hE he3 z0 z1 z2 z3 z4 v0 v1 v2 v3 v4 y0 y1 y2 y3 hHBl
          have oFin := HC.out.2.1
          have q0 := oFin.cell (i := 0) rfl
          have q1 := oFin.cell (i := 1) rfl
          have q2 := oFin.cell (i := 2) rfl
          have q3 := oFin.cell (i := 3) rfl
          have q4 := oFin.cell (i := 4) rfl
          have g0 := oFin.frozen 0
          have g1 := oFin.frozen 1
          have g2 := oFin.frozen 2
          have g3 := oFin.frozen 3
          have g4 := oFin.frozen 4
          have HU := Lib.hid (And.intro (own_put5 oFin (.int .i64 ek) (.int .i64 en) (sV es) (.slice ela eln elc) (.slice efa efn efc)) (And.intro (below_put5 (b := w.heap.size + 1 + 1) HC.out.1 (by omega) (.int .i64 ek) (.int .i64 en) (sV es) (.slice ela eln elc) (.slice efa efn efc)) (HC.out.2.2.put5 (b := w.heap.size + 1 + 1) (by omega) (.int .i64 ek) (.int .i64 en) (sV es) (.slice ela eln elc) (.slice efa efn efc))))
          clear oFin
          go_wp2
          clear q0 q1 q2 q3 q4 g0 g1 g2 g3 g4
          change bodyPost Tryz.prog Tryz.f80 _ _ _ (put5 U3 (w.heap.size + 1 + 1) (.int .i64 ek) (.int .i64 en) (sV es) (.slice ela eln elc) (.slice efa efn efc))
          generalize put5 U3 (w.heap.size + 1 + 1) (.int .i64 ek) (.int .i64 en) (sV es) (.slice ela eln elc) (.slice efa efn efc) = U at *
          have c0 := HU.out.1.cell (i := 0) rfl
          have c1 := HU.out.1.cell (i := 1) rfl
          have c2 := HU.out.1.cell (i := 2) rfl
          have c3 := HU.out.1.cell (i := 3) rfl
          have c4 := HU.out.1.cell (i := 4) rfl
          exact bodyPost_ret (v := .tuple #[.agg #[.int .i64 ek, .int .i64 en, sV es, .slice ela eln elc, .slice efa efn efc], .int .i64 0]) (by simp [results, Tryz.results80, go_sem, c0, c1, c2, c3, c4]) rfl ⟨HU.out.2.1, ⟨ek, en, es, ela, eln, elc, efa, efn, efc⟩, by rw [HF.out], by rw [HF.out]; exact HU.out.2.2.mono (fun b hb => by omega)⟩
      · have HF : Hid (setP ((⟨sk, sn, si, sv⟩ : S) :: p) t x = (replT (⟨sk, sn, si, sv⟩ : S) Rt t, 0)) := Lib.hid (by rw [HFZ.out, if_neg (by simp), if_neg (fun h => h3 h.1)])
        have hHl := HB2.out.1
        obtain ⟨pb', off', hao', hbl', q0, q1, q2, q3⟩ := Stps.at HP.out (hHl) (i := 0) (s := ⟨sk, sn, si, sv⟩) rfl
        cases hao'
        simp only [Nat.zero_mul, Nat.add_zero] at q0 q1 q2 q3
        have y0 := cell_regrown q0
        have h3' : (sk == 3) = false := by rw [beq_eq_false_iff_ne]; exact h3
        clear q0 q1 q2 q3
        go_upto_region 13 with (fail)
        refine wp_region_quiet_below (by kernel_rfl) (by kernel_rfl) ?_
        repeat (first | go_big_quiet_step (fail) | quiet_step (fail))
        refine wpQuiet_nil ?_
        intro _ hw'
        obtain ⟨⟨dq, osq⟩, hw''⟩ := hw'
        subst hw''
        have hbq := below_regrown U2 dq osq
        have HB3 := Lib.hid (And.intro (below_all HB2.out.1 hbq) (And.intro (HB2.out.2.1.all hbq) (And.intro (HB2.out.2.2.1.all hbq) (HB2.out.2.2.2.all hbq))))
        have HRI2 := Lib.hid (HRI.out.all hbq)
        clear y0 hHl hbq HRI
        have HRI := HRI2
        clear HRI2
        generalize grow (redrawn U2 dq) osq = U4 at *
        have hHBl := HB3.out.1
        obtain ⟨pb', off', hao', hbl', q0, q1, q2, q3⟩ := Stps.at HP.out (hHBl) (i := 0) (s := ⟨sk, sn, si, sv⟩) rfl
        cases hao'
        simp only [Nat.zero_mul, Nat.add_zero] at q0 q1 q2 q3
        have y0 := cell_regrown q0
        have y1 := cell_regrown q1
        have y2 := cell_regrown q2
        have y3 := cell_regrown q3
        clear q0 q1 q2 q3
        have z0 := cell_regrown (HB3.out.2.2.2.cell (i := 0) rfl)
        have z1 := cell_regrown (HB3.out.2.2.2.cell (i := 1) rfl)
        have z2 := cell_regrown (HB3.out.2.2.2.cell (i := 2) rfl)
        have z3 := cell_regrown (HB3.out.2.2.2.cell (i := 3) rfl)
        have z4 := cell_regrown (HB3.out.2.2.2.cell (i := 4) rfl)
        have v0 := cell_regrown (HB3.out.2.2.1.cell (i := 0) rfl)
        have v1 := cell_regrown (HB3.out.2.2.1.cell (i := 1) rfl)
        have v2 := cell_regrown (HB3.out.2.2.1.cell (i := 2) rfl)
        have v3 := cell_regrown (HB3.out.2.2.1.cell (i := 3) rfl)
        have v4 := cell_regrown (HB3.out.2.2.1.cell (i := 4) rfl)
        go_upto_region 15 with (fail)
        refine wp_region_multi 6 (fun i => i == 5) (fun _ _ u w' => ∃ c' : VC, u = c'.val ∧ IsA w' (fun b => U4.heap.size ≤ b) c' (replT (⟨sk, sn, si, sv⟩ : S) Rt t)) (fun _ u => ∃ c' : VC, u = c'.val) (by kernel_rfl) (by kernel_rfl)
          (fun _ _ _ w1 w2 ⟨c', h1, h2⟩ hb => ⟨c', h1, h2.all hb⟩) (fun _ => ⟨VC0.val, VC0, rfl⟩) ?_
        simp only [List.take_succ_cons, List.take_zero, List.drop_succ_cons, List.drop_zero]
        refine wpM_stretch 5 rfl rfl rfl rfl ?_
        simp only [List.take_succ_cons, List.take_zero, List.drop_succ_cons, List.drop_zero]
        repeat (first | go_big_quiet_step (fail) | quiet_step (fail))
        refine wpQuiet_nil ?_
        refine wpM_dem rfl rfl rfl ?_ ?_
        · rintro _ ⟨pp, rfl⟩
          go_simp
          simp only [demUpon]
          have hbp := below_all HB3.out.1 (below_regrown U4 pp.d pp.os)
          have hsz := (below_regrown U4 pp.d pp.os).size
          refine ⟨trivial, (replace_any ⟨ck, cn, cs, la, ln, lc, fa, fn, fc⟩ ⟨rk, rn, rs, rla, rln, rlc, rfa, rfn, rfc⟩ t Rt (⟨sk, sn, si, sv⟩ : S) _ (HIX.out.1.all hbp) (HRI.out.is.all (below_regrown U4 pp.d pp.os)) (by omega) (HRZ.out) HST.out.1).mono ?_⟩
          rintro e w6 ⟨c', rfl, hb6, h2⟩
          exact ⟨_, rfl, ⟨c', rfl⟩, hb6, c', rfl, h2.mono (fun b hb => by omega)⟩
        rintro _ ⟨⟨ek, en, es, ela, eln, elc, efa, efn, efc⟩, rfl⟩
        refine wpM_end ?_
        rintro U3 hbU3 ⟨-, c3, he3, hE⟩
        obtain rfl : (⟨ek, en, es, ela, eln, elc, efa, efn, efc⟩ : VC) = c3 := VC.val_inj (by simpa using he3)
        have hrbl := HB3.out.2.1.lt
        have HC := Lib.hid (And.intro (below_all HB3.out.1 hbU3) (And.intro (HB3.out.2.1.all hbU3) hE))
        clear hbU3 hE he3 z0 z1 z2 z3 z4 v0 v1 v2 v3 v4 y0 y1 y2 y3 hHBl
        have oFin := HC.out.2.1
        have q0 := oFin.cell (i := 0) rfl
        have q1 := oFin.cell (i := 1) rfl
        have q2 := oFin.cell (i := 2) rfl
        have q3 := oFin.cell (i := 3) rfl
        have q4 := oFin.cell (i := 4) rfl
        have g0 := oFin.frozen 0
        have g1 := oFin.frozen 1
        have g2 := oFin.frozen 2
        have g3 := oFin.frozen 3
        have g4 := oFin.frozen 4
        have HU := Lib.hid (And.intro (own_put5 oFin (.int .i64 ek) (.int .i64 en) (sV es) (.slice ela eln elc) (.slice efa efn efc)) (And.intro (below_put5 (b := w.heap.size + 1 + 1) HC.out.1 (by omega) (.int .i64 ek) (.int .i64 en) (sV es) (.slice ela eln elc) (.slice efa efn efc)) (HC.out.2.2.put5 (b := w.heap.size + 1 + 1) (by omega) (.int .i64 ek) (.int .i64 en) (sV es) (.slice ela eln elc) (.slice efa efn efc))))
        clear oFin
        go_wp2
        clear q0 q1 q2 q3 q4 g0 g1 g2 g3 g4
        change bodyPost Tryz.prog Tryz.f80 _ _ _ (put5 U3 (w.heap.size + 1 + 1) (.int .i64 ek) (.int .i64 en) (sV es) (.slice ela eln elc) (.slice efa efn efc))
        generalize put5 U3 (w.heap.size + 1 + 1) (.int .i64 ek) (.int .i64 en) (sV es) (.slice ela eln elc) (.slice efa efn efc) = U at *
        have c0 := HU.out.1.cell (i := 0) rfl
        have c1 := HU.out.1.cell (i := 1) rfl
        have c2 := HU.out.1.cell (i := 2) rfl
        have c3 := HU.out.1.cell (i := 3) rfl
        have c4 := HU.out.1.cell (i := 4) rfl
        exact bodyPost_ret (v := .tuple #[.agg #[.int .i64 ek, .int .i64 en, sV es, .slice ela eln elc, .slice efa efn efc], .int .i64 0]) (by simp [results, Tryz.results80, go_sem, c0, c1, c2, c3, c4]) rfl ⟨HU.out.2.1, ⟨ek, en, es, ela, eln, elc, efa, efn, efc⟩, by rw [HF.out], by rw [HF.out]; exact HU.out.2.2.mono (fun b hb => by omega)⟩
    | some uT =>
      obtain ⟨fb, fo, ⟨dk, dn, ds, dla, dln, dlc, dfa, dfn, dfc⟩, rfl, hva, -, -, hJ⟩ := hres.ok uT hfi
      have hkd : kid (⟨sk, sn, si, sv⟩ : S) t = some uT := by
        rw [findT_step] at hfi
        cases hk : kid (⟨sk, sn, si, sv⟩ : S) t with
        | none => rw [hk] at hfi; cases hfi
        | some u' => rw [hk] at hfi; simp [findT] at hfi; rw [hfi]
      have hva2 := hva.all hbf
      have e0 := hva2.k
      have e1 := hva2.n
      have e2 := hva2.s
      have e3 := hva2.l
      have e4 := hva2.f
      simp only at e0 e1 e2 e3 e4
      have oN1 := HA2.out.2.2.2.2.all hbf
      have hN0 := oN1.cell (i := 0) rfl
      have fN0 := oN1.frozen 0
      have hN1 := oN1.cell (i := 1) rfl
      have fN1 := oN1.frozen 1
      have hN2 := oN1.cell (i := 2) rfl
      have fN2 := oN1.frozen 2
      have hN3 := oN1.cell (i := 3) rfl
      have fN3 := oN1.frozen 3
      have hN4 := oN1.cell (i := 4) rfl
      have fN4 := oN1.frozen 4
      have HB := Lib.hid (And.intro (below_put5 (b := nb) (below_all HA2.out.1 hbf) (by omega) (.int .i64 dk) (.int .i64 dn) (sV ds) (.slice dla dln dlc) (.slice dfa dfn dfc)) (And.intro (Own.put5n (c := nb) (HA2.out.2.1.all hbf) (by omega) (.int .i64 dk) (.int .i64 dn) (sV ds) (.slice dla dln dlc) (.slice dfa dfn dfc)) (And.intro (Own.put5n (c := nb) (HA2.out.2.2.1.all hbf) (by omega) (.int .i64 dk) (.int .i64 dn) (sV ds) (.slice dla dln dlc) (.slice dfa dfn dfc)) (And.intro (Own.put5n (c := nb) (HA2.out.2.2.2.1.all hbf) (by omega) (.int .i64 dk) (.int .i64 dn) (sV ds) (.slice dla dln dlc) (.slice dfa dfn dfc)) (own_put5 oN1 (.int .i64 dk) (.int .i64 dn) (sV ds) (.slice dla dln dlc) (.slice dfa dfn dfc))))))
      have HBT : Hid ((kid (⟨sk, sn, si, sv⟩ : S) t).getD (newT (⟨sk, sn, si, sv⟩ : S)) = uT ∧ uT.size ≤ 700) := Lib.hid ⟨by rw [hkd]; rfl, Int.le_trans (kid_size hkd) hz⟩
      have HJ := Lib.hid hJ
      clear hres hfi hkd hbf HA2 HNI hva hva2 oN1 hJ
      go_upto_region 10 with (fail)
      clear hN0 hN1 hN2 hN3 hN4 fN0 fN1 fN2 fN3 fN4 e0 e1 e2 e3 e4
      change Code.wp Tryz.prog _ _ _ (put5 W1 nb (.int .i64 dk) (.int .i64 dn) (sV ds) (.slice dla dln dlc) (.slice dfa dfn dfc))
      generalize put5 W1 nb (.int .i64 dk) (.int .i64 dn) (sV ds) (.slice dla dln dlc) (.slice dfa dfn dfc) = W2 at *
      have HBI := Lib.hid (HJ.out.all HB.out.1)
      have hBl := HB.out.1
      have z0 := cell_regrown (HB.out.2.2.2.2.cell (i := 0) rfl)
      have z1 := cell_regrown (HB.out.2.2.2.2.cell (i := 1) rfl)
      have z2 := cell_regrown (HB.out.2.2.2.2.cell (i := 2) rfl)
      have z3 := cell_regrown (HB.out.2.2.2.2.cell (i := 3) rfl)
      have z4 := cell_regrown (HB.out.2.2.2.2.cell (i := 4) rfl)
      have y0 := cell_regrown (HB.out.2.2.1.cell (i := 0) rfl)
      have y1 := cell_regrown (HB.out.2.2.1.cell (i := 1) rfl)
      have y2 := cell_regrown (HB.out.2.2.1.cell (i := 2) rfl)
      have y3 := cell_regrown (HB.out.2.2.1.cell (i := 3) rfl)
      have y4 := cell_regrown (HB.out.2.2.1.cell (i := 4) rfl)
      have hnb := HB.out.2.2.2.2.lt
      have hrb := HB.out.2.1.lt
      refine wp_region_multiE 5 #[true, true, true, true, true, false, false, false, false, false] (fun i => i == 4) (fun _ _ u w' => ∃ c' : VC, u = .tuple #[c'.val, .int .i64 (setP p uT x).2] ∧ IsA w' (fun b => W2.heap.size ≤ b) c' (setP p uT x).1) (fun _ u => ∃ c' : VC, u = .tuple #[c'.val, .int .i64 (setP p uT x).2]) (by kernel_rfl) (by kernel_rfl)
        (fun _ _ _ w1 w2 ⟨c', h1, h2⟩ hb => ⟨c', h1, h2.all hb⟩) (fun _ => ⟨_, VC0, rfl⟩) ?_
      simp only [List.take_succ_cons, List.take_zero, List.drop_succ_cons, List.drop_zero]
      refine wpM_stretch 4 rfl rfl rfl rfl ?_
      simp only [List.take_succ_cons, List.take_zero, List.drop_succ_cons, List.drop_zero]
      repeat (first | go_big_quiet_step (fail) | quiet_step (fail))
      refine wpQuiet_nil ?_
      refine wpM_dem rfl rfl rfl ?_ ?_
      · rintro _ ⟨pp, rfl⟩
        go_simp
        simp only [demUpon]
        have hbp := below_all HB.out.1 (below_regrown W2 pp.d pp.os)
        have hsz := (below_regrown W2 pp.d pp.os).size
        refine ⟨trivial, (IH.out (.slice (if cp = 1 then some ⟨pb, off, none⟩ else some ⟨pb, off + 4, none⟩) p.length (cp - 1)) _ (Flat.all HTL.out hbp) ⟨dk, dn, ds, dla, dln, dlc, dfa, dfn, dfc⟩ ⟨xk, xn, xs, xla, xln, xlc, xfa, xfn, xfc⟩ uT x (HBI.out.all (below_regrown W2 pp.d pp.os)) (HIX.out.2.all hbp) HBT.out.2 hzx HPL.out HALL.out).mono ?_⟩
        rintro e w6 ⟨hb6, c', rfl, h2⟩
        exact ⟨_, rfl, ⟨c', rfl⟩, hb6, c', rfl, h2.mono (fun b hb => by omega)⟩
      rintro _ ⟨⟨rk, rn, rs, rla, rln, rlc, rfa, rfn, rfc⟩, rfl⟩
      refine wpM_end ?_
      rintro U hbU ⟨-, c2, he2, hR⟩
      obtain rfl : (⟨rk, rn, rs, rla, rln, rlc, rfa, rfn, rfc⟩ : VC) = c2 := VC.val_inj (by simpa using he2)
      have oN := HB.out.2.2.2.2.all hbU
      have hN0 := oN.cell (i := 0) rfl
      have fN0 := oN.frozen 0
      have hN1 := oN.cell (i := 1) rfl
      have fN1 := oN.frozen 1
      have hN2 := oN.cell (i := 2) rfl
      have fN2 := oN.frozen 2
      have hN3 := oN.cell (i := 3) rfl
      have fN3 := oN.frozen 3
      have hN4 := oN.cell (i := 4) rfl
      have fN4 := oN.frozen 4
      have HB2 := Lib.hid (And.intro (below_put5 (b := nb) (below_all HB.out.1 hbU) (by omega) (.int .i64 rk) (.int .i64 rn) (sV rs) (.slice rla rln rlc) (.slice rfa rfn rfc)) (And.intro (Own.put5n (c := nb) (HB.out.2.1.all hbU) (by omega) (.int .i64 rk) (.int .i64 rn) (sV rs) (.slice rla rln rlc) (.slice rfa rfn rfc)) (And.intro (Own.put5n (c := nb) (HB.out.2.2.2.1.all hbU) (by omega) (.int .i64 rk) (.int .i64 rn) (sV rs) (.slice rla rln rlc) (.slice rfa rfn rfc)) (own_put5 oN (.int .i64 rk) (.int .i64 rn) (sV rs) (.slice rla rln rlc) (.slice rfa rfn rfc)))))
      have HRI := Lib.hid (hR.put5 (b := nb) (by omega) (.int .i64 rk) (.int .i64 rn) (sV rs) (.slice rla rln rlc) (.slice rfa rfn rfc))
      clear z0 z1 z2 z3 z4 y0 y1 y2 y3 y4 hbU hR oN he2
      refine wpAny_take (i := 5) rfl (by kernel_rfl) (by kernel_rfl) (by kernel_rfl) (fun _ _ _ h => h) (Or.inl ⟨by rfl, by intro w0; go_simp; try with_reducible rfl⟩) ?_
      refine wpAny_take (i := 6) rfl (by kernel_rfl) (by kernel_rfl) (by kernel_rfl) (fun _ _ _ h => h) (Or.inl ⟨by rfl, by intro w0; go_simp; try with_reducible rfl⟩) ?_
      refine wpAny_take (i := 7) rfl (by kernel_rfl) (by kernel_rfl) (by kernel_rfl) (fun _ _ _ h => h) (Or.inl ⟨by rfl, by intro w0; go_simp; try with_reducible rfl⟩) ?_
      refine wpAny_ready (rs := [8]) (by kernel_rfl) (by simp) ?_
      refine AllReady.cons rfl (fun K hK => ?_) AllReady.nil
      go_simp
      refine hK _ _ ?_
      clear hK K
      refine wpAny_take (i := 9) rfl (by kernel_rfl) (by kernel_rfl) (by kernel_rfl) (fun _ _ _ h => h) (Or.inl ⟨by rfl, by intro w0; go_simp; try with_reducible rfl⟩) ?_
      refine wpAny_done (by kernel_rfl) ?_ _
      generalize (if cp = 1 then some (⟨pb, off, none⟩ : Addr) else some ⟨pb, off + 4, none⟩) = tp at *
      go_upto_region 11 with (fail)
      clear hN0 hN1 hN2 hN3 hN4 fN0 fN1 fN2 fN3 fN4
      change Code.wp Tryz.prog _ _ _ (put5 U nb (.int .i64 rk) (.int .i64 rn) (sV rs) (.slice rla rln rlc) (.slice rfa rfn rfc))
      generalize put5 U nb (.int .i64 rk) (.int .i64 rn) (sV rs) (.slice rla rln rlc) (.slice rfa rfn rfc) = U2 at *
      have HFZ : Hid (setP ((⟨sk, sn, si, sv⟩ : S) :: p) t x = if ¬ (setP p uT x).2 = 0 then (T0, (setP p uT x).2) else if sk = 3 ∧ hasK sn sv (setP p uT x).1 = false then (T0, 6) else (replT (⟨sk, sn, si, sv⟩ : S) (setP p uT x).1 t, 0)) := Lib.hid (by rw [setP, if_neg (by rw [HE0.out]; simp), HBT.out.1])
      have HRZ0 := Lib.hid (setP_size p uT x HALL.out)
      generalize (setP p uT x).1 = Rt at *
      generalize (setP p uT x).2 = E at *
      have hu2 : w.heap.size + 1 + 1 < U2.heap.size := HB2.out.2.1.lt
      by_cases hE : ¬ E = 0
      · have HF : Hid (setP ((⟨sk, sn, si, sv⟩ : S) :: p) t x = (T0, E)) := Lib.hid (by rw [HFZ.out, if_pos hE])
        have hne : (E != 0) = true := by simpa using hE
        have oFin := HB2.out.2.1
        have q0 := oFin.cell (i := 0) rfl
        have q1 := oFin.cell (i := 1) rfl
        have q2 := oFin.cell (i := 2) rfl
        have q3 := oFin.cell (i := 3) rfl
        have q4 := oFin.cell (i := 4) rfl
        have g0 := oFin.frozen 0
        have g1 := oFin.frozen 1
        have g2 := oFin.frozen 2
        have g3 := oFin.frozen 3
        have g4 := oFin.frozen 4
        have HU := Lib.hid (And.intro (own_put5 oFin (.int .i64 0) (.int .i64 0) (.string ⟨#[]⟩) (.slice none 0 0) (.slice none 0 0)) (below_put5 (b := w.heap.size + 1 + 1) HB2.out.1 (by omega) (.int .i64 0) (.int .i64 0) (.string ⟨#[]⟩) (.slice none 0 0) (.slice none 0 0)))
        clear oFin
        go_wp2
        clear q0 q1 q2 q3 q4 g0 g1 g2 g3 g4
        change bodyPost Tryz.prog Tryz.f80 _ _ _ (put5 U2 (w.heap.size + 1 + 1) (.int .i64 0) (.int .i64 0) (.string ⟨#[]⟩) (.slice none 0 0) (.slice none 0 0))
        generalize put5 U2 (w.heap.size + 1 + 1) (.int .i64 0) (.int .i64 0) (.string ⟨#[]⟩) (.slice none 0 0) (.slice none 0 0) = U at *
        have c0 := HU.out.1.cell (i := 0) rfl
        have c1 := HU.out.1.cell (i := 1) rfl
        have c2 := HU.out.1.cell (i := 2) rfl
        have c3 := HU.out.1.cell (i := 3) rfl
        have c4 := HU.out.1.cell (i := 4) rfl
        exact bodyPost_ret (v := .tuple #[.agg #[.int .i64 0, .int .i64 0, .string ⟨#[]⟩, .slice none 0 0, .slice none 0 0], .int .i64 E]) (by simp [results, Tryz.results80, go_sem, c0, c1, c2, c3, c4]) rfl ⟨HU.out.2, VC0, by rw [HF.out]; rfl, by rw [HF.out]; exact isA_zero _ _⟩
      have hE2 : E = 0 := by omega
      clear hE
      subst hE2
      have HRZ : Hid (Rt.size ≤ 4000) := Lib.hid (by have a := HRZ0.out; have b := HBT.out.2; have c := HPL.out; omega)
      by_cases h3 : sk = 3
      · subst h3
        have hHl := HB2.out.1
        obtain ⟨pb', off', hao', hbl', q0, q1, q2, q3⟩ := Stps.at HP.out (hHl) (i := 0) (s := ⟨3, sn, si, sv⟩) rfl
        cases hao'
        simp only [Nat.zero_mul, Nat.add_zero] at q0 q1 q2 q3
        have y0 := cell_regrown q0
        have y1 := cell_regrown q1
        have y2 := cell_regrown q2
        have y3 := cell_regrown q3
        clear q0 q1 q2 q3
        have z0 := cell_regrown (HB2.out.2.2.2.cell (i := 0) rfl)
        have z1 := cell_regrown (HB2.out.2.2.2.cell (i := 1) rfl)
        have z2 := cell_regrown (HB2.out.2.2.2.cell (i := 2) rfl)
        have z3 := cell_regrown (HB2.out.2.2.2.cell (i := 3) rfl)
        have z4 := cell_regrown (HB2.out.2.2.2.cell (i := 4) rfl)
        obtain ⟨B, hB⟩ : ∃ B, hasK sn sv Rt = B := ⟨_, rfl⟩
        have cH : ∀ dd os, Calls Tryz.prog 120 #[.agg #[.int .i64 rk, .int .i64 rn, sV rs, .slice rla rln rlc, .slice rfa rfn rfc], .agg #[.int .i64 3, sV sn, .int .i64 si, sV sv]] (grow (redrawn U2 dd) os) fun e w'' => e = .returned (.bool B) ∧ ∃ p : Regrown, w'' = grow (redrawn U2 p.d) p.os := fun dd os => Calls.regrown_of (by rw [← hB]; exact hasKeyP_any ⟨rk, rn, rs, rla, rln, rlc, rfa, rfn, rfc⟩ Rt ⟨3, sn, si, sv⟩ _ (HRI.out.is.all (below_regrown U2 dd os)) (by have := HRZ.out; omega))
        have HBB := Lib.hid hB
        clear hB
        cases B with
        | false =>
          have HF : Hid (setP (⟨3, sn, si, sv⟩ :: p) t x = (T0, 6)) := Lib.hid (by rw [HFZ.out, if_neg (by simp), if_pos ⟨rfl, HBB.out⟩])
          go_upto_region 13 with (fail)
          refine wp_region_quiet_below (by kernel_rfl) (by kernel_rfl) ?_
          repeat (first | go_big_quiet_step (first | with_reducible exact cH _ _) | quiet_step (first | with_reducible exact cH _ _))
          refine wpQuiet_nil ?_
          intro _ hw'
          obtain ⟨⟨dq, osq⟩, hw''⟩ := hw'
          subst hw''
          have HB3 := Lib.hid (And.intro (below_all HB2.out.1 (below_regrown U2 dq osq)) (And.intro (HB2.out.2.1.all (below_regrown U2 dq osq)) trivial))
          clear z0 z1 z2 z3 z4 y0 y1 y2 y3 cH hHl
          generalize grow (redrawn U2 dq) osq = U4 at *
          have oFin := HB3.out.2.1
          have q0 := oFin.cell (i := 0) rfl
          have q1 := oFin.cell (i := 1) rfl
          have q2 := oFin.cell (i := 2) rfl
          have q3 := oFin.cell (i := 3) rfl
          have q4 := oFin.cell (i := 4) rfl
          have g0 := oFin.frozen 0
          have g1 := oFin.frozen 1
          have g2 := oFin.frozen 2
          have g3 := oFin.frozen 3
          have g4 := oFin.frozen 4
          have HU := Lib.hid (And.intro (own_put5 oFin (.int .i64 0) (.int .i64 0) (.string ⟨#[]⟩) (.slice none 0 0) (.slice none 0 0)) (below_put5 (b := w.heap.size + 1 + 1) HB3.out.1 (by omega) (.int .i64 0) (.int .i64 0) (.string ⟨#[]⟩) (.slice none 0 0) (.slice none 0 0)))
          clear oFin
          go_wp2
          clear q0 q1 q2 q3 q4 g0 g1 g2 g3 g4
          change bodyPost Tryz.prog Tryz.f80 _ _ _ (put5 U4 (w.heap.size + 1 + 1) (.int .i64 0) (.int .i64 0) (.string ⟨#[]⟩) (.slice none 0 0) (.slice none 0 0))
          generalize put5 U4 (w.heap.size + 1 + 1) (.int .i64 0) (.int .i64 0) (.string ⟨#[]⟩) (.slice none 0 0) (.slice none 0 0) = U at *
          have c0 := HU.out.1.cell (i := 0) rfl
          have c1 := HU.out.1.cell (i := 1) rfl
          have c2 := HU.out.1.cell (i := 2) rfl
          have c3 := HU.out.1.cell (i := 3) rfl
          have c4 := HU.out.1.cell (i := 4) rfl
          exact bodyPost_ret (v := .tuple #[.agg #[.int .i64 0, .int .i64 0, .string ⟨#[]⟩, .slice none 0 0, .slice none 0 0], .int .i64 6]) (by simp [results, Tryz.results80, go_sem, c0, c1, c2, c3, c4]) rfl ⟨HU.out.2, VC0, by rw [HF.out]; rfl, by rw [HF.out]; exact isA_zero _ _⟩
        | true =>
          have HF : Hid (setP (⟨3, sn, si, sv⟩ :: p) t x = (replT ⟨3, sn, si, sv⟩ Rt t, 0)) := Lib.hid (by rw [HFZ.out, if_neg (by simp), if_neg (by rintro ⟨-, h⟩; rw [HBB.out] at h; cases h)])
          go_upto_region 13 with (fail)
          refine wp_region_quiet_below (by kernel_rfl) (by kernel_rfl) ?_
          repeat (first | go_big_quiet_step (first | with_reducible exact cH _ _) | quiet_step (first | with_reducible exact cH _ _))
          refine wpQuiet_nil ?_
          intro _ hw'
          obtain ⟨⟨dq, osq⟩, hw''⟩ := hw'
          subst hw''
          have hbq := below_regrown U2 dq osq
          have HB3 := Lib.hid (And.intro (below_all HB2.out.1 hbq) (And.intro (HB2.out.2.1.all hbq) (And.intro (HB2.out.2.2.1.all hbq) (HB2.out.2.2.2.all hbq))))
          have HRI2 := Lib.hid (HRI.out.all hbq)
          clear z0 z1 z2 z3 z4 y0 y1 y2 y3 cH hHl hbq HRI
          have HRI := HRI2
          clear HRI2
          generalize grow (redrawn U2 dq) osq = U4 at *
          have hHBl := HB3.out.1
          obtain ⟨pb', off', hao', hbl', q0, q1, q2, q3⟩ := Stps.at HP.out (hHBl) (i := 0) (s := ⟨3, sn, si, sv⟩) rfl
          cases hao'
          simp only [Nat.zero_mul, Nat.add_zero] at q0 q1 q2 q3
          have y0 := cell_regrown q0
          have y1 := cell_regrown q1
          have y2 := cell_regrown q2
          have y3 := cell_regrown q3
          clear q0 q1 q2 q3
          have z0 := cell_regrown (HB3.out.2.2.2.cell (i := 0) rfl)
          have z1 := cell_regrown (HB3.out.2.2.2.cell (i := 1) rfl)
          have z2 := cell_regrown (HB3.out.2.2.2.cell (i := 2) rfl)
          have z3 := cell_regrown (HB3.out.2.2.2.cell (i := 3) rfl)
          have z4 := cell_regrown (HB3.out.2.2.2.cell (i := 4) rfl)
          have v0 := cell_regrown (HB3.out.2.2.1.cell (i := 0) rfl)
          have v1 := cell_regrown (HB3.out.2.2.1.cell (i := 1) rfl)
          have v2 := cell_regrown (HB3.out.2.2.1.cell (i := 2) rfl)
          have v3 := cell_regrown (HB3.out.2.2.1.cell (i := 3) rfl)
          have v4 := cell_regrown (HB3.out.2.2.1.cell (i := 4) rfl)
          go_upto_region 15 with (fail)
          refine wp_region_multi 6 (fun i => i == 5) (fun _ _ u w' => ∃ c' : VC, u = c'.val ∧ IsA w' (fun b => U4.heap.size ≤ b) c' (replT ⟨3, sn, si, sv⟩ Rt t)) (fun _ u => ∃ c' : VC, u = c'.val) (by kernel_rfl) (by kernel_rfl)
            (fun _ _ _ w1 w2 ⟨c', h1, h2⟩ hb => ⟨c', h1, h2.all hb⟩) (fun _ => ⟨VC0.val, VC0, rfl⟩) ?_
          simp only [List.take_succ_cons, List.take_zero, List.drop_succ_cons, List.drop_zero]
          refine wpM_stretch 5 rfl rfl rfl rfl ?_
          simp only [List.take_succ_cons, List.take_zero, List.drop_succ_cons, List.drop_zero]
          repeat (first | go_big_quiet_step (fail) | quiet_step (fail))
          refine wpQuiet_nil ?_
          refine wpM_dem rfl rfl rfl ?_ ?_
          · rintro _ ⟨pp, rfl⟩
            go_simp
            simp only [demUpon]
            have hbp := below_all HB3.out.1 (below_regrown U4 pp.d pp.os)
            have hsz := (below_regrown U4 pp.d pp.os).size
            refine ⟨trivial, (replace_any ⟨ck, cn, cs, la, ln, lc, fa, fn, fc⟩ ⟨rk, rn, rs, rla, rln, rlc, rfa, rfn, rfc⟩ t Rt ⟨3, sn, si, sv⟩ _ (HIX.out.1.all hbp) (HRI.out.is.all (below_regrown U4 pp.d pp.os)) (by omega) (HRZ.out) HST.out.1).mono ?_⟩
            rintro e w6 ⟨c', rfl, hb6, h2⟩
            exact ⟨_, rfl, ⟨c', rfl⟩, hb6, c', rfl, h2.mono (fun b hb => by omega)⟩
          rintro _ ⟨⟨ek, en, es, ela, eln, elc, efa, efn, efc⟩, rfl⟩
          refine wpM_end ?_
          rintro U3 hbU3 ⟨-, c3, he3, hE⟩
          obtain rfl : (⟨ek, en, es, ela, eln, elc, efa, efn, efc⟩ : VC) = c3 := VC.val_inj (by simpa using he3)
          have hrbl := HB3.out.2.1.lt
          have HC := Lib.hid (And.intro (below_all HB3.out.1 hbU3) (And.intro (HB3.out.2.1.all hbU3) hE))
          clear hbU3 hE he3 z0 z1 z2 z3 z4 v0 v1 v2 v3 v4 y0 y1 y2 y3 hHBl
          have oFin := HC.out.2.1
          have q0 := oFin.cell (i := 0) rfl
          have q1 := oFin.cell (i := 1) rfl
          have q2 := oFin.cell (i := 2) rfl
          have q3 := oFin.cell (i := 3) rfl
          have q4 := oFin.cell (i := 4) rfl
          have g0 := oFin.frozen 0
          have g1 := oFin.frozen 1
          have g2 := oFin.frozen 2
          have g3 := oFin.frozen 3
          have g4 := oFin.frozen 4
          have HU := Lib.hid (And.intro (own_put5 oFin (.int .i64 ek) (.int .i64 en) (sV es) (.slice ela eln elc) (.slice efa efn efc)) (And.intro (below_put5 (b := w.heap.size + 1 + 1) HC.out.1 (by omega) (.int .i64 ek) (.int .i64 en) (sV es) (.slice ela eln elc) (.slice efa efn efc)) (HC.out.2.2.put5 (b := w.heap.size + 1 + 1) (by omega) (.int .i64 ek) (.int .i64 en) (sV es) (.slice ela eln elc) (.slice efa efn efc))))
          clear oFin
          go_wp2
          clear q0 q1 q2 q3 q4 g0 g1 g2 g3 g4
          change bodyPost Tryz.prog Tryz.f80 _ _ _ (put5 U3 (w.heap.size + 1 + 1) (.int .i64 ek) (.int .i64 en) (sV es) (.slice ela eln elc) (.slice efa efn efc))
          generalize put5 U3 (w.heap.size + 1 + 1) (.int .i64 ek) (.int .i64 en) (sV es) (.slice ela eln elc) (.slice efa efn efc) = U at *
          have c0 := HU.out.1.cell (i := 0) rfl
          have c1 := HU.out.1.cell (i := 1) rfl
          have c2 := HU.out.1.cell (i := 2) rfl
          have c3 := HU.out.1.cell (i := 3) rfl
          have c4 := HU.out.1.cell (i := 4) rfl
          exact bodyPost_ret (v := .tuple #[.agg #[.int .i64 ek, .int .i64 en, sV es, .slice ela eln elc, .slice efa efn efc], .int .i64 0]) (by simp [results, Tryz.results80, go_sem, c0, c1, c2, c3, c4]) rfl ⟨HU.out.2.1, ⟨ek, en, es, ela, eln, elc, efa, efn, efc⟩, by rw [HF.out], by rw [HF.out]; exact HU.out.2.2.mono (fun b hb => by omega)⟩
      · have HF : Hid (setP ((⟨sk, sn, si, sv⟩ : S) :: p) t x = (replT (⟨sk, sn, si, sv⟩ : S) Rt t, 0)) := Lib.hid (by rw [HFZ.out, if_neg (by simp), if_neg (fun h => h3 h.1)])
        have hHl := HB2.out.1
        obtain ⟨pb', off', hao', hbl', q0, q1, q2, q3⟩ := Stps.at HP.out (hHl) (i := 0) (s := ⟨sk, sn, si, sv⟩) rfl
        cases hao'
        simp only [Nat.zero_mul, Nat.add_zero] at q0 q1 q2 q3
        have y0 := cell_regrown q0
        have h3' : (sk == 3) = false := by rw [beq_eq_false_iff_ne]; exact h3
        clear q0 q1 q2 q3
        go_upto_region 13 with (fail)
        refine wp_region_quiet_below (by kernel_rfl) (by kernel_rfl) ?_
        repeat (first | go_big_quiet_step (fail) | quiet_step (fail))
        refine wpQuiet_nil ?_
        intro _ hw'
        obtain ⟨⟨dq, osq⟩, hw''⟩ := hw'
        subst hw''
        have hbq := below_regrown U2 dq osq
        have HB3 := Lib.hid (And.intro (below_all HB2.out.1 hbq) (And.intro (HB2.out.2.1.all hbq) (And.intro (HB2.out.2.2.1.all hbq) (HB2.out.2.2.2.all hbq))))
        have HRI2 := Lib.hid (HRI.out.all hbq)
        clear y0 hHl hbq HRI
        have HRI := HRI2
        clear HRI2
        generalize grow (redrawn U2 dq) osq = U4 at *
        have hHBl := HB3.out.1
        obtain ⟨pb', off', hao', hbl', q0, q1, q2, q3⟩ := Stps.at HP.out (hHBl) (i := 0) (s := ⟨sk, sn, si, sv⟩) rfl
        cases hao'
        simp only [Nat.zero_mul, Nat.add_zero] at q0 q1 q2 q3
        have y0 := cell_regrown q0
        have y1 := cell_regrown q1
        have y2 := cell_regrown q2
        have y3 := cell_regrown q3
        clear q0 q1 q2 q3
        have z0 := cell_regrown (HB3.out.2.2.2.cell (i := 0) rfl)
        have z1 := cell_regrown (HB3.out.2.2.2.cell (i := 1) rfl)
        have z2 := cell_regrown (HB3.out.2.2.2.cell (i := 2) rfl)
        have z3 := cell_regrown (HB3.out.2.2.2.cell (i := 3) rfl)
        have z4 := cell_regrown (HB3.out.2.2.2.cell (i := 4) rfl)
        have v0 := cell_regrown (HB3.out.2.2.1.cell (i := 0) rfl)
        have v1 := cell_regrown (HB3.out.2.2.1.cell (i := 1) rfl)
        have v2 := cell_regrown (HB3.out.2.2.1.cell (i := 2) rfl)
        have v3 := cell_regrown (HB3.out.2.2.1.cell (i := 3) rfl)
        have v4 := cell_regrown (HB3.out.2.2.1.cell (i := 4) rfl)
        go_upto_region 15 with (fail)
        refine wp_region_multi 6 (fun i => i == 5) (fun _ _ u w' => ∃ c' : VC, u = c'.val ∧ IsA w' (fun b => U4.heap.size ≤ b) c' (replT (⟨sk, sn, si, sv⟩ : S) Rt t)) (fun _ u => ∃ c' : VC, u = c'.val) (by kernel_rfl) (by kernel_rfl)
          (fun _ _ _ w1 w2 ⟨c', h1, h2⟩ hb => ⟨c', h1, h2.all hb⟩) (fun _ => ⟨VC0.val, VC0, rfl⟩) ?_
        simp only [List.take_succ_cons, List.take_zero, List.drop_succ_cons, List.drop_zero]
        refine wpM_stretch 5 rfl rfl rfl rfl ?_
        simp only [List.take_succ_cons, List.take_zero, List.drop_succ_cons, List.drop_zero]
        repeat (first | go_big_quiet_step (fail) | quiet_step (fail))
        refine wpQuiet_nil ?_
        refine wpM_dem rfl rfl rfl ?_ ?_
        · rintro _ ⟨pp, rfl⟩
          go_simp
          simp only [demUpon]
          have hbp := below_all HB3.out.1 (below_regrown U4 pp.d pp.os)
          have hsz := (below_regrown U4 pp.d pp.os).size
          refine ⟨trivial, (replace_any ⟨ck, cn, cs, la, ln, lc, fa, fn, fc⟩ ⟨rk, rn, rs, rla, rln, rlc, rfa, rfn, rfc⟩ t Rt (⟨sk, sn, si, sv⟩ : S) _ (HIX.out.1.all hbp) (HRI.out.is.all (below_regrown U4 pp.d pp.os)) (by omega) (HRZ.out) HST.out.1).mono ?_⟩
          rintro e w6 ⟨c', rfl, hb6, h2⟩
          exact ⟨_, rfl, ⟨c', rfl⟩, hb6, c', rfl, h2.mono (fun b hb => by omega)⟩
        rintro _ ⟨⟨ek, en, es, ela, eln, elc, efa, efn, efc⟩, rfl⟩
        refine wpM_end ?_
        rintro U3 hbU3 ⟨-, c3, he3, hE⟩
        obtain rfl : (⟨ek, en, es, ela, eln, elc, efa, efn, efc⟩ : VC) = c3 := VC.val_inj (by simpa using he3)
        have hrbl := HB3.out.2.1.lt
        have HC := Lib.hid (And.intro (below_all HB3.out.1 hbU3) (And.intro (HB3.out.2.1.all hbU3) hE))
        clear hbU3 hE he3 z0 z1 z2 z3 z4 v0 v1 v2 v3 v4 y0 y1 y2 y3 hHBl
        have oFin := HC.out.2.1
        have q0 := oFin.cell (i := 0) rfl
        have q1 := oFin.cell (i := 1) rfl
        have q2 := oFin.cell (i := 2) rfl
        have q3 := oFin.cell (i := 3) rfl
        have q4 := oFin.cell (i := 4) rfl
        have g0 := oFin.frozen 0
        have g1 := oFin.frozen 1
        have g2 := oFin.frozen 2
        have g3 := oFin.frozen 3
        have g4 := oFin.frozen 4
        have HU := Lib.hid (And.intro (own_put5 oFin (.int .i64 ek) (.int .i64 en) (sV es) (.slice ela eln elc) (.slice efa efn efc)) (And.intro (below_put5 (b := w.heap.size + 1 + 1) HC.out.1 (by omega) (.int .i64 ek) (.int .i64 en) (sV es) (.slice ela eln elc) (.slice efa efn efc)) (HC.out.2.2.put5 (b := w.heap.size + 1 + 1) (by omega) (.int .i64 ek) (.int .i64 en) (sV es) (.slice ela eln elc) (.slice efa efn efc))))
        clear oFin
        go_wp2
        clear q0 q1 q2 q3 q4 g0 g1 g2 g3 g4
        change bodyPost Tryz.prog Tryz.f80 _ _ _ (put5 U3 (w.heap.size + 1 + 1) (.int .i64 ek) (.int .i64 en) (sV es) (.slice ela eln elc) (.slice efa efn efc))
        generalize put5 U3 (w.heap.size + 1 + 1) (.int .i64 ek) (.int .i64 en) (sV es) (.slice ela eln elc) (.slice efa efn efc) = U at *
        have c0 := HU.out.1.cell (i := 0) rfl
        have c1 := HU.out.1.cell (i := 1) rfl
        have c2 := HU.out.1.cell (i := 2) rfl
        have c3 := HU.out.1.cell (i := 3) rfl
        have c4 := HU.out.1.cell (i := 4) rfl
        exact bodyPost_ret (v := .tuple #[.agg #[.int .i64 ek, .int .i64 en, sV es, .slice ela eln elc, .slice efa efn efc], .int .i64 0]) (by simp [results, Tryz.results80, go_sem, c0, c1, c2, c3, c4]) rfl ⟨HU.out.2.1, ⟨ek, en, es, ela, eln, elc, efa, efn, efc⟩, by rw [HF.out], by rw [HF.out]; exact HU.out.2.2.mono (fun b hb => by omega)⟩
end Go.Proofs.YtjpmnlefjmdelaaGreatDoor
namespace Go.Proofs.YtjpmnlefjmdelaaGreatDoor
open Go.RowKit Go.Sort Go.Proofs.LawFrame

def OkT (t : T) : Prop := Val 12 t ∧ t.size ≤ 600
open Classical in
noncomputable def resS (p : List S) (t x : T) : T × Int :=
  if pathOk p = true ∧ OkT t ∧ OkT x then (if ¬ (setP p t x).2 = 0 then (T0, (setP p t x).2) else if OkT (setP p t x).1 then ((setP p t x).1, 0) else (T0, 4)) else (T0, 1)
/-- what Set answers -/
structure QSt (w : World) (p : List S) (t x : T) (e : Ending) (w' : World) : Prop where
  below : Below w.heap.size w w'
  out : ∃ c' : VC, e = .returned (.tuple #[c'.val, .int .i64 (resS p t x).2]) ∧ IsA w' (fun b => w.heap.size ≤ b) c' (resS p t x).1
theorem resS_bad {p : List S} {t x : T} (h : ¬ (pathOk p = true ∧ OkT t ∧ OkT x)) : resS p t x = (T0, 1) := by unfold resS; rw [if_neg h]
theorem resS_er {p : List S} {t x : T} (h : pathOk p = true ∧ OkT t ∧ OkT x) (h2 : ¬ (setP p t x).2 = 0) : resS p t x = (T0, (setP p t x).2) := by unfold resS; rw [if_pos h, if_pos h2]
theorem resS_ok {p : List S} {t x : T} (h : pathOk p = true ∧ OkT t ∧ OkT x) (h2 : (setP p t x).2 = 0) (h3 : OkT (setP p t x).1) : resS p t x = ((setP p t x).1, 0) := by unfold resS; rw [if_pos h, if_neg (by simp [h2]), if_pos h3]
theorem resS_long {p : List S} {t x : T} (h : pathOk p = true ∧ OkT t ∧ OkT x) (h2 : (setP p t x).2 = 0) (h3 : ¬ OkT (setP p t x).1) : resS p t x = (T0, 4) := by unfold resS; rw [if_pos h, if_neg (by simp [h2]), if_neg h3]
theorem pathOk_all {p : List S} (h : pathOk p = true) : p.length ≤ 16 ∧ ∀ s ∈ p, stepOk s = true := by
  unfold pathOk at h
  simp only [Bool.and_eq_true, decide_eq_true_eq, List.all_eq_true] at h
  exact h

set_option maxHeartbeats 8000000 in
set_option maxRecDepth 4000 in
theorem pathSet_any (p : List S) (v : Value) (w : World) (hp : Stps w v p) (hn : p.length ≤ 10000) (c cx : VC) (t x : T) (hI : Is w c t) (hX : Is w cx x) : Calls Tryz.prog 39 #[c.val, v, cx.val] w (QSt w p t x) := by
  obtain ⟨ao, cp, rfl, -, -⟩ := Stps.form hp
  obtain ⟨ck, cn, cs, la, ln, lc, fa, fn, fc⟩ := c
  obtain ⟨xk, xn, xs, xla, xln, xlc, xfa, xfn, xfc⟩ := cx
  show Calls Tryz.prog 39 #[.agg #[.int .i64 ck, .int .i64 cn, sV cs, .slice la ln lc, .slice fa fn fc], .slice ao p.length cp, .agg #[.int .i64 xk, .int .i64 xn, sV xs, .slice xla xln xlc, .slice xfa xfn xfc]] w _
  have hb0 : Below w.heap.size w (((w.alloc (.cells #[.int .i64 ck, .int .i64 cn, sV cs, .slice la ln lc, .slice fa fn fc] 25)).alloc (.cells #[.int .i64 xk, .int .i64 xn, sV xs, .slice xla xln xlc, .slice xfa xfn xfc] 25)).alloc (.cells #[.int .i64 0, .int .i64 0, .string ⟨#[]⟩, .slice none 0 0, .slice none 0 0] 25)) := (((Below.refl _ _).alloc (Nat.le_refl _) _).alloc (by simp) _).alloc (by simp; omega) _
  have oB : Own (((w.alloc (.cells #[.int .i64 ck, .int .i64 cn, sV cs, .slice la ln lc, .slice fa fn fc] 25)).alloc (.cells #[.int .i64 xk, .int .i64 xn, sV xs, .slice xla xln xlc, .slice xfa xfn xfc] 25)).alloc (.cells #[.int .i64 0, .int .i64 0, .string ⟨#[]⟩, .slice none 0 0, .slice none 0 0] 25)) w.heap.size [.int .i64 ck, .int .i64 cn, sV cs, .slice la ln lc, .slice fa fn fc] 25 := ((Own.new _ _ _).alloc _).alloc _
  have oX : Own (((w.alloc (.cells #[.int .i64 ck, .int .i64 cn, sV cs, .slice la ln lc, .slice fa fn fc] 25)).alloc (.cells #[.int .i64 xk, .int .i64 xn, sV xs, .slice xla xln xlc, .slice xfa xfn xfc] 25)).alloc (.cells #[.int .i64 0, .int .i64 0, .string ⟨#[]⟩, .slice none 0 0, .slice none 0 0] 25)) (w.heap.size + 1) [.int .i64 xk, .int .i64 xn, sV xs, .slice xla xln xlc, .slice xfa xfn xfc] 25 := (Own.new_at (by rw [size_alloc]) _ _).alloc _
  have oR : Own (((w.alloc (.cells #[.int .i64 ck, .int .i64 cn, sV cs, .slice la ln lc, .slice fa fn fc] 25)).alloc (.cells #[.int .i64 xk, .int .i64 xn, sV xs, .slice xla xln xlc, .slice xfa xfn xfc] 25)).alloc (.cells #[.int .i64 0, .int .i64 0, .string ⟨#[]⟩, .slice none 0 0, .slice none 0 0] 25)) (w.heap.size + 1 + 1) [.int .i64 0, .int .i64 0, .string ⟨#[]⟩, .slice none 0 0, .slice none 0 0] 25 := Own.new_at (by rw [size_alloc, size_alloc]) _ _
  have HIX := Lib.hid (And.intro hI (And.intro hX hp))
  go_enter Tryz.func39, Tryz.ntmps39
  go_upto_region 1 with (fail)
  change Code.wp Tryz.prog _ _ _ (((w.alloc (.cells #[.int .i64 ck, .int .i64 cn, sV cs, .slice la ln lc, .slice fa fn fc] 25)).alloc (.cells #[.int .i64 xk, .int .i64 xn, sV xs, .slice xla xln xlc, .slice xfa xfn xfc] 25)).alloc (.cells #[.int .i64 0, .int .i64 0, .string ⟨#[]⟩, .slice none 0 0, .slice none 0 0] 25))
  generalize (((w.alloc (.cells #[.int .i64 ck, .int .i64 cn, sV cs, .slice la ln lc, .slice fa fn fc] 25)).alloc (.cells #[.int .i64 xk, .int .i64 xn, sV xs, .slice xla xln xlc, .slice xfa xfn xfc] 25)).alloc (.cells #[.int .i64 0, .int .i64 0, .string ⟨#[]⟩, .slice none 0 0, .slice none 0 0] 25)) = V at *
  have HA := Lib.hid (And.intro hb0 (And.intro oR (And.intro oX oB)))
  have hVs : w.heap.size + 1 + 1 < V.heap.size := oR.lt
  clear oX oR oB hI hX hp hb0
  have C := Lib.hid (pathValid_any _ p V (Flat.all HIX.out.2.2 HA.out.1) (by omega))
  go_wp2_with fail
  refine C.out.mono ?_
  rintro e V1 ⟨rfl, hb1⟩
  clear C
  have HA1 := Lib.hid (And.intro (below_all HA.out.1 hb1) (And.intro (HA.out.2.1.all hb1) (And.intro (HA.out.2.2.1.all hb1) (HA.out.2.2.2.all hb1))))
  have hVs1 := hb1.size
  clear HA hb1
  cases hok : pathOk p
  · have HF : Hid (resS p t x = (T0, 1)) := Lib.hid (resS_bad (fun h => by rw [hok] at h; cases h.1))
    have oFin := HA1.out.2.1
    have q0 := oFin.cell (i := 0) rfl
    have q1 := oFin.cell (i := 1) rfl
    have q2 := oFin.cell (i := 2) rfl
    have q3 := oFin.cell (i := 3) rfl
    have q4 := oFin.cell (i := 4) rfl
    have g0 := oFin.frozen 0
    have g1 := oFin.frozen 1
    have g2 := oFin.frozen 2
    have g3 := oFin.frozen 3
    have g4 := oFin.frozen 4
    have HU := Lib.hid (And.intro (own_put5 oFin (.int .i64 0) (.int .i64 0) (.string ⟨#[]⟩) (.slice none 0 0) (.slice none 0 0)) (below_put5 (b := w.heap.size + 1 + 1) HA1.out.1 (by omega) (.int .i64 0) (.int .i64 0) (.string ⟨#[]⟩) (.slice none 0 0) (.slice none 0 0)))
    clear oFin
    go_wp2
    clear q0 q1 q2 q3 q4 g0 g1 g2 g3 g4
    change bodyPost Tryz.prog Tryz.f39 _ _ _ (put5 V1 (w.heap.size + 1 + 1) (.int .i64 0) (.int .i64 0) (.string ⟨#[]⟩) (.slice none 0 0) (.slice none 0 0))
    generalize put5 V1 (w.heap.size + 1 + 1) (.int .i64 0) (.int .i64 0) (.string ⟨#[]⟩) (.slice none 0 0) (.slice none 0 0) = U at *
    have c0 := HU.out.1.cell (i := 0) rfl
    have c1 := HU.out.1.cell (i := 1) rfl
    have c2 := HU.out.1.cell (i := 2) rfl
    have c3 := HU.out.1.cell (i := 3) rfl
    have c4 := HU.out.1.cell (i := 4) rfl
    exact bodyPost_ret (v := .tuple #[.agg #[.int .i64 0, .int .i64 0, .string ⟨#[]⟩, .slice none 0 0, .slice none 0 0], .int .i64 1]) (by simp [results, Tryz.results39, go_sem, c0, c1, c2, c3, c4]) rfl ⟨HU.out.2, VC0, by rw [HF.out]; rfl, by rw [HF.out]; exact isA_zero _ _⟩
  have b0 := HA1.out.2.2.2.cell (i := 0) rfl
  have b1 := HA1.out.2.2.2.cell (i := 1) rfl
  have b2 := HA1.out.2.2.2.cell (i := 2) rfl
  have b3 := HA1.out.2.2.2.cell (i := 3) rfl
  have b4 := HA1.out.2.2.2.cell (i := 4) rfl
  have C := Lib.hid (valid_any t ⟨ck, cn, cs, la, ln, lc, fa, fn, fc⟩ V1 (HIX.out.1.all HA1.out.1))
  go_wp2_with fail
  refine C.out.mono ?_
  rintro e V2 hrb
  obtain ⟨r, rfl, hb2, hr⟩ := hrb.out
  have HA2 := Lib.hid (And.intro (below_all HA1.out.1 hb2) (And.intro (HA1.out.2.1.all hb2) (And.intro (HA1.out.2.2.1.all hb2) (HA1.out.2.2.2.all hb2))))
  have hVs2 := hb2.size
  have HR := Lib.hid (And.intro hok hr)
  clear C HA1 hb2 hrb hr hok b0 b1 b2 b3 b4
  cases r with
  | false =>
    have HF : Hid (resS p t x = (T0, 1)) := Lib.hid (resS_bad (fun h => by have := HR.out.2.2 h.2.1; cases this))
    have oFin := HA2.out.2.1
    have q0 := oFin.cell (i := 0) rfl
    have q1 := oFin.cell (i := 1) rfl
    have q2 := oFin.cell (i := 2) rfl
    have q3 := oFin.cell (i := 3) rfl
    have q4 := oFin.cell (i := 4) rfl
    have g0 := oFin.frozen 0
    have g1 := oFin.frozen 1
    have g2 := oFin.frozen 2
    have g3 := oFin.frozen 3
    have g4 := oFin.frozen 4
    have HU := Lib.hid (And.intro (own_put5 oFin (.int .i64 0) (.int .i64 0) (.string ⟨#[]⟩) (.slice none 0 0) (.slice none 0 0)) (below_put5 (b := w.heap.size + 1 + 1) HA2.out.1 (by omega) (.int .i64 0) (.int .i64 0) (.string ⟨#[]⟩) (.slice none 0 0) (.slice none 0 0)))
    clear oFin
    go_wp2
    clear q0 q1 q2 q3 q4 g0 g1 g2 g3 g4
    change bodyPost Tryz.prog Tryz.f39 _ _ _ (put5 V2 (w.heap.size + 1 + 1) (.int .i64 0) (.int .i64 0) (.string ⟨#[]⟩) (.slice none 0 0) (.slice none 0 0))
    generalize put5 V2 (w.heap.size + 1 + 1) (.int .i64 0) (.int .i64 0) (.string ⟨#[]⟩) (.slice none 0 0) (.slice none 0 0) = U at *
    have c0 := HU.out.1.cell (i := 0) rfl
    have c1 := HU.out.1.cell (i := 1) rfl
    have c2 := HU.out.1.cell (i := 2) rfl
    have c3 := HU.out.1.cell (i := 3) rfl
    have c4 := HU.out.1.cell (i := 4) rfl
    exact bodyPost_ret (v := .tuple #[.agg #[.int .i64 0, .int .i64 0, .string ⟨#[]⟩, .slice none 0 0, .slice none 0 0], .int .i64 1]) (by simp [results, Tryz.results39, go_sem, c0, c1, c2, c3, c4]) rfl ⟨HU.out.2, VC0, by rw [HF.out]; rfl, by rw [HF.out]; exact isA_zero _ _⟩
  | true =>
    have x0 := HA2.out.2.2.1.cell (i := 0) rfl
    have x1 := HA2.out.2.2.1.cell (i := 1) rfl
    have x2 := HA2.out.2.2.1.cell (i := 2) rfl
    have x3 := HA2.out.2.2.1.cell (i := 3) rfl
    have x4 := HA2.out.2.2.1.cell (i := 4) rfl
    have C := Lib.hid (valid_any x ⟨xk, xn, xs, xla, xln, xlc, xfa, xfn, xfc⟩ V2 (HIX.out.2.1.all HA2.out.1))
    go_wp2_with fail
    refine C.out.mono ?_
    rintro e V3 hrb
    obtain ⟨r, rfl, hb3, hr⟩ := hrb.out
    have HA3 := Lib.hid (And.intro (below_all HA2.out.1 hb3) (And.intro (HA2.out.2.1.all hb3) (And.intro (HA2.out.2.2.1.all hb3) (HA2.out.2.2.2.all hb3))))
    have hVs3 := hb3.size
    have HR2 := Lib.hid hr
    clear C HA2 hb3 hrb hr x0 x1 x2 x3 x4
    cases r with
    | false =>
      have HF : Hid (resS p t x = (T0, 1)) := Lib.hid (resS_bad (fun h => by have := HR2.out.2 h.2.2; cases this))
      have oFin := HA3.out.2.1
      have q0 := oFin.cell (i := 0) rfl
      have q1 := oFin.cell (i := 1) rfl
      have q2 := oFin.cell (i := 2) rfl
      have q3 := oFin.cell (i := 3) rfl
      have q4 := oFin.cell (i := 4) rfl
      have g0 := oFin.frozen 0
      have g1 := oFin.frozen 1
      have g2 := oFin.frozen 2
      have g3 := oFin.frozen 3
      have g4 := oFin.frozen 4
      have HU := Lib.hid (And.intro (own_put5 oFin (.int .i64 0) (.int .i64 0) (.string ⟨#[]⟩) (.slice none 0 0) (.slice none 0 0)) (below_put5 (b := w.heap.size + 1 + 1) HA3.out.1 (by omega) (.int .i64 0) (.int .i64 0) (.string ⟨#[]⟩) (.slice none 0 0) (.slice none 0 0)))
      clear oFin
      go_wp2
      clear q0 q1 q2 q3 q4 g0 g1 g2 g3 g4
      change bodyPost Tryz.prog Tryz.f39 _ _ _ (put5 V3 (w.heap.size + 1 + 1) (.int .i64 0) (.int .i64 0) (.string ⟨#[]⟩) (.slice none 0 0) (.slice none 0 0))
      generalize put5 V3 (w.heap.size + 1 + 1) (.int .i64 0) (.int .i64 0) (.string ⟨#[]⟩) (.slice none 0 0) (.slice none 0 0) = U at *
      have c0 := HU.out.1.cell (i := 0) rfl
      have c1 := HU.out.1.cell (i := 1) rfl
      have c2 := HU.out.1.cell (i := 2) rfl
      have c3 := HU.out.1.cell (i := 3) rfl
      have c4 := HU.out.1.cell (i := 4) rfl
      exact bodyPost_ret (v := .tuple #[.agg #[.int .i64 0, .int .i64 0, .string ⟨#[]⟩, .slice none 0 0, .slice none 0 0], .int .i64 1]) (by simp [results, Tryz.results39, go_sem, c0, c1, c2, c3, c4]) rfl ⟨HU.out.2, VC0, by rw [HF.out]; rfl, by rw [HF.out]; exact isA_zero _ _⟩
    | true =>
      have HOK : Hid (pathOk p = true ∧ OkT t ∧ OkT x) := Lib.hid ⟨HR.out.1, HR.out.2.1 (by first | rfl | trivial), HR2.out.1 (by first | rfl | trivial)⟩
      have hpa := pathOk_all HR.out.1
      have C := Lib.hid (setBelow_any p _ V3 (Flat.all HIX.out.2.2 HA3.out.1) ⟨ck, cn, cs, la, ln, lc, fa, fn, fc⟩ ⟨xk, xn, xs, xla, xln, xlc, xfa, xfn, xfc⟩ t x (HIX.out.1.all HA3.out.1) (HIX.out.2.1.all HA3.out.1) (by have := HOK.out.2.1.2; omega) (by have := HOK.out.2.2.2; omega) (by have := hpa.1; omega) hpa.2)
      clear hpa
      have b0 := HA3.out.2.2.2.cell (i := 0) rfl
      have b1 := HA3.out.2.2.2.cell (i := 1) rfl
      have b2 := HA3.out.2.2.2.cell (i := 2) rfl
      have b3 := HA3.out.2.2.2.cell (i := 3) rfl
      have b4 := HA3.out.2.2.2.cell (i := 4) rfl
      have x0 := HA3.out.2.2.1.cell (i := 0) rfl
      have x1 := HA3.out.2.2.1.cell (i := 1) rfl
      have x2 := HA3.out.2.2.1.cell (i := 2) rfl
      have x3 := HA3.out.2.2.1.cell (i := 3) rfl
      have x4 := HA3.out.2.2.1.cell (i := 4) rfl
      go_wp2_with fail
      refine C.out.mono ?_
      rintro e V4 hres
      obtain ⟨⟨rk, rn, rs, rla, rln, rlc, rfa, rfn, rfc⟩, rfl, hN⟩ := hres.out
      have hb4 := hres.below
      have hbl := below_alloc V4 (.cells #[.int .i64 rk, .int .i64 rn, sV rs, .slice rla rln rlc, .slice rfa rfn rfc] 25)
      have oN := Own.new V4 [.int .i64 rk, .int .i64 rn, sV rs, .slice rla rln rlc, .slice rfa rfn rfc] 25
      have HA4 := Lib.hid (And.intro (below_all (below_all HA3.out.1 hb4) hbl) (And.intro ((HA3.out.2.1.all hb4).all hbl) oN))
      have HNI := Lib.hid (hN.all hbl)
      have hVs4 := hb4.size
      have hbls := hbl.size
      clear C HA3 hres hb4 hbl oN hN b0 b1 b2 b3 b4 x0 x1 x2 x3 x4
      have HSE : Hid ((setP p t x).1 = (setP p t x).1 ∧ (setP p t x).2 = (setP p t x).2) := Lib.hid ⟨rfl, rfl⟩
      have HER := Lib.hid (fun h2 : ¬ (setP p t x).2 = 0 => resS_er HOK.out h2)
      have HLO := Lib.hid (fun (h2 : (setP p t x).2 = 0) (h3 : ¬ OkT (setP p t x).1) => resS_long HOK.out h2 h3)
      have HKO := Lib.hid (fun (h2 : (setP p t x).2 = 0) (h3 : OkT (setP p t x).1) => resS_ok HOK.out h2 h3)
      clear HSE
      generalize (setP p t x).1 = Rt at *
      generalize (setP p t x).2 = E at *
      go_upto_region 4 with (fail)
      change Code.wp Tryz.prog _ _ _ (V4.alloc (.cells #[.int .i64 rk, .int .i64 rn, sV rs, .slice rla rln rlc, .slice rfa rfn rfc] 25))
      generalize V4.alloc (.cells #[.int .i64 rk, .int .i64 rn, sV rs, .slice rla rln rlc, .slice rfa rfn rfc] 25) = V5 at *
      generalize V4.heap.size = nb at *
      by_cases hE : ¬ E = 0
      · have HF : Hid (resS p t x = (T0, E)) := Lib.hid (HER.out hE)
        have hne : (E != 0) = true := by simpa using hE
        have oFin := HA4.out.2.1
        have q0 := oFin.cell (i := 0) rfl
        have q1 := oFin.cell (i := 1) rfl
        have q2 := oFin.cell (i := 2) rfl
        have q3 := oFin.cell (i := 3) rfl
        have q4 := oFin.cell (i := 4) rfl
        have g0 := oFin.frozen 0
        have g1 := oFin.frozen 1
        have g2 := oFin.frozen 2
        have g3 := oFin.frozen 3
        have g4 := oFin.frozen 4
        have HU := Lib.hid (And.intro (own_put5 oFin (.int .i64 0) (.int .i64 0) (.string ⟨#[]⟩) (.slice none 0 0) (.slice none 0 0)) (below_put5 (b := w.heap.size + 1 + 1) HA4.out.1 (by omega) (.int .i64 0) (.int .i64 0) (.string ⟨#[]⟩) (.slice none 0 0) (.slice none 0 0)))
        clear oFin
        go_wp2
        clear q0 q1 q2 q3 q4 g0 g1 g2 g3 g4
        change bodyPost Tryz.prog Tryz.f39 _ _ _ (put5 V5 (w.heap.size + 1 + 1) (.int .i64 0) (.int .i64 0) (.string ⟨#[]⟩) (.slice none 0 0) (.slice none 0 0))
        generalize put5 V5 (w.heap.size + 1 + 1) (.int .i64 0) (.int .i64 0) (.string ⟨#[]⟩) (.slice none 0 0) (.slice none 0 0) = U at *
        have c0 := HU.out.1.cell (i := 0) rfl
        have c1 := HU.out.1.cell (i := 1) rfl
        have c2 := HU.out.1.cell (i := 2) rfl
        have c3 := HU.out.1.cell (i := 3) rfl
        have c4 := HU.out.1.cell (i := 4) rfl
        exact bodyPost_ret (v := .tuple #[.agg #[.int .i64 0, .int .i64 0, .string ⟨#[]⟩, .slice none 0 0, .slice none 0 0], .int .i64 E]) (by simp [results, Tryz.results39, go_sem, c0, c1, c2, c3, c4]) rfl ⟨HU.out.2, VC0, by rw [HF.out]; rfl, by rw [HF.out]; exact isA_zero _ _⟩
      have hE2 : E = 0 := by omega
      clear hE
      subst hE2
      have C := Lib.hid (valid_any Rt ⟨rk, rn, rs, rla, rln, rlc, rfa, rfn, rfc⟩ V5 HNI.out.is)
      have n0 := HA4.out.2.2.cell (i := 0) rfl
      have n1 := HA4.out.2.2.cell (i := 1) rfl
      have n2 := HA4.out.2.2.cell (i := 2) rfl
      have n3 := HA4.out.2.2.cell (i := 3) rfl
      have n4 := HA4.out.2.2.cell (i := 4) rfl
      go_wp2_with fail
      refine C.out.mono ?_
      rintro e V6 hrb
      obtain ⟨r, rfl, hb6, hr⟩ := hrb.out
      have HA6 := Lib.hid (And.intro (below_all HA4.out.1 hb6) (And.intro (HA4.out.2.1.all hb6) (And.intro (HA4.out.2.2.all hb6) (HNI.out.all hb6))))
      have hVs6 := hb6.size
      have HR6 := Lib.hid hr
      clear C HA4 HNI hb6 hrb hr n0 n1 n2 n3 n4
      cases r with
      | false =>
        have HF : Hid (resS p t x = (T0, 4)) := Lib.hid (HLO.out (by first | rfl | trivial) (fun h => by have := HR6.out.2 h; cases this))
        have oFin := HA6.out.2.1
        have q0 := oFin.cell (i := 0) rfl
        have q1 := oFin.cell (i := 1) rfl
        have q2 := oFin.cell (i := 2) rfl
        have q3 := oFin.cell (i := 3) rfl
        have q4 := oFin.cell (i := 4) rfl
        have g0 := oFin.frozen 0
        have g1 := oFin.frozen 1
        have g2 := oFin.frozen 2
        have g3 := oFin.frozen 3
        have g4 := oFin.frozen 4
        have HU := Lib.hid (And.intro (own_put5 oFin (.int .i64 0) (.int .i64 0) (.string ⟨#[]⟩) (.slice none 0 0) (.slice none 0 0)) (below_put5 (b := w.heap.size + 1 + 1) HA6.out.1 (by omega) (.int .i64 0) (.int .i64 0) (.string ⟨#[]⟩) (.slice none 0 0) (.slice none 0 0)))
        clear oFin
        go_wp2
        clear q0 q1 q2 q3 q4 g0 g1 g2 g3 g4
        change bodyPost Tryz.prog Tryz.f39 _ _ _ (put5 V6 (w.heap.size + 1 + 1) (.int .i64 0) (.int .i64 0) (.string ⟨#[]⟩) (.slice none 0 0) (.slice none 0 0))
        generalize put5 V6 (w.heap.size + 1 + 1) (.int .i64 0) (.int .i64 0) (.string ⟨#[]⟩) (.slice none 0 0) (.slice none 0 0) = U at *
        have c0 := HU.out.1.cell (i := 0) rfl
        have c1 := HU.out.1.cell (i := 1) rfl
        have c2 := HU.out.1.cell (i := 2) rfl
        have c3 := HU.out.1.cell (i := 3) rfl
        have c4 := HU.out.1.cell (i := 4) rfl
        exact bodyPost_ret (v := .tuple #[.agg #[.int .i64 0, .int .i64 0, .string ⟨#[]⟩, .slice none 0 0, .slice none 0 0], .int .i64 4]) (by simp [results, Tryz.results39, go_sem, c0, c1, c2, c3, c4]) rfl ⟨HU.out.2, VC0, by rw [HF.out]; rfl, by rw [HF.out]; exact isA_zero _ _⟩
      | true =>
        have HF : Hid (resS p t x = (Rt, 0)) := Lib.hid (HKO.out (by first | rfl | trivial) (HR6.out.1 (by first | rfl | trivial)))
        have n0 := HA6.out.2.2.1.cell (i := 0) rfl
        have n1 := HA6.out.2.2.1.cell (i := 1) rfl
        have n2 := HA6.out.2.2.1.cell (i := 2) rfl
        have n3 := HA6.out.2.2.1.cell (i := 3) rfl
        have n4 := HA6.out.2.2.1.cell (i := 4) rfl
        have oFin := HA6.out.2.1
        have q0 := oFin.cell (i := 0) rfl
        have q1 := oFin.cell (i := 1) rfl
        have q2 := oFin.cell (i := 2) rfl
        have q3 := oFin.cell (i := 3) rfl
        have q4 := oFin.cell (i := 4) rfl
        have g0 := oFin.frozen 0
        have g1 := oFin.frozen 1
        have g2 := oFin.frozen 2
        have g3 := oFin.frozen 3
        have g4 := oFin.frozen 4
        have HU := Lib.hid (And.intro (own_put5 oFin (.int .i64 rk) (.int .i64 rn) (sV rs) (.slice rla rln rlc) (.slice rfa rfn rfc)) (And.intro (below_put5 (b := w.heap.size + 1 + 1) HA6.out.1 (by omega) (.int .i64 rk) (.int .i64 rn) (sV rs) (.slice rla rln rlc) (.slice rfa rfn rfc)) (HA6.out.2.2.2.put5 (b := w.heap.size + 1 + 1) (by omega) (.int .i64 rk) (.int .i64 rn) (sV rs) (.slice rla rln rlc) (.slice rfa rfn rfc))))
        clear oFin
        go_wp2
        clear q0 q1 q2 q3 q4 g0 g1 g2 g3 g4
        change bodyPost Tryz.prog Tryz.f39 _ _ _ (put5 V6 (w.heap.size + 1 + 1) (.int .i64 rk) (.int .i64 rn) (sV rs) (.slice rla rln rlc) (.slice rfa rfn rfc))
        generalize put5 V6 (w.heap.size + 1 + 1) (.int .i64 rk) (.int .i64 rn) (sV rs) (.slice rla rln rlc) (.slice rfa rfn rfc) = U at *
        have c0 := HU.out.1.cell (i := 0) rfl
        have c1 := HU.out.1.cell (i := 1) rfl
        have c2 := HU.out.1.cell (i := 2) rfl
        have c3 := HU.out.1.cell (i := 3) rfl
        have c4 := HU.out.1.cell (i := 4) rfl
        exact bodyPost_ret (v := .tuple #[.agg #[.int .i64 rk, .int .i64 rn, sV rs, .slice rla rln rlc, .slice rfa rfn rfc], .int .i64 0]) (by simp [results, Tryz.results39, go_sem, c0, c1, c2, c3, c4]) rfl ⟨HU.out.2.1, ⟨rk, rn, rs, rla, rln, rlc, rfa, rfn, rfc⟩, by rw [HF.out], by rw [HF.out]; exact HU.out.2.2.mono (fun b hb => by omega)⟩
end Go.Proofs.YtjpmnlefjmdelaaGreatDoor
