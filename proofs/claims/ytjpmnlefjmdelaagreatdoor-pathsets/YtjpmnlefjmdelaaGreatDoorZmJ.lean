/- The reference's put. The reference's Set, out of its put. The law PathSets. -/
import Derived.Test.YtjpmnlefjmdelaaGreatDoorZhJ
import Derived.Test.YtjpmnlefjmdelaaGreatDoorEcJ
import Derived.Test.YtjpmnlefjmdelaaGreatDoorYrJ
import Derived.Test.YtjpmnlefjmdelaaGreatDoorZe
import Derived.Test.YtjpmnlefjmdelaaGreatDoorYcJ
import Derived.Test.YtjpmnlefjmdelaaGreatDoorXtJ
import Derived.Test.YtjpmnlefjmdelaaGreatDoorYo
import Derived.Test.YtjpmnlefjmdelaaGreatDoorYe
import Derived.Test.YtjpmnlefjmdelaaGreatDoorXzJ
import Derived.Test.YtjpmnlefjmdelaaGreatDoorYb
set_option linter.unusedSimpArgs false
set_option linter.unusedVariables false
namespace Go.Proofs.YtjpmnlefjmdelaaGreatDoor
open Go.RowKit Go.Sort Go.Proofs.LawFrame

structure QPu (w : World) (A : Nat → Prop) (p : List S) (t x : T) (e : Ending) (w' : World) : Prop where
  below : Below w.heap.size w w'
  out : ∃ c' : VC, e = .returned (.tuple #[c'.val, .int .i64 (setP p t x).2]) ∧ IsA w' (fun b => A b ∨ w.heap.size ≤ b) c' (setP p t x).1

set_option maxHeartbeats 64000000 in
set_option maxRecDepth 4000 in
theorem pput_any : ∀ (p : List S) (v : Value) (w : World), Stps w v p → ∀ (A : Nat → Prop), (∀ b, A b → b < w.heap.size) → ∀ (c cx : VC) (t x : T), IsA w A c t → IsA w A cx x → t.size ≤ 700 → x.size ≤ 700 → p.length ≤ 100 → (∀ s ∈ p, stepOk s = true) →
    Calls Tryz.prog 81 #[c.val, v, cx.val] w (QPu w A p t x) := by
  intro p
  induction p with
  | nil =>
    intro v w hp A hA c cx t x hI hX hz hzx hpl hall
    obtain ⟨ao, cp, rfl, -, -⟩ := Stps.form hp
    obtain ⟨ck, cn, cs, la, ln, lc, fa, fn, fc⟩ := c
    obtain ⟨xk, xn, xs, xla, xln, xlc, xfa, xfn, xfc⟩ := cx
    show Calls Tryz.prog 81 #[.agg #[.int .i64 ck, .int .i64 cn, sV cs, .slice la ln lc, .slice fa fn fc], .slice ao 0 cp, .agg #[.int .i64 xk, .int .i64 xn, sV xs, .slice xla xln xlc, .slice xfa xfn xfc]] w _
    have hb0 : Below w.heap.size w (((w.alloc (.cells #[.int .i64 ck, .int .i64 cn, sV cs, .slice la ln lc, .slice fa fn fc] 25)).alloc (.cells #[.int .i64 xk, .int .i64 xn, sV xs, .slice xla xln xlc, .slice xfa xfn xfc] 25)).alloc (.cells #[.int .i64 0, .int .i64 0, .string ⟨#[]⟩, .slice none 0 0, .slice none 0 0] 25)) := (((Below.refl _ _).alloc (Nat.le_refl _) _).alloc (by simp) _).alloc (by simp; omega) _
    have HS := Lib.hid (show Below w.heap.size w (((w.alloc (.cells #[.int .i64 ck, .int .i64 cn, sV cs, .slice la ln lc, .slice fa fn fc] 25)).alloc (.cells #[.int .i64 xk, .int .i64 xn, sV xs, .slice xla xln xlc, .slice xfa xfn xfc] 25)).alloc (.cells #[.int .i64 0, .int .i64 0, .string ⟨#[]⟩, .slice none 0 0, .slice none 0 0] 25)) ∧ Own (((w.alloc (.cells #[.int .i64 ck, .int .i64 cn, sV cs, .slice la ln lc, .slice fa fn fc] 25)).alloc (.cells #[.int .i64 xk, .int .i64 xn, sV xs, .slice xla xln xlc, .slice xfa xfn xfc] 25)).alloc (.cells #[.int .i64 0, .int .i64 0, .string ⟨#[]⟩, .slice none 0 0, .slice none 0 0] 25)) (w.heap.size + 1) [.int .i64 xk, .int .i64 xn, sV xs, .slice xla xln xlc, .slice xfa xfn xfc] 25 ∧ Own (((w.alloc (.cells #[.int .i64 ck, .int .i64 cn, sV cs, .slice la ln lc, .slice fa fn fc] 25)).alloc (.cells #[.int .i64 xk, .int .i64 xn, sV xs, .slice xla xln xlc, .slice xfa xfn xfc] 25)).alloc (.cells #[.int .i64 0, .int .i64 0, .string ⟨#[]⟩, .slice none 0 0, .slice none 0 0] 25)) (w.heap.size + 1 + 1) [.int .i64 0, .int .i64 0, .string ⟨#[]⟩, .slice none 0 0, .slice none 0 0] 25 ∧ IsA (((w.alloc (.cells #[.int .i64 ck, .int .i64 cn, sV cs, .slice la ln lc, .slice fa fn fc] 25)).alloc (.cells #[.int .i64 xk, .int .i64 xn, sV xs, .slice xla xln xlc, .slice xfa xfn xfc] 25)).alloc (.cells #[.int .i64 0, .int .i64 0, .string ⟨#[]⟩, .slice none 0 0, .slice none 0 0] 25)) A ⟨xk, xn, xs, xla, xln, xlc, xfa, xfn, xfc⟩ x from ⟨hb0, (Own.new_at (by rw [size_alloc]) _ _).alloc _, Own.new_at (by rw [size_alloc, size_alloc]) _ _, hX.all hb0⟩)
    have HAA := Lib.hid hA
    clear hI hX hp hb0 hA
    go_enter Tryz.func81, Tryz.ntmps81
    go_upto_region 1 with (fail)
    change Code.wp Tryz.prog _ _ _ (((w.alloc (.cells #[.int .i64 ck, .int .i64 cn, sV cs, .slice la ln lc, .slice fa fn fc] 25)).alloc (.cells #[.int .i64 xk, .int .i64 xn, sV xs, .slice xla xln xlc, .slice xfa xfn xfc] 25)).alloc (.cells #[.int .i64 0, .int .i64 0, .string ⟨#[]⟩, .slice none 0 0, .slice none 0 0] 25))
    generalize (((w.alloc (.cells #[.int .i64 ck, .int .i64 cn, sV cs, .slice la ln lc, .slice fa fn fc] 25)).alloc (.cells #[.int .i64 xk, .int .i64 xn, sV xs, .slice xla xln xlc, .slice xfa xfn xfc] 25)).alloc (.cells #[.int .i64 0, .int .i64 0, .string ⟨#[]⟩, .slice none 0 0, .slice none 0 0] 25)) = V at *
    have x0 := HS.out.2.1.cell (i := 0) rfl
    have x1 := HS.out.2.1.cell (i := 1) rfl
    have x2 := HS.out.2.1.cell (i := 2) rfl
    have x3 := HS.out.2.1.cell (i := 3) rfl
    have x4 := HS.out.2.1.cell (i := 4) rfl
    have oFin := HS.out.2.2.1
    have q0 := oFin.cell (i := 0) rfl
    have q1 := oFin.cell (i := 1) rfl
    have q2 := oFin.cell (i := 2) rfl
    have q3 := oFin.cell (i := 3) rfl
    have q4 := oFin.cell (i := 4) rfl
    have g0 := oFin.frozen 0
    have g1 := oFin.frozen 1
    have g2 := oFin.frozen 2
    have g3 := oFin.frozen 3
    have g4 := oFin.frozen 4
    have HU := Lib.hid (And.intro (own_put5 oFin (.int .i64 xk) (.int .i64 xn) (sV xs) (.slice xla xln xlc) (.slice xfa xfn xfc)) (And.intro (below_put5 (b := w.heap.size + 1 + 1) HS.out.1 (by omega) (.int .i64 xk) (.int .i64 xn) (sV xs) (.slice xla xln xlc) (.slice xfa xfn xfc)) (HS.out.2.2.2.put5 (b := w.heap.size + 1 + 1) (fun h => by have := HAA.out _ h; omega) (.int .i64 xk) (.int .i64 xn) (sV xs) (.slice xla xln xlc) (.slice xfa xfn xfc))))
    clear oFin
    go_wp2
    clear q0 q1 q2 q3 q4 g0 g1 g2 g3 g4
    change bodyPost Tryz.prog Tryz.f81 _ _ _ (put5 V (w.heap.size + 1 + 1) (.int .i64 xk) (.int .i64 xn) (sV xs) (.slice xla xln xlc) (.slice xfa xfn xfc))
    generalize put5 V (w.heap.size + 1 + 1) (.int .i64 xk) (.int .i64 xn) (sV xs) (.slice xla xln xlc) (.slice xfa xfn xfc) = U at *
    have c0 := HU.out.1.cell (i := 0) rfl
    have c1 := HU.out.1.cell (i := 1) rfl
    have c2 := HU.out.1.cell (i := 2) rfl
    have c3 := HU.out.1.cell (i := 3) rfl
    have c4 := HU.out.1.cell (i := 4) rfl
    exact bodyPost_ret (v := .tuple #[.agg #[.int .i64 xk, .int .i64 xn, sV xs, .slice xla xln xlc, .slice xfa xfn xfc], .int .i64 0]) (by simp [results, Tryz.results81, go_sem, c0, c1, c2, c3, c4]) rfl ⟨HU.out.2.1, ⟨xk, xn, xs, xla, xln, xlc, xfa, xfn, xfc⟩, rfl, HU.out.2.2.mono (fun b h => Or.inl h)⟩
  | cons s p ih =>
    intro v w hp A hA c cx t x hI hX hz hzx hpl hall
    have IH := Lib.hid ih
    clear ih
    obtain ⟨ao, cp, rfl, hcp, hcm⟩ := Stps.form hp
    unfold maxLen at hcm
    simp only [List.length_cons] at hcp
    have hcp1 : 1 ≤ cp := by omega
    obtain ⟨pb, off, rfl⟩ : ∃ pb off, ao = some ⟨pb, off, none⟩ := by
      obtain ⟨ao', cap', h1, h2, h3, h4⟩ := hp.out
      cases h1
      obtain ⟨b', off', h5, -⟩ := h4 (by simp)
      exact ⟨b', off', h5⟩
    obtain ⟨sk, sn, si, sv⟩ := s
    obtain ⟨ck, cn, cs, l, f⟩ := t
    obtain ⟨ck', cn', cs', la, ln, lc, fa, fn, fc⟩ := c
    obtain ⟨rfl, rfl, rfl⟩ : ck = ck' ∧ cn = cn' ∧ cs = cs' := ⟨hI.same.1.symm, hI.same.2.1.symm, hI.same.2.2.symm⟩
    obtain ⟨xk, xn, xs, xla, xln, xlc, xfa, xfn, xfc⟩ := cx
    have HTL := Lib.hid hp.tailIf
    have HI := Lib.hid hI
    have HX := Lib.hid hX
    have HSTK := Lib.hid (stepOk_ix (hall ⟨sk, sn, si, sv⟩ (by simp)))
    have HALL := Lib.hid (fun q (hq : q ∈ p) => hall q (by simp [hq]))
    have HSOK := Lib.hid (hall ⟨sk, sn, si, sv⟩ (by simp))
    have HPN : Hid (p.length ≤ 100) := Lib.hid (by simp at hpl; omega)
    have HZ := Lib.hid (And.intro hz hzx)
    have HAA := Lib.hid hA
    have hls := size_lens (M := 700) hz
    have hsl := (Is.vals hI.is).slice
    have hsf := (Is.flds hI.is).slice
    simp only at hsl hsf
    obtain ⟨rfl, hlc, hlm⟩ := hsl
    obtain ⟨rfl, hfc, hfm⟩ := hsf
    unfold maxLen at hlm hfm
    have HLL : Hid (l.length ≤ 4000) := Lib.hid (by omega)
    clear hall hpl hA hI hX hz hzx
    have hpln : p.length + 1 ≤ cp := by omega
    clear hcp
    show Calls Tryz.prog 81 #[.agg #[.int .i64 ck, .int .i64 cn, sV cs, .slice la l.length lc, .slice fa f.length fc], .slice (some ⟨pb, off, none⟩) (p.length + 1) cp, .agg #[.int .i64 xk, .int .i64 xn, sV xs, .slice xla xln xlc, .slice xfa xfn xfc]] w _
    have hb0 : Below w.heap.size w (((w.alloc (.cells #[.int .i64 ck, .int .i64 cn, sV cs, .slice la l.length lc, .slice fa f.length fc] 25)).alloc (.cells #[.int .i64 xk, .int .i64 xn, sV xs, .slice xla xln xlc, .slice xfa xfn xfc] 25)).alloc (.cells #[.int .i64 0, .int .i64 0, .string ⟨#[]⟩, .slice none 0 0, .slice none 0 0] 25)) := (((Below.refl _ _).alloc (Nat.le_refl _) _).alloc (by simp) _).alloc (by simp; omega) _
    obtain ⟨pb', off', hao', hbl', q0, q1, q2, q3⟩ := Stps.at hp hb0 (i := 0) (s := ⟨sk, sn, si, sv⟩) rfl
    cases hao'
    simp only [Nat.zero_mul, Nat.add_zero] at q0 q1 q2 q3
    have hbS := below_all hb0 (below_alloc (((w.alloc (.cells #[.int .i64 ck, .int .i64 cn, sV cs, .slice la l.length lc, .slice fa f.length fc] 25)).alloc (.cells #[.int .i64 xk, .int .i64 xn, sV xs, .slice xla xln xlc, .slice xfa xfn xfc] 25)).alloc (.cells #[.int .i64 0, .int .i64 0, .string ⟨#[]⟩, .slice none 0 0, .slice none 0 0] 25)) (.cells #[.int .i64 sk, sV sn, .int .i64 si, sV sv] 52))
    have HW := Lib.hid (show Below w.heap.size w ((((w.alloc (.cells #[.int .i64 ck, .int .i64 cn, sV cs, .slice la l.length lc, .slice fa f.length fc] 25)).alloc (.cells #[.int .i64 xk, .int .i64 xn, sV xs, .slice xla xln xlc, .slice xfa xfn xfc] 25)).alloc (.cells #[.int .i64 0, .int .i64 0, .string ⟨#[]⟩, .slice none 0 0, .slice none 0 0] 25)).alloc (.cells #[.int .i64 sk, sV sn, .int .i64 si, sV sv] 52)) ∧ Own ((((w.alloc (.cells #[.int .i64 ck, .int .i64 cn, sV cs, .slice la l.length lc, .slice fa f.length fc] 25)).alloc (.cells #[.int .i64 xk, .int .i64 xn, sV xs, .slice xla xln xlc, .slice xfa xfn xfc] 25)).alloc (.cells #[.int .i64 0, .int .i64 0, .string ⟨#[]⟩, .slice none 0 0, .slice none 0 0] 25)).alloc (.cells #[.int .i64 sk, sV sn, .int .i64 si, sV sv] 52)) w.heap.size [.int .i64 ck, .int .i64 cn, sV cs, .slice la l.length lc, .slice fa f.length fc] 25 ∧ Own ((((w.alloc (.cells #[.int .i64 ck, .int .i64 cn, sV cs, .slice la l.length lc, .slice fa f.length fc] 25)).alloc (.cells #[.int .i64 xk, .int .i64 xn, sV xs, .slice xla xln xlc, .slice xfa xfn xfc] 25)).alloc (.cells #[.int .i64 0, .int .i64 0, .string ⟨#[]⟩, .slice none 0 0, .slice none 0 0] 25)).alloc (.cells #[.int .i64 sk, sV sn, .int .i64 si, sV sv] 52)) (w.heap.size + 1) [.int .i64 xk, .int .i64 xn, sV xs, .slice xla xln xlc, .slice xfa xfn xfc] 25 ∧ Own ((((w.alloc (.cells #[.int .i64 ck, .int .i64 cn, sV cs, .slice la l.length lc, .slice fa f.length fc] 25)).alloc (.cells #[.int .i64 xk, .int .i64 xn, sV xs, .slice xla xln xlc, .slice xfa xfn xfc] 25)).alloc (.cells #[.int .i64 0, .int .i64 0, .string ⟨#[]⟩, .slice none 0 0, .slice none 0 0] 25)).alloc (.cells #[.int .i64 sk, sV sn, .int .i64 si, sV sv] 52)) (w.heap.size + 1 + 1) [.int .i64 0, .int .i64 0, .string ⟨#[]⟩, .slice none 0 0, .slice none 0 0] 25 ∧ Own ((((w.alloc (.cells #[.int .i64 ck, .int .i64 cn, sV cs, .slice la l.length lc, .slice fa f.length fc] 25)).alloc (.cells #[.int .i64 xk, .int .i64 xn, sV xs, .slice xla xln xlc, .slice xfa xfn xfc] 25)).alloc (.cells #[.int .i64 0, .int .i64 0, .string ⟨#[]⟩, .slice none 0 0, .slice none 0 0] 25)).alloc (.cells #[.int .i64 sk, sV sn, .int .i64 si, sV sv] 52)) (w.heap.size + 1 + 1 + 1) [.int .i64 sk, sV sn, .int .i64 si, sV sv] 52 from ⟨hbS, (((Own.new _ _ _).alloc _).alloc _).alloc _, ((Own.new_at (by rw [size_alloc]) _ _).alloc _).alloc _, (Own.new_at (by rw [size_alloc, size_alloc]) _ _).alloc _, Own.new_at (by rw [size_alloc, size_alloc, size_alloc]) _ _⟩)
    clear hb0 hbS hp
    go_enter Tryz.func81, Tryz.ntmps81
    go_upto_region 4 with (fail)
    clear q0 q1 q2 q3
    change Code.wp Tryz.prog _ _ _ ((((w.alloc (.cells #[.int .i64 ck, .int .i64 cn, sV cs, .slice la l.length lc, .slice fa f.length fc] 25)).alloc (.cells #[.int .i64 xk, .int .i64 xn, sV xs, .slice xla xln xlc, .slice xfa xfn xfc] 25)).alloc (.cells #[.int .i64 0, .int .i64 0, .string ⟨#[]⟩, .slice none 0 0, .slice none 0 0] 25)).alloc (.cells #[.int .i64 sk, sV sn, .int .i64 si, sV sv] 52))
    generalize ((((w.alloc (.cells #[.int .i64 ck, .int .i64 cn, sV cs, .slice la l.length lc, .slice fa f.length fc] 25)).alloc (.cells #[.int .i64 xk, .int .i64 xn, sV xs, .slice xla xln xlc, .slice xfa xfn xfc] 25)).alloc (.cells #[.int .i64 0, .int .i64 0, .string ⟨#[]⟩, .slice none 0 0, .slice none 0 0] 25)).alloc (.cells #[.int .i64 sk, sV sn, .int .i64 si, sV sv] 52)) = W at *
    have x0 := HW.out.2.1.cell (i := 0) rfl
    have x3 := HW.out.2.1.cell (i := 3) rfl
    have s0 := HW.out.2.2.2.2.cell (i := 0) rfl
    have s2 := HW.out.2.2.2.2.cell (i := 2) rfl
    by_cases h1 : sk = 1
    · subst h1
      by_cases h5 : ck = 5
      · subst h5
        have HE0 : Hid (entE (⟨1, sn, si, sv⟩ : S) (.mk 5 cn cs l f) = 0) := Lib.hid (by unfold entE; simp)
        have HIX := Lib.hid HSTK.out.1
        clear HSTK
        go_upto_region 8 with (fail)
        clear x0 x3 s0 s2
        have HPD : Hid (∀ s : S, s = ⟨1, sn, si, sv⟩ → setP (s :: p) (.mk 5 cn cs l f) x = if ¬ (setP p ((kid s (.mk 5 cn cs l f)).getD (newT s)) x).2 = 0 then (T0, (setP p ((kid s (.mk 5 cn cs l f)).getD (newT s)) x).2) else if s.k = 3 ∧ hasK s.nm s.vl (setP p ((kid s (.mk 5 cn cs l f)).getD (newT s)) x).1 = false then (T0, 6) else (replT s (setP p ((kid s (.mk 5 cn cs l f)).getD (newT s)) x).1 (.mk 5 cn cs l f), 0)) := Lib.hid (fun s e => by rw [setP, if_neg (by rw [e, HE0.out]; simp)])
        clear HE0
        obtain ⟨pl, hpl⟩ : ∃ pl, place (⟨1, sn, si, sv⟩ : S) (.mk 5 cn cs l f) = pl := ⟨_, rfl⟩
        have C := Lib.hid (pfind_any ⟨5, cn, cs, la, l.length, lc, fa, f.length, fc⟩ (.mk 5 cn cs l f) ⟨1, sn, si, sv⟩ W (HI.out.is.all HW.out.1) HSOK.out)
        rw [hpl] at C
        have HPL := Lib.hid hpl
        clear hpl
        have x0 := HW.out.2.1.cell (i := 0) rfl
        have x1 := HW.out.2.1.cell (i := 1) rfl
        have x2 := HW.out.2.1.cell (i := 2) rfl
        have x3 := HW.out.2.1.cell (i := 3) rfl
        have x4 := HW.out.2.1.cell (i := 4) rfl
        have s0 := HW.out.2.2.2.2.cell (i := 0) rfl
        have s1 := HW.out.2.2.2.2.cell (i := 1) rfl
        have s2 := HW.out.2.2.2.2.cell (i := 2) rfl
        have s3 := HW.out.2.2.2.2.cell (i := 3) rfl
        go_wp2_with fail
        refine C.out.mono ?_
        rintro e w1 ⟨rfl, hb1⟩
        have HW1 := Lib.hid (show Below w.heap.size w w1 ∧ Own w1 w.heap.size [.int .i64 5, .int .i64 cn, sV cs, .slice la l.length lc, .slice fa f.length fc] 25 ∧ Own w1 (w.heap.size + 1) [.int .i64 xk, .int .i64 xn, sV xs, .slice xla xln xlc, .slice xfa xfn xfc] 25 ∧ Own w1 (w.heap.size + 1 + 1) [.int .i64 0, .int .i64 0, .string ⟨#[]⟩, .slice none 0 0, .slice none 0 0] 25 ∧ Own w1 (w.heap.size + 1 + 1 + 1) [.int .i64 1, sV sn, .int .i64 si, sV sv] 52 from ⟨below_all HW.out.1 hb1, HW.out.2.1.all hb1, HW.out.2.2.1.all hb1, HW.out.2.2.2.1.all hb1, HW.out.2.2.2.2.all hb1⟩)
        clear C hb1 HW
        clear x0 x1 x2 x3 x4
        clear s0 s1 s2 s3
        have C := Lib.hid (pfreshA_any ⟨1, sn, si, sv⟩ w1)
        have s0 := HW1.out.2.2.2.2.cell (i := 0) rfl
        have s1 := HW1.out.2.2.2.2.cell (i := 1) rfl
        have s2 := HW1.out.2.2.2.2.cell (i := 2) rfl
        have s3 := HW1.out.2.2.2.2.cell (i := 3) rfl
        go_wp2_with fail
        refine C.out.mono ?_
        rintro e w2 ⟨⟨bk, bn, bs, bla, bln, blc, bfa, bfn, bfc⟩, rfl, hb2, hN⟩
        have hbA := below_alloc w2 (.cells #[.int .i64 bk, .int .i64 bn, sV bs, .slice bla bln blc, .slice bfa bfn bfc] 25)
        have HA1 := Lib.hid (show Below w.heap.size w w2 ∧ Own w2 w.heap.size [.int .i64 5, .int .i64 cn, sV cs, .slice la l.length lc, .slice fa f.length fc] 25 ∧ Own w2 (w.heap.size + 1) [.int .i64 xk, .int .i64 xn, sV xs, .slice xla xln xlc, .slice xfa xfn xfc] 25 ∧ Own w2 (w.heap.size + 1 + 1) [.int .i64 0, .int .i64 0, .string ⟨#[]⟩, .slice none 0 0, .slice none 0 0] 25 ∧ Own w2 (w.heap.size + 1 + 1 + 1) [.int .i64 1, sV sn, .int .i64 si, sV sv] 52 from ⟨below_all HW1.out.1 hb2, HW1.out.2.1.all hb2, HW1.out.2.2.1.all hb2, HW1.out.2.2.2.1.all hb2, HW1.out.2.2.2.2.all hb2⟩)
        have HW2 := Lib.hid (show Below w.heap.size w (w2.alloc (.cells #[.int .i64 bk, .int .i64 bn, sV bs, .slice bla bln blc, .slice bfa bfn bfc] 25)) ∧ Own (w2.alloc (.cells #[.int .i64 bk, .int .i64 bn, sV bs, .slice bla bln blc, .slice bfa bfn bfc] 25)) w.heap.size [.int .i64 5, .int .i64 cn, sV cs, .slice la l.length lc, .slice fa f.length fc] 25 ∧ Own (w2.alloc (.cells #[.int .i64 bk, .int .i64 bn, sV bs, .slice bla bln blc, .slice bfa bfn bfc] 25)) (w.heap.size + 1) [.int .i64 xk, .int .i64 xn, sV xs, .slice xla xln xlc, .slice xfa xfn xfc] 25 ∧ Own (w2.alloc (.cells #[.int .i64 bk, .int .i64 bn, sV bs, .slice bla bln blc, .slice bfa bfn bfc] 25)) (w.heap.size + 1 + 1) [.int .i64 0, .int .i64 0, .string ⟨#[]⟩, .slice none 0 0, .slice none 0 0] 25 ∧ Own (w2.alloc (.cells #[.int .i64 bk, .int .i64 bn, sV bs, .slice bla bln blc, .slice bfa bfn bfc] 25)) (w.heap.size + 1 + 1 + 1) [.int .i64 1, sV sn, .int .i64 si, sV sv] 52 from ⟨below_all HA1.out.1 hbA, HA1.out.2.1.all hbA, HA1.out.2.2.1.all hbA, HA1.out.2.2.2.1.all hbA, HA1.out.2.2.2.2.all hbA⟩)
        have HNB := Lib.hid (And.intro (Own.new w2 [.int .i64 bk, .int .i64 bn, sV bs, .slice bla bln blc, .slice bfa bfn bfc] 25) (hN.lt.all hbA))
        have hs1 := HW1.out.2.2.2.2.lt
        have hs2 := hb2.size
        clear C hb2 hbA hN HA1 HW1
        clear s0 s1 s2 s3
        go_upto_region 10 with (fail)
        change Code.wp Tryz.prog _ _ _ (w2.alloc (.cells #[.int .i64 bk, .int .i64 bn, sV bs, .slice bla bln blc, .slice bfa bfn bfc] 25))
        generalize hVV : w2.alloc (.cells #[.int .i64 bk, .int .i64 bn, sV bs, .slice bla bln blc, .slice bfa bfn bfc] 25) = V2 at *
        have hVs : w2.heap.size < V2.heap.size := by rw [← hVV, size_alloc]; omega
        clear hVV
        generalize w2.heap.size = nb at *
        have hnb : w.heap.size + 1 + 1 + 1 < nb := by omega
        have z0 := HW2.out.2.2.2.2.cell (i := 0) rfl
        cases pl with
        | none =>
          have HKD : Hid (kid (⟨1, sn, si, sv⟩ : S) (.mk 5 cn cs l f) = none) := Lib.hid (by unfold kid; rw [HPL.out])
          simp only [ixO]
          have HW3 := HW2
          have HNB3 := Lib.hid (And.intro HNB.out.1 (IsA.mono (A' := fun b => A b ∨ (w.heap.size + 4 ≤ b ∧ b < nb)) HNB.out.2 (fun b h => Or.inr ⟨by omega, h.2⟩)))
          clear HNB HW2
          go_upto_region 14 with (fail)
          clear z0
          change Code.wp Tryz.prog _ _ _ V2
          generalize V2 = W1 at *
          have hW1s : nb < W1.heap.size := HNB3.out.1.lt
          obtain ⟨bT, hbT⟩ : ∃ bT, newT (⟨1, sn, si, sv⟩ : S) = bT := ⟨_, rfl⟩
          have HBT : Hid ((kid (⟨1, sn, si, sv⟩ : S) (.mk 5 cn cs l f)).getD (newT (⟨1, sn, si, sv⟩ : S)) = bT ∧ bT.size ≤ 700) := Lib.hid ⟨by rw [HKD.out]; exact hbT, by rw [← hbT]; have := newT_size (⟨1, sn, si, sv⟩ : S); omega⟩
          rw [hbT] at HNB3
          clear hbT
          have z0 := cell_regrown (HNB3.out.1.cell (i := 0) rfl)
          have z1 := cell_regrown (HNB3.out.1.cell (i := 1) rfl)
          have z2 := cell_regrown (HNB3.out.1.cell (i := 2) rfl)
          have z3 := cell_regrown (HNB3.out.1.cell (i := 3) rfl)
          have z4 := cell_regrown (HNB3.out.1.cell (i := 4) rfl)
          have y0 := cell_regrown (HW3.out.2.2.1.cell (i := 0) rfl)
          have y1 := cell_regrown (HW3.out.2.2.1.cell (i := 1) rfl)
          have y2 := cell_regrown (HW3.out.2.2.1.cell (i := 2) rfl)
          have y3 := cell_regrown (HW3.out.2.2.1.cell (i := 3) rfl)
          have y4 := cell_regrown (HW3.out.2.2.1.cell (i := 4) rfl)
          refine wp_region_multiE 5 #[true, true, true, true, true, false, false, false, false, false] (fun i => i == 4) (fun _ _ u w' => ∃ c' : VC, u = .tuple #[c'.val, .int .i64 (setP p bT x).2] ∧ IsA w' (fun b => (A b ∨ (w.heap.size + 4 ≤ b ∧ b < nb)) ∨ W1.heap.size ≤ b) c' (setP p bT x).1) (fun _ u => ∃ c' : VC, u = .tuple #[c'.val, .int .i64 (setP p bT x).2]) (by kernel_rfl) (by kernel_rfl)
            (fun _ _ _ w1 w2 ⟨c', h1, h2⟩ hb => ⟨c', h1, h2.all hb⟩) (fun _ => ⟨_, VC0, rfl⟩) ?_
          simp only [List.take_succ_cons, List.take_zero, List.drop_succ_cons, List.drop_zero]
          refine wpM_stretch 4 rfl rfl rfl rfl ?_
          simp only [List.take_succ_cons, List.take_zero, List.drop_succ_cons, List.drop_zero]
          repeat (first | go_big_quiet_step (fail) | quiet_step (fail))
          refine wpQuiet_nil ?_
          refine wpM_dem rfl rfl rfl ?_ ?_
          · rintro _ ⟨pp, rfl⟩
            go_simp
            simp only [demUpon]
            have hbp := below_all HW3.out.1 (below_regrown W1 pp.d pp.os)
            have hsz := (below_regrown W1 pp.d pp.os).size
            refine ⟨trivial, (IH.out (.slice (if cp = 1 then some ⟨pb, off, none⟩ else some ⟨pb, off + 4, none⟩) p.length (cp - 1)) _ (Flat.all HTL.out hbp) (fun b => A b ∨ (w.heap.size + 4 ≤ b ∧ b < nb)) (fun b h => by rcases h with h | h; have := HAA.out b h; omega; omega) ⟨bk, bn, bs, bla, bln, blc, bfa, bfn, bfc⟩ ⟨xk, xn, xs, xla, xln, xlc, xfa, xfn, xfc⟩ bT x (HNB3.out.2.all (below_regrown W1 pp.d pp.os)) ((HX.out.all hbp).mono (fun b h => Or.inl h)) HBT.out.2 HZ.out.2 HPN.out HALL.out).mono ?_⟩
            rintro e w6 ⟨hb6, c', rfl, h2⟩
            exact ⟨_, rfl, ⟨c', rfl⟩, hb6, c', rfl, h2.mono (fun b h => by rcases h with h | h; exact Or.inl h; exact Or.inr (by omega))⟩
          rintro _ ⟨⟨rk, rn, rs, rla, rln, rlc, rfa, rfn, rfc⟩, rfl⟩
          refine wpM_end ?_
          rintro U hbU ⟨-, c2, he2, hR⟩
          obtain rfl : (⟨rk, rn, rs, rla, rln, rlc, rfa, rfn, rfc⟩ : VC) = c2 := VC.val_inj (by simpa using he2)
          have oN := HNB3.out.1.all hbU
          have hN0 := oN.cell (i := 0) rfl
          have hN1 := oN.cell (i := 1) rfl
          have hN2 := oN.cell (i := 2) rfl
          have hN3 := oN.cell (i := 3) rfl
          have hN4 := oN.cell (i := 4) rfl
          have fN0 := oN.frozen 0
          have fN1 := oN.frozen 1
          have fN2 := oN.frozen 2
          have fN3 := oN.frozen 3
          have fN4 := oN.frozen 4
          have HB2 := Lib.hid (show Below w.heap.size w (put5 U nb (.int .i64 rk) (.int .i64 rn) (sV rs) (.slice rla rln rlc) (.slice rfa rfn rfc)) ∧ Own (put5 U nb (.int .i64 rk) (.int .i64 rn) (sV rs) (.slice rla rln rlc) (.slice rfa rfn rfc)) w.heap.size [.int .i64 5, .int .i64 cn, sV cs, .slice la l.length lc, .slice fa f.length fc] 25 ∧ Own (put5 U nb (.int .i64 rk) (.int .i64 rn) (sV rs) (.slice rla rln rlc) (.slice rfa rfn rfc)) (w.heap.size + 1) [.int .i64 xk, .int .i64 xn, sV xs, .slice xla xln xlc, .slice xfa xfn xfc] 25 ∧ Own (put5 U nb (.int .i64 rk) (.int .i64 rn) (sV rs) (.slice rla rln rlc) (.slice rfa rfn rfc)) (w.heap.size + 1 + 1) [.int .i64 0, .int .i64 0, .string ⟨#[]⟩, .slice none 0 0, .slice none 0 0] 25 ∧ Own (put5 U nb (.int .i64 rk) (.int .i64 rn) (sV rs) (.slice rla rln rlc) (.slice rfa rfn rfc)) (w.heap.size + 1 + 1 + 1) [.int .i64 1, sV sn, .int .i64 si, sV sv] 52 from ⟨below_put5 (b := nb) (below_all HW3.out.1 hbU) (by omega) (.int .i64 rk) (.int .i64 rn) (sV rs) (.slice rla rln rlc) (.slice rfa rfn rfc), Own.put5n (c := nb) (HW3.out.2.1.all hbU) (by omega) (.int .i64 rk) (.int .i64 rn) (sV rs) (.slice rla rln rlc) (.slice rfa rfn rfc), Own.put5n (c := nb) (HW3.out.2.2.1.all hbU) (by omega) (.int .i64 rk) (.int .i64 rn) (sV rs) (.slice rla rln rlc) (.slice rfa rfn rfc), Own.put5n (c := nb) (HW3.out.2.2.2.1.all hbU) (by omega) (.int .i64 rk) (.int .i64 rn) (sV rs) (.slice rla rln rlc) (.slice rfa rfn rfc), Own.put5n (c := nb) (HW3.out.2.2.2.2.all hbU) (by omega) (.int .i64 rk) (.int .i64 rn) (sV rs) (.slice rla rln rlc) (.slice rfa rfn rfc)⟩)
          have HRI := Lib.hid (And.intro (own_put5 oN (.int .i64 rk) (.int .i64 rn) (sV rs) (.slice rla rln rlc) (.slice rfa rfn rfc)) ((hR.mono (A' := fun b => (A b ∨ w.heap.size + 4 ≤ b) ∧ ¬ b = nb) (fun b h => by rcases h with (h | h) | h; exact ⟨Or.inl h, by have := HAA.out b h; omega⟩; exact ⟨Or.inr h.1, by omega⟩; exact ⟨Or.inr (by omega), by omega⟩)).put5 (b := nb) (fun h => h.2 rfl) (.int .i64 rk) (.int .i64 rn) (sV rs) (.slice rla rln rlc) (.slice rfa rfn rfc)))
          clear z0 z1 z2 z3 z4 y0 y1 y2 y3 y4 hbU hR oN he2 HW3 HNB3
          refine wpAny_take (i := 5) rfl (by kernel_rfl) (by kernel_rfl) (by kernel_rfl) (fun _ _ _ h => h) (Or.inl ⟨by rfl, by intro w0; go_simp; try with_reducible rfl⟩) ?_
          refine wpAny_take (i := 6) rfl (by kernel_rfl) (by kernel_rfl) (by kernel_rfl) (fun _ _ _ h => h) (Or.inl ⟨by rfl, by intro w0; go_simp; try with_reducible rfl⟩) ?_
          refine wpAny_take (i := 7) rfl (by kernel_rfl) (by kernel_rfl) (by kernel_rfl) (fun _ _ _ h => h) (Or.inl ⟨by rfl, by intro w0; go_simp; try with_reducible rfl⟩) ?_
          refine wpAny_ready (rs := [8]) (by kernel_rfl) (by simp) ?_
          refine AllReady.cons rfl (fun K hK => ?_) AllReady.nil
          go_simp
          refine hK _ _ ?_
          clear hK K
          refine wpAny_take (i := 9) rfl (by kernel_rfl) (by kernel_rfl) (by kernel_rfl) (fun _ _ _ h => h) (Or.inl ⟨by rfl, by intro w0; go_simp; try with_reducible rfl⟩) ?_
          refine wpAny_done (by kernel_rfl) ?_ _
          generalize (if cp = 1 then some (⟨pb, off, none⟩ : Addr) else some ⟨pb, off + 4, none⟩) = tp at *
          go_upto_region 15 with (fail)
          clear hN0 hN1 hN2 hN3 hN4 fN0 fN1 fN2 fN3 fN4
          change Code.wp Tryz.prog _ _ _ (put5 U nb (.int .i64 rk) (.int .i64 rn) (sV rs) (.slice rla rln rlc) (.slice rfa rfn rfc))
          generalize put5 U nb (.int .i64 rk) (.int .i64 rn) (sV rs) (.slice rla rln rlc) (.slice rfa rfn rfc) = U2 at *
          have HFZ := Lib.hid (HPD.out ⟨1, sn, si, sv⟩ rfl)
          rw [HBT.out.1] at HFZ
          have HRZ0 := Lib.hid (setP_size p bT x HALL.out)
          clear HPD
          generalize (setP p bT x).1 = Rt at *
          generalize (setP p bT x).2 = E at *
          have hu2 : w.heap.size + 1 + 1 + 1 < U2.heap.size := HB2.out.2.2.2.2.lt
          by_cases hE : ¬ E = 0
          · have HF : Hid (setP ((⟨1, sn, si, sv⟩ : S) :: p) (.mk 5 cn cs l f) x = (T0, E)) := Lib.hid (by rw [HFZ.out, if_pos hE])
            have hne : (E != 0) = true := by simpa using hE
            have oFin := HB2.out.2.2.2.1
            have q0 := oFin.cell (i := 0) rfl
            have q1 := oFin.cell (i := 1) rfl
            have q2 := oFin.cell (i := 2) rfl
            have q3 := oFin.cell (i := 3) rfl
            have q4 := oFin.cell (i := 4) rfl
            have g0 := oFin.frozen 0
            have g1 := oFin.frozen 1
            have g2 := oFin.frozen 2
            have g3 := oFin.frozen 3
            have g4 := oFin.frozen 4
            have HU := Lib.hid (And.intro (own_put5 oFin (.int .i64 0) (.int .i64 0) (.string ⟨#[]⟩) (.slice none 0 0) (.slice none 0 0)) (below_put5 (b := w.heap.size + 1 + 1) HB2.out.1 (by omega) (.int .i64 0) (.int .i64 0) (.string ⟨#[]⟩) (.slice none 0 0) (.slice none 0 0)))
            clear oFin
            go_wp2
            clear q0 q1 q2 q3 q4 g0 g1 g2 g3 g4
            change bodyPost Tryz.prog Tryz.f81 _ _ _ (put5 U2 (w.heap.size + 1 + 1) (.int .i64 0) (.int .i64 0) (.string ⟨#[]⟩) (.slice none 0 0) (.slice none 0 0))
            generalize put5 U2 (w.heap.size + 1 + 1) (.int .i64 0) (.int .i64 0) (.string ⟨#[]⟩) (.slice none 0 0) (.slice none 0 0) = U at *
            have c0 := HU.out.1.cell (i := 0) rfl
            have c1 := HU.out.1.cell (i := 1) rfl
            have c2 := HU.out.1.cell (i := 2) rfl
            have c3 := HU.out.1.cell (i := 3) rfl
            have c4 := HU.out.1.cell (i := 4) rfl
            exact bodyPost_ret (v := .tuple #[.agg #[.int .i64 0, .int .i64 0, .string ⟨#[]⟩, .slice none 0 0, .slice none 0 0], .int .i64 E]) (by simp [results, Tryz.results81, go_sem, c0, c1, c2, c3, c4]) rfl ⟨HU.out.2, VC0, by rw [HF.out]; rfl, by rw [HF.out]; exact isA_zero _ _⟩
          have hE2 : E = 0 := by omega
          clear hE
          subst hE2
          have HRZ : Hid (Rt.size ≤ 3000) := Lib.hid (by have a := HRZ0.out; have b := HBT.out.2; have c := HPN.out; have d := HZ.out.2; omega)
          have HF : Hid (setP ((⟨1, sn, si, sv⟩ : S) :: p) (.mk 5 cn cs l f) x = (replT ⟨1, sn, si, sv⟩ Rt (.mk 5 cn cs l f), 0)) := Lib.hid (by rw [HFZ.out, if_neg (by simp), if_neg (by rintro ⟨h, -⟩; cases h)])
          have hws := HB2.out.2.2.2.2.lt
          have C := Lib.hid (rwith_any ⟨5, cn, cs, la, l.length, lc, fa, f.length, fc⟩ ⟨rk, rn, rs, rla, rln, rlc, rfa, rfn, rfc⟩ 5 cn cs l f sn Rt U2 (HI.out.is.all HB2.out.1) HRI.out.2.is (by have := HZ.out.1; omega) (by have := HRZ.out; omega))
          have x0 := HB2.out.2.1.cell (i := 0) rfl
          have x1 := HB2.out.2.1.cell (i := 1) rfl
          have x2 := HB2.out.2.1.cell (i := 2) rfl
          have x3 := HB2.out.2.1.cell (i := 3) rfl
          have x4 := HB2.out.2.1.cell (i := 4) rfl
          have z0 := HRI.out.1.cell (i := 0) rfl
          have z1 := HRI.out.1.cell (i := 1) rfl
          have z2 := HRI.out.1.cell (i := 2) rfl
          have z3 := HRI.out.1.cell (i := 3) rfl
          have z4 := HRI.out.1.cell (i := 4) rfl
          have s0 := HB2.out.2.2.2.2.cell (i := 0) rfl
          have s1 := HB2.out.2.2.2.2.cell (i := 1) rfl
          have s2 := HB2.out.2.2.2.2.cell (i := 2) rfl
          have s3 := HB2.out.2.2.2.2.cell (i := 3) rfl
          go_wp2_with fail
          refine C.out.mono ?_
          rintro e w9 ⟨⟨dk, dn, ds, dla, dln, dlc, dfa, dfn, dfc⟩, M, rfl, hb9, hD, hM⟩
          have H9 := Lib.hid (show Below w.heap.size w w9 ∧ Own w9 w.heap.size [.int .i64 5, .int .i64 cn, sV cs, .slice la l.length lc, .slice fa f.length fc] 25 ∧ Own w9 (w.heap.size + 1) [.int .i64 xk, .int .i64 xn, sV xs, .slice xla xln xlc, .slice xfa xfn xfc] 25 ∧ Own w9 (w.heap.size + 1 + 1) [.int .i64 0, .int .i64 0, .string ⟨#[]⟩, .slice none 0 0, .slice none 0 0] 25 ∧ Own w9 (w.heap.size + 1 + 1 + 1) [.int .i64 1, sV sn, .int .i64 si, sV sv] 52 from ⟨below_all HB2.out.1 hb9, HB2.out.2.1.all hb9, HB2.out.2.2.1.all hb9, HB2.out.2.2.2.1.all hb9, HB2.out.2.2.2.2.all hb9⟩)
          have HD := Lib.hid hD
          have HMM : Hid (replT (⟨1, sn, si, sv⟩ : S) Rt (.mk 5 cn cs l f) = .mk 5 0 [] [] M) := Lib.hid (by simp only [replT, if_true]; rw [(mapL_of _).unique hM])
          clear C hb9 hD hM
          clear x0 x1 x2 x3 x4
          clear z0 z1 z2 z3 z4
          clear s0 s1 s2 s3
          have oFin := H9.out.2.2.2.1
          have q0 := oFin.cell (i := 0) rfl
          have q1 := oFin.cell (i := 1) rfl
          have q2 := oFin.cell (i := 2) rfl
          have q3 := oFin.cell (i := 3) rfl
          have q4 := oFin.cell (i := 4) rfl
          have g0 := oFin.frozen 0
          have g1 := oFin.frozen 1
          have g2 := oFin.frozen 2
          have g3 := oFin.frozen 3
          have g4 := oFin.frozen 4
          have HU := Lib.hid (And.intro (own_put5 oFin (.int .i64 dk) (.int .i64 dn) (sV ds) (.slice dla dln dlc) (.slice dfa dfn dfc)) (And.intro (below_put5 (b := w.heap.size + 1 + 1) H9.out.1 (by omega) (.int .i64 dk) (.int .i64 dn) (sV ds) (.slice dla dln dlc) (.slice dfa dfn dfc)) (HD.out.put5 (b := w.heap.size + 1 + 1) (by omega) (.int .i64 dk) (.int .i64 dn) (sV ds) (.slice dla dln dlc) (.slice dfa dfn dfc))))
          clear oFin
          go_wp2
          clear q0 q1 q2 q3 q4 g0 g1 g2 g3 g4
          change bodyPost Tryz.prog Tryz.f81 _ _ _ (put5 w9 (w.heap.size + 1 + 1) (.int .i64 dk) (.int .i64 dn) (sV ds) (.slice dla dln dlc) (.slice dfa dfn dfc))
          generalize put5 w9 (w.heap.size + 1 + 1) (.int .i64 dk) (.int .i64 dn) (sV ds) (.slice dla dln dlc) (.slice dfa dfn dfc) = U at *
          have c0 := HU.out.1.cell (i := 0) rfl
          have c1 := HU.out.1.cell (i := 1) rfl
          have c2 := HU.out.1.cell (i := 2) rfl
          have c3 := HU.out.1.cell (i := 3) rfl
          have c4 := HU.out.1.cell (i := 4) rfl
          exact bodyPost_ret (v := .tuple #[.agg #[.int .i64 dk, .int .i64 dn, sV ds, .slice dla dln dlc, .slice dfa dfn dfc], .int .i64 0]) (by simp [results, Tryz.results81, go_sem, c0, c1, c2, c3, c4]) rfl ⟨HU.out.2.1, ⟨dk, dn, ds, dla, dln, dlc, dfa, dfn, dfc⟩, by rw [HF.out], by rw [HF.out, HMM.out]; exact HU.out.2.2.mono (fun b h => Or.inr (by omega))⟩
        | some i =>
          have hlt := place_lt HIX.out HPL.out
          simp only [if_true] at hlt
          obtain ⟨pr, hpr⟩ : ∃ pr, f[i]? = some pr := ⟨_, List.getElem?_eq_getElem hlt⟩
          have HKD : Hid (kid (⟨1, sn, si, sv⟩ : S) (.mk 5 cn cs l f) = some pr.2) := Lib.hid (by unfold kid; rw [HPL.out]; simp only [kidAt, if_true, hpr, Option.map_some])
          obtain ⟨eb, eo, ⟨ek, en, es, ela, eln, elc, efa, efn, efc⟩, rfl, heb, hIe, -, m0, m1, m2, m3, m4⟩ := (show FldsA w A (.slice fa f.length fc) f from HI.out.flds).at HW2.out.1 hpr
          have HIE := Lib.hid hIe
          have HLT := Lib.hid hlt
          clear hIe hpr hlt
          simp only [ixO]
          have z4 := HW2.out.2.1.cell (i := 4) rfl
          have y0 := HNB.out.1.cell (i := 0) rfl
          have y1 := HNB.out.1.cell (i := 1) rfl
          have y2 := HNB.out.1.cell (i := 2) rfl
          have y3 := HNB.out.1.cell (i := 3) rfl
          have y4 := HNB.out.1.cell (i := 4) rfl
          have w0 := HNB.out.1.frozen 0
          have w1' := HNB.out.1.frozen 1
          have w2' := HNB.out.1.frozen 2
          have w3' := HNB.out.1.frozen 3
          have w4' := HNB.out.1.frozen 4
          have HW3 := Lib.hid (show Below w.heap.size w (put5 V2 nb (.int .i64 ek) (.int .i64 en) (sV es) (.slice ela eln elc) (.slice efa efn efc)) ∧ Own (put5 V2 nb (.int .i64 ek) (.int .i64 en) (sV es) (.slice ela eln elc) (.slice efa efn efc)) w.heap.size [.int .i64 5, .int .i64 cn, sV cs, .slice la l.length lc, .slice (some ⟨eb, eo, none⟩) f.length fc] 25 ∧ Own (put5 V2 nb (.int .i64 ek) (.int .i64 en) (sV es) (.slice ela eln elc) (.slice efa efn efc)) (w.heap.size + 1) [.int .i64 xk, .int .i64 xn, sV xs, .slice xla xln xlc, .slice xfa xfn xfc] 25 ∧ Own (put5 V2 nb (.int .i64 ek) (.int .i64 en) (sV es) (.slice ela eln elc) (.slice efa efn efc)) (w.heap.size + 1 + 1) [.int .i64 0, .int .i64 0, .string ⟨#[]⟩, .slice none 0 0, .slice none 0 0] 25 ∧ Own (put5 V2 nb (.int .i64 ek) (.int .i64 en) (sV es) (.slice ela eln elc) (.slice efa efn efc)) (w.heap.size + 1 + 1 + 1) [.int .i64 1, sV sn, .int .i64 si, sV sv] 52 from ⟨below_put5 (b := nb) HW2.out.1 (by omega) (.int .i64 ek) (.int .i64 en) (sV es) (.slice ela eln elc) (.slice efa efn efc), Own.put5n (c := nb) HW2.out.2.1 (by omega) (.int .i64 ek) (.int .i64 en) (sV es) (.slice ela eln elc) (.slice efa efn efc), Own.put5n (c := nb) HW2.out.2.2.1 (by omega) (.int .i64 ek) (.int .i64 en) (sV es) (.slice ela eln elc) (.slice efa efn efc), Own.put5n (c := nb) HW2.out.2.2.2.1 (by omega) (.int .i64 ek) (.int .i64 en) (sV es) (.slice ela eln elc) (.slice efa efn efc), Own.put5n (c := nb) HW2.out.2.2.2.2 (by omega) (.int .i64 ek) (.int .i64 en) (sV es) (.slice ela eln elc) (.slice efa efn efc)⟩)
          have HNB3 := Lib.hid (And.intro (own_put5 HNB.out.1 (.int .i64 ek) (.int .i64 en) (sV es) (.slice ela eln elc) (.slice efa efn efc)) ((IsA.mono (A' := fun b => A b ∨ (w.heap.size + 4 ≤ b ∧ b < nb)) HIE.out (fun b h => Or.inl h)).put5 (b := nb) (fun h => by rcases h with h | h; have := HAA.out _ h; omega; omega) (.int .i64 ek) (.int .i64 en) (sV es) (.slice ela eln elc) (.slice efa efn efc)))
          clear HIE
          go_upto_region 14 with (fail)
          clear z0 z4 m0 m1 m2 m3 m4 y0 y1 y2 y3 y4 w0 w1' w2' w3' w4' HNB HW2
          change Code.wp Tryz.prog _ _ _ (put5 V2 nb (.int .i64 ek) (.int .i64 en) (sV es) (.slice ela eln elc) (.slice efa efn efc))
          generalize hVP : put5 V2 nb (.int .i64 ek) (.int .i64 en) (sV es) (.slice ela eln elc) (.slice efa efn efc) = W1 at *
          have hW1s : nb < W1.heap.size := HNB3.out.1.lt
          clear hVP
          have HBT : Hid ((kid (⟨1, sn, si, sv⟩ : S) (.mk 5 cn cs l f)).getD (newT (⟨1, sn, si, sv⟩ : S)) = pr.2 ∧ (pr.2).size ≤ 700) := Lib.hid ⟨by rw [HKD.out]; rfl, Int.le_trans (kid_size HKD.out) HZ.out.1⟩
          generalize pr.2 = bT at *
          have z0 := cell_regrown (HNB3.out.1.cell (i := 0) rfl)
          have z1 := cell_regrown (HNB3.out.1.cell (i := 1) rfl)
          have z2 := cell_regrown (HNB3.out.1.cell (i := 2) rfl)
          have z3 := cell_regrown (HNB3.out.1.cell (i := 3) rfl)
          have z4 := cell_regrown (HNB3.out.1.cell (i := 4) rfl)
          have y0 := cell_regrown (HW3.out.2.2.1.cell (i := 0) rfl)
          have y1 := cell_regrown (HW3.out.2.2.1.cell (i := 1) rfl)
          have y2 := cell_regrown (HW3.out.2.2.1.cell (i := 2) rfl)
          have y3 := cell_regrown (HW3.out.2.2.1.cell (i := 3) rfl)
          have y4 := cell_regrown (HW3.out.2.2.1.cell (i := 4) rfl)
          refine wp_region_multiE 5 #[true, true, true, true, true, false, false, false, false, false] (fun i => i == 4) (fun _ _ u w' => ∃ c' : VC, u = .tuple #[c'.val, .int .i64 (setP p bT x).2] ∧ IsA w' (fun b => (A b ∨ (w.heap.size + 4 ≤ b ∧ b < nb)) ∨ W1.heap.size ≤ b) c' (setP p bT x).1) (fun _ u => ∃ c' : VC, u = .tuple #[c'.val, .int .i64 (setP p bT x).2]) (by kernel_rfl) (by kernel_rfl)
            (fun _ _ _ w1 w2 ⟨c', h1, h2⟩ hb => ⟨c', h1, h2.all hb⟩) (fun _ => ⟨_, VC0, rfl⟩) ?_
          simp only [List.take_succ_cons, List.take_zero, List.drop_succ_cons, List.drop_zero]
          refine wpM_stretch 4 rfl rfl rfl rfl ?_
          simp only [List.take_succ_cons, List.take_zero, List.drop_succ_cons, List.drop_zero]
          repeat (first | go_big_quiet_step (fail) | quiet_step (fail))
          refine wpQuiet_nil ?_
          refine wpM_dem rfl rfl rfl ?_ ?_
          · rintro _ ⟨pp, rfl⟩
            go_simp
            simp only [demUpon]
            have hbp := below_all HW3.out.1 (below_regrown W1 pp.d pp.os)
            have hsz := (below_regrown W1 pp.d pp.os).size
            refine ⟨trivial, (IH.out (.slice (if cp = 1 then some ⟨pb, off, none⟩ else some ⟨pb, off + 4, none⟩) p.length (cp - 1)) _ (Flat.all HTL.out hbp) (fun b => A b ∨ (w.heap.size + 4 ≤ b ∧ b < nb)) (fun b h => by rcases h with h | h; have := HAA.out b h; omega; omega) ⟨ek, en, es, ela, eln, elc, efa, efn, efc⟩ ⟨xk, xn, xs, xla, xln, xlc, xfa, xfn, xfc⟩ bT x (HNB3.out.2.all (below_regrown W1 pp.d pp.os)) ((HX.out.all hbp).mono (fun b h => Or.inl h)) HBT.out.2 HZ.out.2 HPN.out HALL.out).mono ?_⟩
            rintro e w6 ⟨hb6, c', rfl, h2⟩
            exact ⟨_, rfl, ⟨c', rfl⟩, hb6, c', rfl, h2.mono (fun b h => by rcases h with h | h; exact Or.inl h; exact Or.inr (by omega))⟩
          rintro _ ⟨⟨rk, rn, rs, rla, rln, rlc, rfa, rfn, rfc⟩, rfl⟩
          refine wpM_end ?_
          rintro U hbU ⟨-, c2, he2, hR⟩
          obtain rfl : (⟨rk, rn, rs, rla, rln, rlc, rfa, rfn, rfc⟩ : VC) = c2 := VC.val_inj (by simpa using he2)
          have oN := HNB3.out.1.all hbU
          have hN0 := oN.cell (i := 0) rfl
          have hN1 := oN.cell (i := 1) rfl
          have hN2 := oN.cell (i := 2) rfl
          have hN3 := oN.cell (i := 3) rfl
          have hN4 := oN.cell (i := 4) rfl
          have fN0 := oN.frozen 0
          have fN1 := oN.frozen 1
          have fN2 := oN.frozen 2
          have fN3 := oN.frozen 3
          have fN4 := oN.frozen 4
          have HB2 := Lib.hid (show Below w.heap.size w (put5 U nb (.int .i64 rk) (.int .i64 rn) (sV rs) (.slice rla rln rlc) (.slice rfa rfn rfc)) ∧ Own (put5 U nb (.int .i64 rk) (.int .i64 rn) (sV rs) (.slice rla rln rlc) (.slice rfa rfn rfc)) w.heap.size [.int .i64 5, .int .i64 cn, sV cs, .slice la l.length lc, .slice (some ⟨eb, eo, none⟩) f.length fc] 25 ∧ Own (put5 U nb (.int .i64 rk) (.int .i64 rn) (sV rs) (.slice rla rln rlc) (.slice rfa rfn rfc)) (w.heap.size + 1) [.int .i64 xk, .int .i64 xn, sV xs, .slice xla xln xlc, .slice xfa xfn xfc] 25 ∧ Own (put5 U nb (.int .i64 rk) (.int .i64 rn) (sV rs) (.slice rla rln rlc) (.slice rfa rfn rfc)) (w.heap.size + 1 + 1) [.int .i64 0, .int .i64 0, .string ⟨#[]⟩, .slice none 0 0, .slice none 0 0] 25 ∧ Own (put5 U nb (.int .i64 rk) (.int .i64 rn) (sV rs) (.slice rla rln rlc) (.slice rfa rfn rfc)) (w.heap.size + 1 + 1 + 1) [.int .i64 1, sV sn, .int .i64 si, sV sv] 52 from ⟨below_put5 (b := nb) (below_all HW3.out.1 hbU) (by omega) (.int .i64 rk) (.int .i64 rn) (sV rs) (.slice rla rln rlc) (.slice rfa rfn rfc), Own.put5n (c := nb) (HW3.out.2.1.all hbU) (by omega) (.int .i64 rk) (.int .i64 rn) (sV rs) (.slice rla rln rlc) (.slice rfa rfn rfc), Own.put5n (c := nb) (HW3.out.2.2.1.all hbU) (by omega) (.int .i64 rk) (.int .i64 rn) (sV rs) (.slice rla rln rlc) (.slice rfa rfn rfc), Own.put5n (c := nb) (HW3.out.2.2.2.1.all hbU) (by omega) (.int .i64 rk) (.int .i64 rn) (sV rs) (.slice rla rln rlc) (.slice rfa rfn rfc), Own.put5n (c := nb) (HW3.out.2.2.2.2.all hbU) (by omega) (.int .i64 rk) (.int .i64 rn) (sV rs) (.slice rla rln rlc) (.slice rfa rfn rfc)⟩)
          have HRI := Lib.hid (And.intro (own_put5 oN (.int .i64 rk) (.int .i64 rn) (sV rs) (.slice rla rln rlc) (.slice rfa rfn rfc)) ((hR.mono (A' := fun b => (A b ∨ w.heap.size + 4 ≤ b) ∧ ¬ b = nb) (fun b h => by rcases h with (h | h) | h; exact ⟨Or.inl h, by have := HAA.out b h; omega⟩; exact ⟨Or.inr h.1, by omega⟩; exact ⟨Or.inr (by omega), by omega⟩)).put5 (b := nb) (fun h => h.2 rfl) (.int .i64 rk) (.int .i64 rn) (sV rs) (.slice rla rln rlc) (.slice rfa rfn rfc)))
          clear z0 z1 z2 z3 z4 y0 y1 y2 y3 y4 hbU hR oN he2 HW3 HNB3
          refine wpAny_take (i := 5) rfl (by kernel_rfl) (by kernel_rfl) (by kernel_rfl) (fun _ _ _ h => h) (Or.inl ⟨by rfl, by intro w0; go_simp; try with_reducible rfl⟩) ?_
          refine wpAny_take (i := 6) rfl (by kernel_rfl) (by kernel_rfl) (by kernel_rfl) (fun _ _ _ h => h) (Or.inl ⟨by rfl, by intro w0; go_simp; try with_reducible rfl⟩) ?_
          refine wpAny_take (i := 7) rfl (by kernel_rfl) (by kernel_rfl) (by kernel_rfl) (fun _ _ _ h => h) (Or.inl ⟨by rfl, by intro w0; go_simp; try with_reducible rfl⟩) ?_
          refine wpAny_ready (rs := [8]) (by kernel_rfl) (by simp) ?_
          refine AllReady.cons rfl (fun K hK => ?_) AllReady.nil
          go_simp
          refine hK _ _ ?_
          clear hK K
          refine wpAny_take (i := 9) rfl (by kernel_rfl) (by kernel_rfl) (by kernel_rfl) (fun _ _ _ h => h) (Or.inl ⟨by rfl, by intro w0; go_simp; try with_reducible rfl⟩) ?_
          refine wpAny_done (by kernel_rfl) ?_ _
          generalize (if cp = 1 then some (⟨pb, off, none⟩ : Addr) else some ⟨pb, off + 4, none⟩) = tp at *
          go_upto_region 15 with (fail)
          clear hN0 hN1 hN2 hN3 hN4 fN0 fN1 fN2 fN3 fN4
          change Code.wp Tryz.prog _ _ _ (put5 U nb (.int .i64 rk) (.int .i64 rn) (sV rs) (.slice rla rln rlc) (.slice rfa rfn rfc))
          generalize put5 U nb (.int .i64 rk) (.int .i64 rn) (sV rs) (.slice rla rln rlc) (.slice rfa rfn rfc) = U2 at *
          have HFZ := Lib.hid (HPD.out ⟨1, sn, si, sv⟩ rfl)
          rw [HBT.out.1] at HFZ
          have HRZ0 := Lib.hid (setP_size p bT x HALL.out)
          clear HPD
          generalize (setP p bT x).1 = Rt at *
          generalize (setP p bT x).2 = E at *
          have hu2 : w.heap.size + 1 + 1 + 1 < U2.heap.size := HB2.out.2.2.2.2.lt
          by_cases hE : ¬ E = 0
          · have HF : Hid (setP ((⟨1, sn, si, sv⟩ : S) :: p) (.mk 5 cn cs l f) x = (T0, E)) := Lib.hid (by rw [HFZ.out, if_pos hE])
            have hne : (E != 0) = true := by simpa using hE
            have oFin := HB2.out.2.2.2.1
            have q0 := oFin.cell (i := 0) rfl
            have q1 := oFin.cell (i := 1) rfl
            have q2 := oFin.cell (i := 2) rfl
            have q3 := oFin.cell (i := 3) rfl
            have q4 := oFin.cell (i := 4) rfl
            have g0 := oFin.frozen 0
            have g1 := oFin.frozen 1
            have g2 := oFin.frozen 2
            have g3 := oFin.frozen 3
            have g4 := oFin.frozen 4
            have HU := Lib.hid (And.intro (own_put5 oFin (.int .i64 0) (.int .i64 0) (.string ⟨#[]⟩) (.slice none 0 0) (.slice none 0 0)) (below_put5 (b := w.heap.size + 1 + 1) HB2.out.1 (by omega) (.int .i64 0) (.int .i64 0) (.string ⟨#[]⟩) (.slice none 0 0) (.slice none 0 0)))
            clear oFin
            go_wp2
            clear q0 q1 q2 q3 q4 g0 g1 g2 g3 g4
            change bodyPost Tryz.prog Tryz.f81 _ _ _ (put5 U2 (w.heap.size + 1 + 1) (.int .i64 0) (.int .i64 0) (.string ⟨#[]⟩) (.slice none 0 0) (.slice none 0 0))
            generalize put5 U2 (w.heap.size + 1 + 1) (.int .i64 0) (.int .i64 0) (.string ⟨#[]⟩) (.slice none 0 0) (.slice none 0 0) = U at *
            have c0 := HU.out.1.cell (i := 0) rfl
            have c1 := HU.out.1.cell (i := 1) rfl
            have c2 := HU.out.1.cell (i := 2) rfl
            have c3 := HU.out.1.cell (i := 3) rfl
            have c4 := HU.out.1.cell (i := 4) rfl
            exact bodyPost_ret (v := .tuple #[.agg #[.int .i64 0, .int .i64 0, .string ⟨#[]⟩, .slice none 0 0, .slice none 0 0], .int .i64 E]) (by simp [results, Tryz.results81, go_sem, c0, c1, c2, c3, c4]) rfl ⟨HU.out.2, VC0, by rw [HF.out]; rfl, by rw [HF.out]; exact isA_zero _ _⟩
          have hE2 : E = 0 := by omega
          clear hE
          subst hE2
          have HRZ : Hid (Rt.size ≤ 3000) := Lib.hid (by have a := HRZ0.out; have b := HBT.out.2; have c := HPN.out; have d := HZ.out.2; omega)
          have HF : Hid (setP ((⟨1, sn, si, sv⟩ : S) :: p) (.mk 5 cn cs l f) x = (replT ⟨1, sn, si, sv⟩ Rt (.mk 5 cn cs l f), 0)) := Lib.hid (by rw [HFZ.out, if_neg (by simp), if_neg (by rintro ⟨h, -⟩; cases h)])
          have hws := HB2.out.2.2.2.2.lt
          have C := Lib.hid (rwith_any ⟨5, cn, cs, la, l.length, lc, some ⟨eb, eo, none⟩, f.length, fc⟩ ⟨rk, rn, rs, rla, rln, rlc, rfa, rfn, rfc⟩ 5 cn cs l f sn Rt U2 (HI.out.is.all HB2.out.1) HRI.out.2.is (by have := HZ.out.1; omega) (by have := HRZ.out; omega))
          have x0 := HB2.out.2.1.cell (i := 0) rfl
          have x1 := HB2.out.2.1.cell (i := 1) rfl
          have x2 := HB2.out.2.1.cell (i := 2) rfl
          have x3 := HB2.out.2.1.cell (i := 3) rfl
          have x4 := HB2.out.2.1.cell (i := 4) rfl
          have z0 := HRI.out.1.cell (i := 0) rfl
          have z1 := HRI.out.1.cell (i := 1) rfl
          have z2 := HRI.out.1.cell (i := 2) rfl
          have z3 := HRI.out.1.cell (i := 3) rfl
          have z4 := HRI.out.1.cell (i := 4) rfl
          have s0 := HB2.out.2.2.2.2.cell (i := 0) rfl
          have s1 := HB2.out.2.2.2.2.cell (i := 1) rfl
          have s2 := HB2.out.2.2.2.2.cell (i := 2) rfl
          have s3 := HB2.out.2.2.2.2.cell (i := 3) rfl
          go_wp2_with fail
          refine C.out.mono ?_
          rintro e w9 ⟨⟨dk, dn, ds, dla, dln, dlc, dfa, dfn, dfc⟩, M, rfl, hb9, hD, hM⟩
          have H9 := Lib.hid (show Below w.heap.size w w9 ∧ Own w9 w.heap.size [.int .i64 5, .int .i64 cn, sV cs, .slice la l.length lc, .slice (some ⟨eb, eo, none⟩) f.length fc] 25 ∧ Own w9 (w.heap.size + 1) [.int .i64 xk, .int .i64 xn, sV xs, .slice xla xln xlc, .slice xfa xfn xfc] 25 ∧ Own w9 (w.heap.size + 1 + 1) [.int .i64 0, .int .i64 0, .string ⟨#[]⟩, .slice none 0 0, .slice none 0 0] 25 ∧ Own w9 (w.heap.size + 1 + 1 + 1) [.int .i64 1, sV sn, .int .i64 si, sV sv] 52 from ⟨below_all HB2.out.1 hb9, HB2.out.2.1.all hb9, HB2.out.2.2.1.all hb9, HB2.out.2.2.2.1.all hb9, HB2.out.2.2.2.2.all hb9⟩)
          have HD := Lib.hid hD
          have HMM : Hid (replT (⟨1, sn, si, sv⟩ : S) Rt (.mk 5 cn cs l f) = .mk 5 0 [] [] M) := Lib.hid (by simp only [replT, if_true]; rw [(mapL_of _).unique hM])
          clear C hb9 hD hM
          clear x0 x1 x2 x3 x4
          clear z0 z1 z2 z3 z4
          clear s0 s1 s2 s3
          have oFin := H9.out.2.2.2.1
          have q0 := oFin.cell (i := 0) rfl
          have q1 := oFin.cell (i := 1) rfl
          have q2 := oFin.cell (i := 2) rfl
          have q3 := oFin.cell (i := 3) rfl
          have q4 := oFin.cell (i := 4) rfl
          have g0 := oFin.frozen 0
          have g1 := oFin.frozen 1
          have g2 := oFin.frozen 2
          have g3 := oFin.frozen 3
          have g4 := oFin.frozen 4
          have HU := Lib.hid (And.intro (own_put5 oFin (.int .i64 dk) (.int .i64 dn) (sV ds) (.slice dla dln dlc) (.slice dfa dfn dfc)) (And.intro (below_put5 (b := w.heap.size + 1 + 1) H9.out.1 (by omega) (.int .i64 dk) (.int .i64 dn) (sV ds) (.slice dla dln dlc) (.slice dfa dfn dfc)) (HD.out.put5 (b := w.heap.size + 1 + 1) (by omega) (.int .i64 dk) (.int .i64 dn) (sV ds) (.slice dla dln dlc) (.slice dfa dfn dfc))))
          clear oFin
          go_wp2
          clear q0 q1 q2 q3 q4 g0 g1 g2 g3 g4
          change bodyPost Tryz.prog Tryz.f81 _ _ _ (put5 w9 (w.heap.size + 1 + 1) (.int .i64 dk) (.int .i64 dn) (sV ds) (.slice dla dln dlc) (.slice dfa dfn dfc))
          generalize put5 w9 (w.heap.size + 1 + 1) (.int .i64 dk) (.int .i64 dn) (sV ds) (.slice dla dln dlc) (.slice dfa dfn dfc) = U at *
          have c0 := HU.out.1.cell (i := 0) rfl
          have c1 := HU.out.1.cell (i := 1) rfl
          have c2 := HU.out.1.cell (i := 2) rfl
          have c3 := HU.out.1.cell (i := 3) rfl
          have c4 := HU.out.1.cell (i := 4) rfl
          exact bodyPost_ret (v := .tuple #[.agg #[.int .i64 dk, .int .i64 dn, sV ds, .slice dla dln dlc, .slice dfa dfn dfc], .int .i64 0]) (by simp [results, Tryz.results81, go_sem, c0, c1, c2, c3, c4]) rfl ⟨HU.out.2.1, ⟨dk, dn, ds, dla, dln, dlc, dfa, dfn, dfc⟩, by rw [HF.out], by rw [HF.out, HMM.out]; exact HU.out.2.2.mono (fun b h => Or.inr (by omega))⟩
      · have e5 : (ck != 5) = true := by rw [bne_iff_ne]; exact h5
        have HF : Hid (setP ((⟨1, sn, si, sv⟩ : S) :: p) (.mk ck cn cs l f) x = (T0, 6)) := Lib.hid (by
          have h : entE (⟨1, sn, si, sv⟩ : S) (.mk ck cn cs l f) = 6 := by unfold entE; simp [h5]
          rw [setP, h, if_pos (by decide)])
        have oFin := HW.out.2.2.2.1
        have q0 := oFin.cell (i := 0) rfl
        have q1 := oFin.cell (i := 1) rfl
        have q2 := oFin.cell (i := 2) rfl
        have q3 := oFin.cell (i := 3) rfl
        have q4 := oFin.cell (i := 4) rfl
        have g0 := oFin.frozen 0
        have g1 := oFin.frozen 1
        have g2 := oFin.frozen 2
        have g3 := oFin.frozen 3
        have g4 := oFin.frozen 4
        have HU := Lib.hid (And.intro (own_put5 oFin (.int .i64 0) (.int .i64 0) (.string ⟨#[]⟩) (.slice none 0 0) (.slice none 0 0)) (below_put5 (b := w.heap.size + 1 + 1) HW.out.1 (by omega) (.int .i64 0) (.int .i64 0) (.string ⟨#[]⟩) (.slice none 0 0) (.slice none 0 0)))
        clear oFin
        go_wp2
        clear q0 q1 q2 q3 q4 g0 g1 g2 g3 g4
        change bodyPost Tryz.prog Tryz.f81 _ _ _ (put5 W (w.heap.size + 1 + 1) (.int .i64 0) (.int .i64 0) (.string ⟨#[]⟩) (.slice none 0 0) (.slice none 0 0))
        generalize put5 W (w.heap.size + 1 + 1) (.int .i64 0) (.int .i64 0) (.string ⟨#[]⟩) (.slice none 0 0) (.slice none 0 0) = U at *
        have c0 := HU.out.1.cell (i := 0) rfl
        have c1 := HU.out.1.cell (i := 1) rfl
        have c2 := HU.out.1.cell (i := 2) rfl
        have c3 := HU.out.1.cell (i := 3) rfl
        have c4 := HU.out.1.cell (i := 4) rfl
        exact bodyPost_ret (v := .tuple #[.agg #[.int .i64 0, .int .i64 0, .string ⟨#[]⟩, .slice none 0 0, .slice none 0 0], .int .i64 6]) (by simp [results, Tryz.results81, go_sem, c0, c1, c2, c3, c4]) rfl ⟨HU.out.2, VC0, by rw [HF.out]; rfl, by rw [HF.out]; exact isA_zero _ _⟩
    · have e1 : (sk == 1) = false := by rw [beq_eq_false_iff_ne]; exact h1
      have e1' : (sk != 1) = true := by rw [bne_iff_ne]; exact h1
      by_cases h4 : ck = 4
      · subst h4
        by_cases h2 : sk = 2
        · subst h2
          have HIX := Lib.hid HSTK.out.1
          by_cases hle : si ≤ (l.length : Int)
          · have HE0 : Hid (entE (⟨2, sn, si, sv⟩ : S) (.mk 4 cn cs l f) = 0) := Lib.hid (by unfold entE; simp; omega)
            have hle2 : ¬ (l.length : Int) < si := by omega
            clear HSTK e1 e1' h1
            go_upto_region 8 with (fail)
            clear x0 x3 s0 s2 hle hle2
            have HPD : Hid (∀ s : S, s = ⟨2, sn, si, sv⟩ → setP (s :: p) (.mk 4 cn cs l f) x = if ¬ (setP p ((kid s (.mk 4 cn cs l f)).getD (newT s)) x).2 = 0 then (T0, (setP p ((kid s (.mk 4 cn cs l f)).getD (newT s)) x).2) else if s.k = 3 ∧ hasK s.nm s.vl (setP p ((kid s (.mk 4 cn cs l f)).getD (newT s)) x).1 = false then (T0, 6) else (replT s (setP p ((kid s (.mk 4 cn cs l f)).getD (newT s)) x).1 (.mk 4 cn cs l f), 0)) := Lib.hid (fun s e => by rw [setP, if_neg (by rw [e, HE0.out]; simp)])
            clear HE0
            obtain ⟨pl, hpl⟩ : ∃ pl, place (⟨2, sn, si, sv⟩ : S) (.mk 4 cn cs l f) = pl := ⟨_, rfl⟩
            have C := Lib.hid (pfind_any ⟨4, cn, cs, la, l.length, lc, fa, f.length, fc⟩ (.mk 4 cn cs l f) ⟨2, sn, si, sv⟩ W (HI.out.is.all HW.out.1) HSOK.out)
            rw [hpl] at C
            have HPL := Lib.hid hpl
            clear hpl
            have x0 := HW.out.2.1.cell (i := 0) rfl
            have x1 := HW.out.2.1.cell (i := 1) rfl
            have x2 := HW.out.2.1.cell (i := 2) rfl
            have x3 := HW.out.2.1.cell (i := 3) rfl
            have x4 := HW.out.2.1.cell (i := 4) rfl
            have s0 := HW.out.2.2.2.2.cell (i := 0) rfl
            have s1 := HW.out.2.2.2.2.cell (i := 1) rfl
            have s2 := HW.out.2.2.2.2.cell (i := 2) rfl
            have s3 := HW.out.2.2.2.2.cell (i := 3) rfl
            go_wp2_with fail
            refine C.out.mono ?_
            rintro e w1 ⟨rfl, hb1⟩
            have HW1 := Lib.hid (show Below w.heap.size w w1 ∧ Own w1 w.heap.size [.int .i64 4, .int .i64 cn, sV cs, .slice la l.length lc, .slice fa f.length fc] 25 ∧ Own w1 (w.heap.size + 1) [.int .i64 xk, .int .i64 xn, sV xs, .slice xla xln xlc, .slice xfa xfn xfc] 25 ∧ Own w1 (w.heap.size + 1 + 1) [.int .i64 0, .int .i64 0, .string ⟨#[]⟩, .slice none 0 0, .slice none 0 0] 25 ∧ Own w1 (w.heap.size + 1 + 1 + 1) [.int .i64 2, sV sn, .int .i64 si, sV sv] 52 from ⟨below_all HW.out.1 hb1, HW.out.2.1.all hb1, HW.out.2.2.1.all hb1, HW.out.2.2.2.1.all hb1, HW.out.2.2.2.2.all hb1⟩)
            clear C hb1 HW
            clear x0 x1 x2 x3 x4
            clear s0 s1 s2 s3
            have C := Lib.hid (pfreshA_any ⟨2, sn, si, sv⟩ w1)
            have s0 := HW1.out.2.2.2.2.cell (i := 0) rfl
            have s1 := HW1.out.2.2.2.2.cell (i := 1) rfl
            have s2 := HW1.out.2.2.2.2.cell (i := 2) rfl
            have s3 := HW1.out.2.2.2.2.cell (i := 3) rfl
            go_wp2_with fail
            refine C.out.mono ?_
            rintro e w2 ⟨⟨bk, bn, bs, bla, bln, blc, bfa, bfn, bfc⟩, rfl, hb2, hN⟩
            have hbA := below_alloc w2 (.cells #[.int .i64 bk, .int .i64 bn, sV bs, .slice bla bln blc, .slice bfa bfn bfc] 25)
            have HA1 := Lib.hid (show Below w.heap.size w w2 ∧ Own w2 w.heap.size [.int .i64 4, .int .i64 cn, sV cs, .slice la l.length lc, .slice fa f.length fc] 25 ∧ Own w2 (w.heap.size + 1) [.int .i64 xk, .int .i64 xn, sV xs, .slice xla xln xlc, .slice xfa xfn xfc] 25 ∧ Own w2 (w.heap.size + 1 + 1) [.int .i64 0, .int .i64 0, .string ⟨#[]⟩, .slice none 0 0, .slice none 0 0] 25 ∧ Own w2 (w.heap.size + 1 + 1 + 1) [.int .i64 2, sV sn, .int .i64 si, sV sv] 52 from ⟨below_all HW1.out.1 hb2, HW1.out.2.1.all hb2, HW1.out.2.2.1.all hb2, HW1.out.2.2.2.1.all hb2, HW1.out.2.2.2.2.all hb2⟩)
            have HW2 := Lib.hid (show Below w.heap.size w (w2.alloc (.cells #[.int .i64 bk, .int .i64 bn, sV bs, .slice bla bln blc, .slice bfa bfn bfc] 25)) ∧ Own (w2.alloc (.cells #[.int .i64 bk, .int .i64 bn, sV bs, .slice bla bln blc, .slice bfa bfn bfc] 25)) w.heap.size [.int .i64 4, .int .i64 cn, sV cs, .slice la l.length lc, .slice fa f.length fc] 25 ∧ Own (w2.alloc (.cells #[.int .i64 bk, .int .i64 bn, sV bs, .slice bla bln blc, .slice bfa bfn bfc] 25)) (w.heap.size + 1) [.int .i64 xk, .int .i64 xn, sV xs, .slice xla xln xlc, .slice xfa xfn xfc] 25 ∧ Own (w2.alloc (.cells #[.int .i64 bk, .int .i64 bn, sV bs, .slice bla bln blc, .slice bfa bfn bfc] 25)) (w.heap.size + 1 + 1) [.int .i64 0, .int .i64 0, .string ⟨#[]⟩, .slice none 0 0, .slice none 0 0] 25 ∧ Own (w2.alloc (.cells #[.int .i64 bk, .int .i64 bn, sV bs, .slice bla bln blc, .slice bfa bfn bfc] 25)) (w.heap.size + 1 + 1 + 1) [.int .i64 2, sV sn, .int .i64 si, sV sv] 52 from ⟨below_all HA1.out.1 hbA, HA1.out.2.1.all hbA, HA1.out.2.2.1.all hbA, HA1.out.2.2.2.1.all hbA, HA1.out.2.2.2.2.all hbA⟩)
            have HNB := Lib.hid (And.intro (Own.new w2 [.int .i64 bk, .int .i64 bn, sV bs, .slice bla bln blc, .slice bfa bfn bfc] 25) (hN.lt.all hbA))
            have hs1 := HW1.out.2.2.2.2.lt
            have hs2 := hb2.size
            clear C hb2 hbA hN HA1 HW1
            clear s0 s1 s2 s3
            go_upto_region 10 with (fail)
            change Code.wp Tryz.prog _ _ _ (w2.alloc (.cells #[.int .i64 bk, .int .i64 bn, sV bs, .slice bla bln blc, .slice bfa bfn bfc] 25))
            generalize hVV : w2.alloc (.cells #[.int .i64 bk, .int .i64 bn, sV bs, .slice bla bln blc, .slice bfa bfn bfc] 25) = V2 at *
            have hVs : w2.heap.size < V2.heap.size := by rw [← hVV, size_alloc]; omega
            clear hVV
            generalize w2.heap.size = nb at *
            have hnb : w.heap.size + 1 + 1 + 1 < nb := by omega
            have z0 := HW2.out.2.2.2.2.cell (i := 0) rfl
            cases pl with
            | none =>
              have HKD : Hid (kid (⟨2, sn, si, sv⟩ : S) (.mk 4 cn cs l f) = none) := Lib.hid (by unfold kid; rw [HPL.out])
              simp only [ixO]
              have HW3 := HW2
              have HNB3 := Lib.hid (And.intro HNB.out.1 (IsA.mono (A' := fun b => A b ∨ (w.heap.size + 4 ≤ b ∧ b < nb)) HNB.out.2 (fun b h => Or.inr ⟨by omega, h.2⟩)))
              clear HNB HW2
              go_upto_region 14 with (fail)
              clear z0
              change Code.wp Tryz.prog _ _ _ V2
              generalize V2 = W1 at *
              have hW1s : nb < W1.heap.size := HNB3.out.1.lt
              obtain ⟨bT, hbT⟩ : ∃ bT, newT (⟨2, sn, si, sv⟩ : S) = bT := ⟨_, rfl⟩
              have HBT : Hid ((kid (⟨2, sn, si, sv⟩ : S) (.mk 4 cn cs l f)).getD (newT (⟨2, sn, si, sv⟩ : S)) = bT ∧ bT.size ≤ 700) := Lib.hid ⟨by rw [HKD.out]; exact hbT, by rw [← hbT]; have := newT_size (⟨2, sn, si, sv⟩ : S); omega⟩
              rw [hbT] at HNB3
              clear hbT
              have z0 := cell_regrown (HNB3.out.1.cell (i := 0) rfl)
              have z1 := cell_regrown (HNB3.out.1.cell (i := 1) rfl)
              have z2 := cell_regrown (HNB3.out.1.cell (i := 2) rfl)
              have z3 := cell_regrown (HNB3.out.1.cell (i := 3) rfl)
              have z4 := cell_regrown (HNB3.out.1.cell (i := 4) rfl)
              have y0 := cell_regrown (HW3.out.2.2.1.cell (i := 0) rfl)
              have y1 := cell_regrown (HW3.out.2.2.1.cell (i := 1) rfl)
              have y2 := cell_regrown (HW3.out.2.2.1.cell (i := 2) rfl)
              have y3 := cell_regrown (HW3.out.2.2.1.cell (i := 3) rfl)
              have y4 := cell_regrown (HW3.out.2.2.1.cell (i := 4) rfl)
              refine wp_region_multiE 5 #[true, true, true, true, true, false, false, false, false, false] (fun i => i == 4) (fun _ _ u w' => ∃ c' : VC, u = .tuple #[c'.val, .int .i64 (setP p bT x).2] ∧ IsA w' (fun b => (A b ∨ (w.heap.size + 4 ≤ b ∧ b < nb)) ∨ W1.heap.size ≤ b) c' (setP p bT x).1) (fun _ u => ∃ c' : VC, u = .tuple #[c'.val, .int .i64 (setP p bT x).2]) (by kernel_rfl) (by kernel_rfl)
                (fun _ _ _ w1 w2 ⟨c', h1, h2⟩ hb => ⟨c', h1, h2.all hb⟩) (fun _ => ⟨_, VC0, rfl⟩) ?_
              simp only [List.take_succ_cons, List.take_zero, List.drop_succ_cons, List.drop_zero]
              refine wpM_stretch 4 rfl rfl rfl rfl ?_
              simp only [List.take_succ_cons, List.take_zero, List.drop_succ_cons, List.drop_zero]
              repeat (first | go_big_quiet_step (fail) | quiet_step (fail))
              refine wpQuiet_nil ?_
              refine wpM_dem rfl rfl rfl ?_ ?_
              · rintro _ ⟨pp, rfl⟩
                go_simp
                simp only [demUpon]
                have hbp := below_all HW3.out.1 (below_regrown W1 pp.d pp.os)
                have hsz := (below_regrown W1 pp.d pp.os).size
                refine ⟨trivial, (IH.out (.slice (if cp = 1 then some ⟨pb, off, none⟩ else some ⟨pb, off + 4, none⟩) p.length (cp - 1)) _ (Flat.all HTL.out hbp) (fun b => A b ∨ (w.heap.size + 4 ≤ b ∧ b < nb)) (fun b h => by rcases h with h | h; have := HAA.out b h; omega; omega) ⟨bk, bn, bs, bla, bln, blc, bfa, bfn, bfc⟩ ⟨xk, xn, xs, xla, xln, xlc, xfa, xfn, xfc⟩ bT x (HNB3.out.2.all (below_regrown W1 pp.d pp.os)) ((HX.out.all hbp).mono (fun b h => Or.inl h)) HBT.out.2 HZ.out.2 HPN.out HALL.out).mono ?_⟩
                rintro e w6 ⟨hb6, c', rfl, h2⟩
                exact ⟨_, rfl, ⟨c', rfl⟩, hb6, c', rfl, h2.mono (fun b h => by rcases h with h | h; exact Or.inl h; exact Or.inr (by omega))⟩
              rintro _ ⟨⟨rk, rn, rs, rla, rln, rlc, rfa, rfn, rfc⟩, rfl⟩
              refine wpM_end ?_
              rintro U hbU ⟨-, c2, he2, hR⟩
              obtain rfl : (⟨rk, rn, rs, rla, rln, rlc, rfa, rfn, rfc⟩ : VC) = c2 := VC.val_inj (by simpa using he2)
              have oN := HNB3.out.1.all hbU
              have hN0 := oN.cell (i := 0) rfl
              have hN1 := oN.cell (i := 1) rfl
              have hN2 := oN.cell (i := 2) rfl
              have hN3 := oN.cell (i := 3) rfl
              have hN4 := oN.cell (i := 4) rfl
              have fN0 := oN.frozen 0
              have fN1 := oN.frozen 1
              have fN2 := oN.frozen 2
              have fN3 := oN.frozen 3
              have fN4 := oN.frozen 4
              have HB2 := Lib.hid (show Below w.heap.size w (put5 U nb (.int .i64 rk) (.int .i64 rn) (sV rs) (.slice rla rln rlc) (.slice rfa rfn rfc)) ∧ Own (put5 U nb (.int .i64 rk) (.int .i64 rn) (sV rs) (.slice rla rln rlc) (.slice rfa rfn rfc)) w.heap.size [.int .i64 4, .int .i64 cn, sV cs, .slice la l.length lc, .slice fa f.length fc] 25 ∧ Own (put5 U nb (.int .i64 rk) (.int .i64 rn) (sV rs) (.slice rla rln rlc) (.slice rfa rfn rfc)) (w.heap.size + 1) [.int .i64 xk, .int .i64 xn, sV xs, .slice xla xln xlc, .slice xfa xfn xfc] 25 ∧ Own (put5 U nb (.int .i64 rk) (.int .i64 rn) (sV rs) (.slice rla rln rlc) (.slice rfa rfn rfc)) (w.heap.size + 1 + 1) [.int .i64 0, .int .i64 0, .string ⟨#[]⟩, .slice none 0 0, .slice none 0 0] 25 ∧ Own (put5 U nb (.int .i64 rk) (.int .i64 rn) (sV rs) (.slice rla rln rlc) (.slice rfa rfn rfc)) (w.heap.size + 1 + 1 + 1) [.int .i64 2, sV sn, .int .i64 si, sV sv] 52 from ⟨below_put5 (b := nb) (below_all HW3.out.1 hbU) (by omega) (.int .i64 rk) (.int .i64 rn) (sV rs) (.slice rla rln rlc) (.slice rfa rfn rfc), Own.put5n (c := nb) (HW3.out.2.1.all hbU) (by omega) (.int .i64 rk) (.int .i64 rn) (sV rs) (.slice rla rln rlc) (.slice rfa rfn rfc), Own.put5n (c := nb) (HW3.out.2.2.1.all hbU) (by omega) (.int .i64 rk) (.int .i64 rn) (sV rs) (.slice rla rln rlc) (.slice rfa rfn rfc), Own.put5n (c := nb) (HW3.out.2.2.2.1.all hbU) (by omega) (.int .i64 rk) (.int .i64 rn) (sV rs) (.slice rla rln rlc) (.slice rfa rfn rfc), Own.put5n (c := nb) (HW3.out.2.2.2.2.all hbU) (by omega) (.int .i64 rk) (.int .i64 rn) (sV rs) (.slice rla rln rlc) (.slice rfa rfn rfc)⟩)
              have HRI := Lib.hid (And.intro (own_put5 oN (.int .i64 rk) (.int .i64 rn) (sV rs) (.slice rla rln rlc) (.slice rfa rfn rfc)) ((hR.mono (A' := fun b => (A b ∨ w.heap.size + 4 ≤ b) ∧ ¬ b = nb) (fun b h => by rcases h with (h | h) | h; exact ⟨Or.inl h, by have := HAA.out b h; omega⟩; exact ⟨Or.inr h.1, by omega⟩; exact ⟨Or.inr (by omega), by omega⟩)).put5 (b := nb) (fun h => h.2 rfl) (.int .i64 rk) (.int .i64 rn) (sV rs) (.slice rla rln rlc) (.slice rfa rfn rfc)))
              clear z0 z1 z2 z3 z4 y0 y1 y2 y3 y4 hbU hR oN he2 HW3 HNB3
              refine wpAny_take (i := 5) rfl (by kernel_rfl) (by kernel_rfl) (by kernel_rfl) (fun _ _ _ h => h) (Or.inl ⟨by rfl, by intro w0; go_simp; try with_reducible rfl⟩) ?_
              refine wpAny_take (i := 6) rfl (by kernel_rfl) (by kernel_rfl) (by kernel_rfl) (fun _ _ _ h => h) (Or.inl ⟨by rfl, by intro w0; go_simp; try with_reducible rfl⟩) ?_
              refine wpAny_take (i := 7) rfl (by kernel_rfl) (by kernel_rfl) (by kernel_rfl) (fun _ _ _ h => h) (Or.inl ⟨by rfl, by intro w0; go_simp; try with_reducible rfl⟩) ?_
              refine wpAny_ready (rs := [8]) (by kernel_rfl) (by simp) ?_
              refine AllReady.cons rfl (fun K hK => ?_) AllReady.nil
              go_simp
              refine hK _ _ ?_
              clear hK K
              refine wpAny_take (i := 9) rfl (by kernel_rfl) (by kernel_rfl) (by kernel_rfl) (fun _ _ _ h => h) (Or.inl ⟨by rfl, by intro w0; go_simp; try with_reducible rfl⟩) ?_
              refine wpAny_done (by kernel_rfl) ?_ _
              generalize (if cp = 1 then some (⟨pb, off, none⟩ : Addr) else some ⟨pb, off + 4, none⟩) = tp at *
              go_upto_region 15 with (fail)
              clear hN0 hN1 hN2 hN3 hN4 fN0 fN1 fN2 fN3 fN4
              change Code.wp Tryz.prog _ _ _ (put5 U nb (.int .i64 rk) (.int .i64 rn) (sV rs) (.slice rla rln rlc) (.slice rfa rfn rfc))
              generalize put5 U nb (.int .i64 rk) (.int .i64 rn) (sV rs) (.slice rla rln rlc) (.slice rfa rfn rfc) = U2 at *
              have HFZ := Lib.hid (HPD.out ⟨2, sn, si, sv⟩ rfl)
              rw [HBT.out.1] at HFZ
              have HRZ0 := Lib.hid (setP_size p bT x HALL.out)
              clear HPD
              generalize (setP p bT x).1 = Rt at *
              generalize (setP p bT x).2 = E at *
              have hu2 : w.heap.size + 1 + 1 + 1 < U2.heap.size := HB2.out.2.2.2.2.lt
              by_cases hE : ¬ E = 0
              · have HF : Hid (setP ((⟨2, sn, si, sv⟩ : S) :: p) (.mk 4 cn cs l f) x = (T0, E)) := Lib.hid (by rw [HFZ.out, if_pos hE])
                have hne : (E != 0) = true := by simpa using hE
                have oFin := HB2.out.2.2.2.1
                have q0 := oFin.cell (i := 0) rfl
                have q1 := oFin.cell (i := 1) rfl
                have q2 := oFin.cell (i := 2) rfl
                have q3 := oFin.cell (i := 3) rfl
                have q4 := oFin.cell (i := 4) rfl
                have g0 := oFin.frozen 0
                have g1 := oFin.frozen 1
                have g2 := oFin.frozen 2
                have g3 := oFin.frozen 3
                have g4 := oFin.frozen 4
                have HU := Lib.hid (And.intro (own_put5 oFin (.int .i64 0) (.int .i64 0) (.string ⟨#[]⟩) (.slice none 0 0) (.slice none 0 0)) (below_put5 (b := w.heap.size + 1 + 1) HB2.out.1 (by omega) (.int .i64 0) (.int .i64 0) (.string ⟨#[]⟩) (.slice none 0 0) (.slice none 0 0)))
                clear oFin
                go_wp2
                clear q0 q1 q2 q3 q4 g0 g1 g2 g3 g4
                change bodyPost Tryz.prog Tryz.f81 _ _ _ (put5 U2 (w.heap.size + 1 + 1) (.int .i64 0) (.int .i64 0) (.string ⟨#[]⟩) (.slice none 0 0) (.slice none 0 0))
                generalize put5 U2 (w.heap.size + 1 + 1) (.int .i64 0) (.int .i64 0) (.string ⟨#[]⟩) (.slice none 0 0) (.slice none 0 0) = U at *
                have c0 := HU.out.1.cell (i := 0) rfl
                have c1 := HU.out.1.cell (i := 1) rfl
                have c2 := HU.out.1.cell (i := 2) rfl
                have c3 := HU.out.1.cell (i := 3) rfl
                have c4 := HU.out.1.cell (i := 4) rfl
                exact bodyPost_ret (v := .tuple #[.agg #[.int .i64 0, .int .i64 0, .string ⟨#[]⟩, .slice none 0 0, .slice none 0 0], .int .i64 E]) (by simp [results, Tryz.results81, go_sem, c0, c1, c2, c3, c4]) rfl ⟨HU.out.2, VC0, by rw [HF.out]; rfl, by rw [HF.out]; exact isA_zero _ _⟩
              have hE2 : E = 0 := by omega
              clear hE
              subst hE2
              have HRZ : Hid (Rt.size ≤ 3000) := Lib.hid (by have a := HRZ0.out; have b := HBT.out.2; have c := HPN.out; have d := HZ.out.2; omega)
              have HF : Hid (setP ((⟨2, sn, si, sv⟩ : S) :: p) (.mk 4 cn cs l f) x = (replT ⟨2, sn, si, sv⟩ Rt (.mk 4 cn cs l f), 0)) := Lib.hid (by rw [HFZ.out, if_neg (by simp), if_neg (by rintro ⟨h, -⟩; cases h)])
              have hws := HB2.out.2.2.2.2.lt
              have C := Lib.hid (preplacedA_any ⟨rk, rn, rs, rla, rln, rlc, rfa, rfn, rfc⟩ (.slice la l.length lc) l Rt l.length U2 (fun b => A b ∨ w.heap.size + 4 ≤ b) (HI.out.vals.all HB2.out.1 (fun b h => Or.inl h)) (HRI.out.2.mono (fun b h => h.1)) (by omega) HLL.out)
              have z0 := HRI.out.1.cell (i := 0) rfl
              have z1 := HRI.out.1.cell (i := 1) rfl
              have z2 := HRI.out.1.cell (i := 2) rfl
              have z3 := HRI.out.1.cell (i := 3) rfl
              have z4 := HRI.out.1.cell (i := 4) rfl
              have x3 := HB2.out.2.1.cell (i := 3) rfl
              have s0 := HB2.out.2.2.2.2.cell (i := 0) rfl
              go_wp2_with fail
              refine C.out.mono ?_
              rintro e w9 ⟨v9, rfl, hb9, hV9⟩
              have H9 := Lib.hid (show Below w.heap.size w w9 ∧ Own w9 w.heap.size [.int .i64 4, .int .i64 cn, sV cs, .slice la l.length lc, .slice fa f.length fc] 25 ∧ Own w9 (w.heap.size + 1) [.int .i64 xk, .int .i64 xn, sV xs, .slice xla xln xlc, .slice xfa xfn xfc] 25 ∧ Own w9 (w.heap.size + 1 + 1) [.int .i64 0, .int .i64 0, .string ⟨#[]⟩, .slice none 0 0, .slice none 0 0] 25 ∧ Own w9 (w.heap.size + 1 + 1 + 1) [.int .i64 2, sV sn, .int .i64 si, sV sv] 52 from ⟨below_all HB2.out.1 hb9, HB2.out.2.1.all hb9, HB2.out.2.2.1.all hb9, HB2.out.2.2.2.1.all hb9, HB2.out.2.2.2.2.all hb9⟩)
              have HV := Lib.hid (show ValsA w9 (fun b => (A b ∨ w.heap.size + 4 ≤ b) ∨ U2.heap.size ≤ b) v9 (l ++ [Rt]) from (by have h := hV9; rw [if_neg (by omega)] at h; exact h))
              obtain ⟨da, dcap, rfl, -, -⟩ : ∃ a c, v9 = .slice a (l ++ [Rt]).length c ∧ True ∧ True := by
                obtain ⟨cs', h1, h2, h3⟩ := HV.out.out
                obtain ⟨a, c, h4, -⟩ := h2.out
                exact ⟨a, c, h4, trivial, trivial⟩
              have HT9 : Hid (replT (⟨2, sn, si, sv⟩ : S) Rt (.mk 4 cn cs l f) = .mk 4 0 [] (l ++ [Rt]) []) := Lib.hid (by simp only [replT, if_neg (show ¬ (2 : Int) = 1 by decide), HPL.out])
              obtain ⟨dn, hdn⟩ : ∃ n, (l ++ [Rt]).length = n := ⟨_, rfl⟩
              rw [hdn] at HV ⊢
              have HI9 := Lib.hid (IsA.of (c := ⟨4, 0, [], da, dn, dcap, none, 0, 0⟩) (f := []) HV.out ⟨[], rfl, FlatA.nil _ _ _, fun i x t h => by simp at h, fun i x t h => by simp at h⟩)
              clear C hb9 hV9 hdn HV
              clear z0 z1 z2 z3 z4
              clear x3 s0
              have oFin := H9.out.2.2.2.1
              have q0 := oFin.cell (i := 0) rfl
              have q1 := oFin.cell (i := 1) rfl
              have q2 := oFin.cell (i := 2) rfl
              have q3 := oFin.cell (i := 3) rfl
              have q4 := oFin.cell (i := 4) rfl
              have g0 := oFin.frozen 0
              have g1 := oFin.frozen 1
              have g2 := oFin.frozen 2
              have g3 := oFin.frozen 3
              have g4 := oFin.frozen 4
              have HU := Lib.hid (And.intro (own_put5 oFin (.int .i64 4) (.int .i64 0) (.string ⟨#[]⟩) (.slice da dn dcap) (.slice none 0 0)) (And.intro (below_put5 (b := w.heap.size + 1 + 1) H9.out.1 (by omega) (.int .i64 4) (.int .i64 0) (.string ⟨#[]⟩) (.slice da dn dcap) (.slice none 0 0)) (HI9.out.put5 (b := w.heap.size + 1 + 1) (fun h => by rcases h with (h | h) | h; have := HAA.out _ h; omega; omega; omega) (.int .i64 4) (.int .i64 0) (.string ⟨#[]⟩) (.slice da dn dcap) (.slice none 0 0))))
              clear oFin
              go_wp2
              clear q0 q1 q2 q3 q4 g0 g1 g2 g3 g4
              change bodyPost Tryz.prog Tryz.f81 _ _ _ (put5 w9 (w.heap.size + 1 + 1) (.int .i64 4) (.int .i64 0) (.string ⟨#[]⟩) (.slice da dn dcap) (.slice none 0 0))
              generalize put5 w9 (w.heap.size + 1 + 1) (.int .i64 4) (.int .i64 0) (.string ⟨#[]⟩) (.slice da dn dcap) (.slice none 0 0) = U at *
              have c0 := HU.out.1.cell (i := 0) rfl
              have c1 := HU.out.1.cell (i := 1) rfl
              have c2 := HU.out.1.cell (i := 2) rfl
              have c3 := HU.out.1.cell (i := 3) rfl
              have c4 := HU.out.1.cell (i := 4) rfl
              exact bodyPost_ret (v := .tuple #[.agg #[.int .i64 4, .int .i64 0, .string ⟨#[]⟩, .slice da dn dcap, .slice none 0 0], .int .i64 0]) (by simp [results, Tryz.results81, go_sem, c0, c1, c2, c3, c4]) rfl ⟨HU.out.2.1, ⟨4, 0, [], da, dn, dcap, none, 0, 0⟩, (by rw [HF.out]; try rfl), by rw [HF.out, HT9.out]; exact HU.out.2.2.mono (fun b h => by rcases h with (h | h) | h; exact Or.inl h; exact Or.inr (by omega); exact Or.inr (by omega))⟩
            | some i =>
              have hlt := place_lt HIX.out HPL.out
              simp only [if_neg (show ¬ (2 : Int) = 1 by decide)] at hlt
              obtain ⟨pr, hpr⟩ : ∃ pr, l[i]? = some pr := ⟨_, List.getElem?_eq_getElem hlt⟩
              have HKD : Hid (kid (⟨2, sn, si, sv⟩ : S) (.mk 4 cn cs l f) = some pr) := Lib.hid (by unfold kid; rw [HPL.out]; simp only [kidAt, if_neg (show ¬ (2 : Int) = 1 by decide), hpr])
              obtain ⟨eb, eo, ⟨ek, en, es, ela, eln, elc, efa, efn, efc⟩, rfl, heb, hIe, m0, m1, m2, m3, m4⟩ := (show ValsA w A (.slice la l.length lc) l from HI.out.vals).at HW2.out.1 hpr
              have HIE := Lib.hid hIe
              have HLT := Lib.hid hlt
              clear hIe hpr hlt
              simp only [ixO]
              have z3 := HW2.out.2.1.cell (i := 3) rfl
              have y0 := HNB.out.1.cell (i := 0) rfl
              have y1 := HNB.out.1.cell (i := 1) rfl
              have y2 := HNB.out.1.cell (i := 2) rfl
              have y3 := HNB.out.1.cell (i := 3) rfl
              have y4 := HNB.out.1.cell (i := 4) rfl
              have w0 := HNB.out.1.frozen 0
              have w1' := HNB.out.1.frozen 1
              have w2' := HNB.out.1.frozen 2
              have w3' := HNB.out.1.frozen 3
              have w4' := HNB.out.1.frozen 4
              have HW3 := Lib.hid (show Below w.heap.size w (put5 V2 nb (.int .i64 ek) (.int .i64 en) (sV es) (.slice ela eln elc) (.slice efa efn efc)) ∧ Own (put5 V2 nb (.int .i64 ek) (.int .i64 en) (sV es) (.slice ela eln elc) (.slice efa efn efc)) w.heap.size [.int .i64 4, .int .i64 cn, sV cs, .slice (some ⟨eb, eo, none⟩) l.length lc, .slice fa f.length fc] 25 ∧ Own (put5 V2 nb (.int .i64 ek) (.int .i64 en) (sV es) (.slice ela eln elc) (.slice efa efn efc)) (w.heap.size + 1) [.int .i64 xk, .int .i64 xn, sV xs, .slice xla xln xlc, .slice xfa xfn xfc] 25 ∧ Own (put5 V2 nb (.int .i64 ek) (.int .i64 en) (sV es) (.slice ela eln elc) (.slice efa efn efc)) (w.heap.size + 1 + 1) [.int .i64 0, .int .i64 0, .string ⟨#[]⟩, .slice none 0 0, .slice none 0 0] 25 ∧ Own (put5 V2 nb (.int .i64 ek) (.int .i64 en) (sV es) (.slice ela eln elc) (.slice efa efn efc)) (w.heap.size + 1 + 1 + 1) [.int .i64 2, sV sn, .int .i64 si, sV sv] 52 from ⟨below_put5 (b := nb) HW2.out.1 (by omega) (.int .i64 ek) (.int .i64 en) (sV es) (.slice ela eln elc) (.slice efa efn efc), Own.put5n (c := nb) HW2.out.2.1 (by omega) (.int .i64 ek) (.int .i64 en) (sV es) (.slice ela eln elc) (.slice efa efn efc), Own.put5n (c := nb) HW2.out.2.2.1 (by omega) (.int .i64 ek) (.int .i64 en) (sV es) (.slice ela eln elc) (.slice efa efn efc), Own.put5n (c := nb) HW2.out.2.2.2.1 (by omega) (.int .i64 ek) (.int .i64 en) (sV es) (.slice ela eln elc) (.slice efa efn efc), Own.put5n (c := nb) HW2.out.2.2.2.2 (by omega) (.int .i64 ek) (.int .i64 en) (sV es) (.slice ela eln elc) (.slice efa efn efc)⟩)
              have HNB3 := Lib.hid (And.intro (own_put5 HNB.out.1 (.int .i64 ek) (.int .i64 en) (sV es) (.slice ela eln elc) (.slice efa efn efc)) ((IsA.mono (A' := fun b => A b ∨ (w.heap.size + 4 ≤ b ∧ b < nb)) HIE.out (fun b h => Or.inl h)).put5 (b := nb) (fun h => by rcases h with h | h; have := HAA.out _ h; omega; omega) (.int .i64 ek) (.int .i64 en) (sV es) (.slice ela eln elc) (.slice efa efn efc)))
              clear HIE
              go_upto_region 14 with (fail)
              clear z0 z3 m0 m1 m2 m3 m4 y0 y1 y2 y3 y4 w0 w1' w2' w3' w4' HNB HW2
              change Code.wp Tryz.prog _ _ _ (put5 V2 nb (.int .i64 ek) (.int .i64 en) (sV es) (.slice ela eln elc) (.slice efa efn efc))
              generalize hVP : put5 V2 nb (.int .i64 ek) (.int .i64 en) (sV es) (.slice ela eln elc) (.slice efa efn efc) = W1 at *
              have hW1s : nb < W1.heap.size := HNB3.out.1.lt
              clear hVP
              have HBT : Hid ((kid (⟨2, sn, si, sv⟩ : S) (.mk 4 cn cs l f)).getD (newT (⟨2, sn, si, sv⟩ : S)) = pr ∧ (pr).size ≤ 700) := Lib.hid ⟨by rw [HKD.out]; rfl, Int.le_trans (kid_size HKD.out) HZ.out.1⟩
              generalize pr = bT at *
              have z0 := cell_regrown (HNB3.out.1.cell (i := 0) rfl)
              have z1 := cell_regrown (HNB3.out.1.cell (i := 1) rfl)
              have z2 := cell_regrown (HNB3.out.1.cell (i := 2) rfl)
              have z3 := cell_regrown (HNB3.out.1.cell (i := 3) rfl)
              have z4 := cell_regrown (HNB3.out.1.cell (i := 4) rfl)
              have y0 := cell_regrown (HW3.out.2.2.1.cell (i := 0) rfl)
              have y1 := cell_regrown (HW3.out.2.2.1.cell (i := 1) rfl)
              have y2 := cell_regrown (HW3.out.2.2.1.cell (i := 2) rfl)
              have y3 := cell_regrown (HW3.out.2.2.1.cell (i := 3) rfl)
              have y4 := cell_regrown (HW3.out.2.2.1.cell (i := 4) rfl)
              refine wp_region_multiE 5 #[true, true, true, true, true, false, false, false, false, false] (fun i => i == 4) (fun _ _ u w' => ∃ c' : VC, u = .tuple #[c'.val, .int .i64 (setP p bT x).2] ∧ IsA w' (fun b => (A b ∨ (w.heap.size + 4 ≤ b ∧ b < nb)) ∨ W1.heap.size ≤ b) c' (setP p bT x).1) (fun _ u => ∃ c' : VC, u = .tuple #[c'.val, .int .i64 (setP p bT x).2]) (by kernel_rfl) (by kernel_rfl)
                (fun _ _ _ w1 w2 ⟨c', h1, h2⟩ hb => ⟨c', h1, h2.all hb⟩) (fun _ => ⟨_, VC0, rfl⟩) ?_
              simp only [List.take_succ_cons, List.take_zero, List.drop_succ_cons, List.drop_zero]
              refine wpM_stretch 4 rfl rfl rfl rfl ?_
              simp only [List.take_succ_cons, List.take_zero, List.drop_succ_cons, List.drop_zero]
              repeat (first | go_big_quiet_step (fail) | quiet_step (fail))
              refine wpQuiet_nil ?_
              refine wpM_dem rfl rfl rfl ?_ ?_
              · rintro _ ⟨pp, rfl⟩
                go_simp
                simp only [demUpon]
                have hbp := below_all HW3.out.1 (below_regrown W1 pp.d pp.os)
                have hsz := (below_regrown W1 pp.d pp.os).size
                refine ⟨trivial, (IH.out (.slice (if cp = 1 then some ⟨pb, off, none⟩ else some ⟨pb, off + 4, none⟩) p.length (cp - 1)) _ (Flat.all HTL.out hbp) (fun b => A b ∨ (w.heap.size + 4 ≤ b ∧ b < nb)) (fun b h => by rcases h with h | h; have := HAA.out b h; omega; omega) ⟨ek, en, es, ela, eln, elc, efa, efn, efc⟩ ⟨xk, xn, xs, xla, xln, xlc, xfa, xfn, xfc⟩ bT x (HNB3.out.2.all (below_regrown W1 pp.d pp.os)) ((HX.out.all hbp).mono (fun b h => Or.inl h)) HBT.out.2 HZ.out.2 HPN.out HALL.out).mono ?_⟩
                rintro e w6 ⟨hb6, c', rfl, h2⟩
                exact ⟨_, rfl, ⟨c', rfl⟩, hb6, c', rfl, h2.mono (fun b h => by rcases h with h | h; exact Or.inl h; exact Or.inr (by omega))⟩
              rintro _ ⟨⟨rk, rn, rs, rla, rln, rlc, rfa, rfn, rfc⟩, rfl⟩
              refine wpM_end ?_
              rintro U hbU ⟨-, c2, he2, hR⟩
              obtain rfl : (⟨rk, rn, rs, rla, rln, rlc, rfa, rfn, rfc⟩ : VC) = c2 := VC.val_inj (by simpa using he2)
              have oN := HNB3.out.1.all hbU
              have hN0 := oN.cell (i := 0) rfl
              have hN1 := oN.cell (i := 1) rfl
              have hN2 := oN.cell (i := 2) rfl
              have hN3 := oN.cell (i := 3) rfl
              have hN4 := oN.cell (i := 4) rfl
              have fN0 := oN.frozen 0
              have fN1 := oN.frozen 1
              have fN2 := oN.frozen 2
              have fN3 := oN.frozen 3
              have fN4 := oN.frozen 4
              have HB2 := Lib.hid (show Below w.heap.size w (put5 U nb (.int .i64 rk) (.int .i64 rn) (sV rs) (.slice rla rln rlc) (.slice rfa rfn rfc)) ∧ Own (put5 U nb (.int .i64 rk) (.int .i64 rn) (sV rs) (.slice rla rln rlc) (.slice rfa rfn rfc)) w.heap.size [.int .i64 4, .int .i64 cn, sV cs, .slice (some ⟨eb, eo, none⟩) l.length lc, .slice fa f.length fc] 25 ∧ Own (put5 U nb (.int .i64 rk) (.int .i64 rn) (sV rs) (.slice rla rln rlc) (.slice rfa rfn rfc)) (w.heap.size + 1) [.int .i64 xk, .int .i64 xn, sV xs, .slice xla xln xlc, .slice xfa xfn xfc] 25 ∧ Own (put5 U nb (.int .i64 rk) (.int .i64 rn) (sV rs) (.slice rla rln rlc) (.slice rfa rfn rfc)) (w.heap.size + 1 + 1) [.int .i64 0, .int .i64 0, .string ⟨#[]⟩, .slice none 0 0, .slice none 0 0] 25 ∧ Own (put5 U nb (.int .i64 rk) (.int .i64 rn) (sV rs) (.slice rla rln rlc) (.slice rfa rfn rfc)) (w.heap.size + 1 + 1 + 1) [.int .i64 2, sV sn, .int .i64 si, sV sv] 52 from ⟨below_put5 (b := nb) (below_all HW3.out.1 hbU) (by omega) (.int .i64 rk) (.int .i64 rn) (sV rs) (.slice rla rln rlc) (.slice rfa rfn rfc), Own.put5n (c := nb) (HW3.out.2.1.all hbU) (by omega) (.int .i64 rk) (.int .i64 rn) (sV rs) (.slice rla rln rlc) (.slice rfa rfn rfc), Own.put5n (c := nb) (HW3.out.2.2.1.all hbU) (by omega) (.int .i64 rk) (.int .i64 rn) (sV rs) (.slice rla rln rlc) (.slice rfa rfn rfc), Own.put5n (c := nb) (HW3.out.2.2.2.1.all hbU) (by omega) (.int .i64 rk) (.int .i64 rn) (sV rs) (.slice rla rln rlc) (.slice rfa rfn rfc), Own.put5n (c := nb) (HW3.out.2.2.2.2.all hbU) (by omega) (.int .i64 rk) (.int .i64 rn) (sV rs) (.slice rla rln rlc) (.slice rfa rfn rfc)⟩)
              have HRI := Lib.hid (And.intro (own_put5 oN (.int .i64 rk) (.int .i64 rn) (sV rs) (.slice rla rln rlc) (.slice rfa rfn rfc)) ((hR.mono (A' := fun b => (A b ∨ w.heap.size + 4 ≤ b) ∧ ¬ b = nb) (fun b h => by rcases h with (h | h) | h; exact ⟨Or.inl h, by have := HAA.out b h; omega⟩; exact ⟨Or.inr h.1, by omega⟩; exact ⟨Or.inr (by omega), by omega⟩)).put5 (b := nb) (fun h => h.2 rfl) (.int .i64 rk) (.int .i64 rn) (sV rs) (.slice rla rln rlc) (.slice rfa rfn rfc)))
              clear z0 z1 z2 z3 z4 y0 y1 y2 y3 y4 hbU hR oN he2 HW3 HNB3
              refine wpAny_take (i := 5) rfl (by kernel_rfl) (by kernel_rfl) (by kernel_rfl) (fun _ _ _ h => h) (Or.inl ⟨by rfl, by intro w0; go_simp; try with_reducible rfl⟩) ?_
              refine wpAny_take (i := 6) rfl (by kernel_rfl) (by kernel_rfl) (by kernel_rfl) (fun _ _ _ h => h) (Or.inl ⟨by rfl, by intro w0; go_simp; try with_reducible rfl⟩) ?_
              refine wpAny_take (i := 7) rfl (by kernel_rfl) (by kernel_rfl) (by kernel_rfl) (fun _ _ _ h => h) (Or.inl ⟨by rfl, by intro w0; go_simp; try with_reducible rfl⟩) ?_
              refine wpAny_ready (rs := [8]) (by kernel_rfl) (by simp) ?_
              refine AllReady.cons rfl (fun K hK => ?_) AllReady.nil
              go_simp
              refine hK _ _ ?_
              clear hK K
              refine wpAny_take (i := 9) rfl (by kernel_rfl) (by kernel_rfl) (by kernel_rfl) (fun _ _ _ h => h) (Or.inl ⟨by rfl, by intro w0; go_simp; try with_reducible rfl⟩) ?_
              refine wpAny_done (by kernel_rfl) ?_ _
              generalize (if cp = 1 then some (⟨pb, off, none⟩ : Addr) else some ⟨pb, off + 4, none⟩) = tp at *
              go_upto_region 15 with (fail)
              clear hN0 hN1 hN2 hN3 hN4 fN0 fN1 fN2 fN3 fN4
              change Code.wp Tryz.prog _ _ _ (put5 U nb (.int .i64 rk) (.int .i64 rn) (sV rs) (.slice rla rln rlc) (.slice rfa rfn rfc))
              generalize put5 U nb (.int .i64 rk) (.int .i64 rn) (sV rs) (.slice rla rln rlc) (.slice rfa rfn rfc) = U2 at *
              have HFZ := Lib.hid (HPD.out ⟨2, sn, si, sv⟩ rfl)
              rw [HBT.out.1] at HFZ
              have HRZ0 := Lib.hid (setP_size p bT x HALL.out)
              clear HPD
              generalize (setP p bT x).1 = Rt at *
              generalize (setP p bT x).2 = E at *
              have hu2 : w.heap.size + 1 + 1 + 1 < U2.heap.size := HB2.out.2.2.2.2.lt
              by_cases hE : ¬ E = 0
              · have HF : Hid (setP ((⟨2, sn, si, sv⟩ : S) :: p) (.mk 4 cn cs l f) x = (T0, E)) := Lib.hid (by rw [HFZ.out, if_pos hE])
                have hne : (E != 0) = true := by simpa using hE
                have oFin := HB2.out.2.2.2.1
                have q0 := oFin.cell (i := 0) rfl
                have q1 := oFin.cell (i := 1) rfl
                have q2 := oFin.cell (i := 2) rfl
                have q3 := oFin.cell (i := 3) rfl
                have q4 := oFin.cell (i := 4) rfl
                have g0 := oFin.frozen 0
                have g1 := oFin.frozen 1
                have g2 := oFin.frozen 2
                have g3 := oFin.frozen 3
                have g4 := oFin.frozen 4
                have HU := Lib.hid (And.intro (own_put5 oFin (.int .i64 0) (.int .i64 0) (.string ⟨#[]⟩) (.slice none 0 0) (.slice none 0 0)) (below_put5 (b := w.heap.size + 1 + 1) HB2.out.1 (by omega) (.int .i64 0) (.int .i64 0) (.string ⟨#[]⟩) (.slice none 0 0) (.slice none 0 0)))
                clear oFin
                go_wp2
                clear q0 q1 q2 q3 q4 g0 g1 g2 g3 g4
                change bodyPost Tryz.prog Tryz.f81 _ _ _ (put5 U2 (w.heap.size + 1 + 1) (.int .i64 0) (.int .i64 0) (.string ⟨#[]⟩) (.slice none 0 0) (.slice none 0 0))
                generalize put5 U2 (w.heap.size + 1 + 1) (.int .i64 0) (.int .i64 0) (.string ⟨#[]⟩) (.slice none 0 0) (.slice none 0 0) = U at *
                have c0 := HU.out.1.cell (i := 0) rfl
                have c1 := HU.out.1.cell (i := 1) rfl
                have c2 := HU.out.1.cell (i := 2) rfl
                have c3 := HU.out.1.cell (i := 3) rfl
                have c4 := HU.out.1.cell (i := 4) rfl
                exact bodyPost_ret (v := .tuple #[.agg #[.int .i64 0, .int .i64 0, .string ⟨#[]⟩, .slice none 0 0, .slice none 0 0], .int .i64 E]) (by simp [results, Tryz.results81, go_sem, c0, c1, c2, c3, c4]) rfl ⟨HU.out.2, VC0, by rw [HF.out]; rfl, by rw [HF.out]; exact isA_zero _ _⟩
              have hE2 : E = 0 := by omega
              clear hE
              subst hE2
              have HRZ : Hid (Rt.size ≤ 3000) := Lib.hid (by have a := HRZ0.out; have b := HBT.out.2; have c := HPN.out; have d := HZ.out.2; omega)
              have HF : Hid (setP ((⟨2, sn, si, sv⟩ : S) :: p) (.mk 4 cn cs l f) x = (replT ⟨2, sn, si, sv⟩ Rt (.mk 4 cn cs l f), 0)) := Lib.hid (by rw [HFZ.out, if_neg (by simp), if_neg (by rintro ⟨h, -⟩; cases h)])
              have hws := HB2.out.2.2.2.2.lt
              have C := Lib.hid (preplacedA_any ⟨rk, rn, rs, rla, rln, rlc, rfa, rfn, rfc⟩ (.slice (some ⟨eb, eo, none⟩) l.length lc) l Rt i U2 (fun b => A b ∨ w.heap.size + 4 ≤ b) (HI.out.vals.all HB2.out.1 (fun b h => Or.inl h)) (HRI.out.2.mono (fun b h => h.1)) (by have := HLT.out; omega) HLL.out)
              have z0 := HRI.out.1.cell (i := 0) rfl
              have z1 := HRI.out.1.cell (i := 1) rfl
              have z2 := HRI.out.1.cell (i := 2) rfl
              have z3 := HRI.out.1.cell (i := 3) rfl
              have z4 := HRI.out.1.cell (i := 4) rfl
              have x3 := HB2.out.2.1.cell (i := 3) rfl
              have s0 := HB2.out.2.2.2.2.cell (i := 0) rfl
              go_wp2_with fail
              refine C.out.mono ?_
              rintro e w9 ⟨v9, rfl, hb9, hV9⟩
              have H9 := Lib.hid (show Below w.heap.size w w9 ∧ Own w9 w.heap.size [.int .i64 4, .int .i64 cn, sV cs, .slice (some ⟨eb, eo, none⟩) l.length lc, .slice fa f.length fc] 25 ∧ Own w9 (w.heap.size + 1) [.int .i64 xk, .int .i64 xn, sV xs, .slice xla xln xlc, .slice xfa xfn xfc] 25 ∧ Own w9 (w.heap.size + 1 + 1) [.int .i64 0, .int .i64 0, .string ⟨#[]⟩, .slice none 0 0, .slice none 0 0] 25 ∧ Own w9 (w.heap.size + 1 + 1 + 1) [.int .i64 2, sV sn, .int .i64 si, sV sv] 52 from ⟨below_all HB2.out.1 hb9, HB2.out.2.1.all hb9, HB2.out.2.2.1.all hb9, HB2.out.2.2.2.1.all hb9, HB2.out.2.2.2.2.all hb9⟩)
              have HV := Lib.hid (show ValsA w9 (fun b => (A b ∨ w.heap.size + 4 ≤ b) ∨ U2.heap.size ≤ b) v9 (l.set i Rt) from (by have h := hV9; rw [if_pos HLT.out] at h; exact h))
              obtain ⟨da, dcap, rfl, -, -⟩ : ∃ a c, v9 = .slice a (l.set i Rt).length c ∧ True ∧ True := by
                obtain ⟨cs', h1, h2, h3⟩ := HV.out.out
                obtain ⟨a, c, h4, -⟩ := h2.out
                exact ⟨a, c, h4, trivial, trivial⟩
              have HT9 : Hid (replT (⟨2, sn, si, sv⟩ : S) Rt (.mk 4 cn cs l f) = .mk 4 0 [] (l.set i Rt) []) := Lib.hid (by simp only [replT, if_neg (show ¬ (2 : Int) = 1 by decide), HPL.out])
              obtain ⟨dn, hdn⟩ : ∃ n, (l.set i Rt).length = n := ⟨_, rfl⟩
              rw [hdn] at HV ⊢
              have HI9 := Lib.hid (IsA.of (c := ⟨4, 0, [], da, dn, dcap, none, 0, 0⟩) (f := []) HV.out ⟨[], rfl, FlatA.nil _ _ _, fun i x t h => by simp at h, fun i x t h => by simp at h⟩)
              clear C hb9 hV9 hdn HV
              clear z0 z1 z2 z3 z4
              clear x3 s0
              have oFin := H9.out.2.2.2.1
              have q0 := oFin.cell (i := 0) rfl
              have q1 := oFin.cell (i := 1) rfl
              have q2 := oFin.cell (i := 2) rfl
              have q3 := oFin.cell (i := 3) rfl
              have q4 := oFin.cell (i := 4) rfl
              have g0 := oFin.frozen 0
              have g1 := oFin.frozen 1
              have g2 := oFin.frozen 2
              have g3 := oFin.frozen 3
              have g4 := oFin.frozen 4
              have HU := Lib.hid (And.intro (own_put5 oFin (.int .i64 4) (.int .i64 0) (.string ⟨#[]⟩) (.slice da dn dcap) (.slice none 0 0)) (And.intro (below_put5 (b := w.heap.size + 1 + 1) H9.out.1 (by omega) (.int .i64 4) (.int .i64 0) (.string ⟨#[]⟩) (.slice da dn dcap) (.slice none 0 0)) (HI9.out.put5 (b := w.heap.size + 1 + 1) (fun h => by rcases h with (h | h) | h; have := HAA.out _ h; omega; omega; omega) (.int .i64 4) (.int .i64 0) (.string ⟨#[]⟩) (.slice da dn dcap) (.slice none 0 0))))
              clear oFin
              go_wp2
              clear q0 q1 q2 q3 q4 g0 g1 g2 g3 g4
              change bodyPost Tryz.prog Tryz.f81 _ _ _ (put5 w9 (w.heap.size + 1 + 1) (.int .i64 4) (.int .i64 0) (.string ⟨#[]⟩) (.slice da dn dcap) (.slice none 0 0))
              generalize put5 w9 (w.heap.size + 1 + 1) (.int .i64 4) (.int .i64 0) (.string ⟨#[]⟩) (.slice da dn dcap) (.slice none 0 0) = U at *
              have c0 := HU.out.1.cell (i := 0) rfl
              have c1 := HU.out.1.cell (i := 1) rfl
              have c2 := HU.out.1.cell (i := 2) rfl
              have c3 := HU.out.1.cell (i := 3) rfl
              have c4 := HU.out.1.cell (i := 4) rfl
              exact bodyPost_ret (v := .tuple #[.agg #[.int .i64 4, .int .i64 0, .string ⟨#[]⟩, .slice da dn dcap, .slice none 0 0], .int .i64 0]) (by simp [results, Tryz.results81, go_sem, c0, c1, c2, c3, c4]) rfl ⟨HU.out.2.1, ⟨4, 0, [], da, dn, dcap, none, 0, 0⟩, (by rw [HF.out]; try rfl), by rw [HF.out, HT9.out]; exact HU.out.2.2.mono (fun b h => by rcases h with (h | h) | h; exact Or.inl h; exact Or.inr (by omega); exact Or.inr (by omega))⟩
          · have hle2 : (l.length : Int) < si := by omega
            clear HSTK e1 e1' h1 hle
            have HF : Hid (setP ((⟨2, sn, si, sv⟩ : S) :: p) (.mk 4 cn cs l f) x = (T0, 5)) := Lib.hid (by
              have h : entE (⟨2, sn, si, sv⟩ : S) (.mk 4 cn cs l f) = 5 := by unfold entE; simp; omega
              rw [setP, h, if_pos (by decide)])
            have oFin := HW.out.2.2.2.1
            have q0 := oFin.cell (i := 0) rfl
            have q1 := oFin.cell (i := 1) rfl
            have q2 := oFin.cell (i := 2) rfl
            have q3 := oFin.cell (i := 3) rfl
            have q4 := oFin.cell (i := 4) rfl
            have g0 := oFin.frozen 0
            have g1 := oFin.frozen 1
            have g2 := oFin.frozen 2
            have g3 := oFin.frozen 3
            have g4 := oFin.frozen 4
            have HU := Lib.hid (And.intro (own_put5 oFin (.int .i64 0) (.int .i64 0) (.string ⟨#[]⟩) (.slice none 0 0) (.slice none 0 0)) (below_put5 (b := w.heap.size + 1 + 1) HW.out.1 (by omega) (.int .i64 0) (.int .i64 0) (.string ⟨#[]⟩) (.slice none 0 0) (.slice none 0 0)))
            clear oFin
            go_wp2
            clear q0 q1 q2 q3 q4 g0 g1 g2 g3 g4
            change bodyPost Tryz.prog Tryz.f81 _ _ _ (put5 W (w.heap.size + 1 + 1) (.int .i64 0) (.int .i64 0) (.string ⟨#[]⟩) (.slice none 0 0) (.slice none 0 0))
            generalize put5 W (w.heap.size + 1 + 1) (.int .i64 0) (.int .i64 0) (.string ⟨#[]⟩) (.slice none 0 0) (.slice none 0 0) = U at *
            have c0 := HU.out.1.cell (i := 0) rfl
            have c1 := HU.out.1.cell (i := 1) rfl
            have c2 := HU.out.1.cell (i := 2) rfl
            have c3 := HU.out.1.cell (i := 3) rfl
            have c4 := HU.out.1.cell (i := 4) rfl
            exact bodyPost_ret (v := .tuple #[.agg #[.int .i64 0, .int .i64 0, .string ⟨#[]⟩, .slice none 0 0, .slice none 0 0], .int .i64 5]) (by simp [results, Tryz.results81, go_sem, c0, c1, c2, c3, c4]) rfl ⟨HU.out.2, VC0, by rw [HF.out]; rfl, by rw [HF.out]; exact isA_zero _ _⟩
        · have h3 : sk = 3 := by have := HSTK.out.2; simp only at this; omega
          subst h3
          have HIX := Lib.hid HSTK.out.1
          have HE0 : Hid (entE (⟨3, sn, si, sv⟩ : S) (.mk 4 cn cs l f) = 0) := Lib.hid (by unfold entE; simp)
          clear HSTK e1 e1' h1 h2
          go_upto_region 8 with (fail)
          clear x0 x3 s0 s2
          have HPD : Hid (∀ s : S, s = ⟨3, sn, si, sv⟩ → setP (s :: p) (.mk 4 cn cs l f) x = if ¬ (setP p ((kid s (.mk 4 cn cs l f)).getD (newT s)) x).2 = 0 then (T0, (setP p ((kid s (.mk 4 cn cs l f)).getD (newT s)) x).2) else if s.k = 3 ∧ hasK s.nm s.vl (setP p ((kid s (.mk 4 cn cs l f)).getD (newT s)) x).1 = false then (T0, 6) else (replT s (setP p ((kid s (.mk 4 cn cs l f)).getD (newT s)) x).1 (.mk 4 cn cs l f), 0)) := Lib.hid (fun s e => by rw [setP, if_neg (by rw [e, HE0.out]; simp)])
          clear HE0
          obtain ⟨pl, hpl⟩ : ∃ pl, place (⟨3, sn, si, sv⟩ : S) (.mk 4 cn cs l f) = pl := ⟨_, rfl⟩
          have C := Lib.hid (pfind_any ⟨4, cn, cs, la, l.length, lc, fa, f.length, fc⟩ (.mk 4 cn cs l f) ⟨3, sn, si, sv⟩ W (HI.out.is.all HW.out.1) HSOK.out)
          rw [hpl] at C
          have HPL := Lib.hid hpl
          clear hpl
          have x0 := HW.out.2.1.cell (i := 0) rfl
          have x1 := HW.out.2.1.cell (i := 1) rfl
          have x2 := HW.out.2.1.cell (i := 2) rfl
          have x3 := HW.out.2.1.cell (i := 3) rfl
          have x4 := HW.out.2.1.cell (i := 4) rfl
          have s0 := HW.out.2.2.2.2.cell (i := 0) rfl
          have s1 := HW.out.2.2.2.2.cell (i := 1) rfl
          have s2 := HW.out.2.2.2.2.cell (i := 2) rfl
          have s3 := HW.out.2.2.2.2.cell (i := 3) rfl
          go_wp2_with fail
          refine C.out.mono ?_
          rintro e w1 ⟨rfl, hb1⟩
          have HW1 := Lib.hid (show Below w.heap.size w w1 ∧ Own w1 w.heap.size [.int .i64 4, .int .i64 cn, sV cs, .slice la l.length lc, .slice fa f.length fc] 25 ∧ Own w1 (w.heap.size + 1) [.int .i64 xk, .int .i64 xn, sV xs, .slice xla xln xlc, .slice xfa xfn xfc] 25 ∧ Own w1 (w.heap.size + 1 + 1) [.int .i64 0, .int .i64 0, .string ⟨#[]⟩, .slice none 0 0, .slice none 0 0] 25 ∧ Own w1 (w.heap.size + 1 + 1 + 1) [.int .i64 3, sV sn, .int .i64 si, sV sv] 52 from ⟨below_all HW.out.1 hb1, HW.out.2.1.all hb1, HW.out.2.2.1.all hb1, HW.out.2.2.2.1.all hb1, HW.out.2.2.2.2.all hb1⟩)
          clear C hb1 HW
          clear x0 x1 x2 x3 x4
          clear s0 s1 s2 s3
          have C := Lib.hid (pfreshA_any ⟨3, sn, si, sv⟩ w1)
          have s0 := HW1.out.2.2.2.2.cell (i := 0) rfl
          have s1 := HW1.out.2.2.2.2.cell (i := 1) rfl
          have s2 := HW1.out.2.2.2.2.cell (i := 2) rfl
          have s3 := HW1.out.2.2.2.2.cell (i := 3) rfl
          go_wp2_with fail
          refine C.out.mono ?_
          rintro e w2 ⟨⟨bk, bn, bs, bla, bln, blc, bfa, bfn, bfc⟩, rfl, hb2, hN⟩
          have hbA := below_alloc w2 (.cells #[.int .i64 bk, .int .i64 bn, sV bs, .slice bla bln blc, .slice bfa bfn bfc] 25)
          have HA1 := Lib.hid (show Below w.heap.size w w2 ∧ Own w2 w.heap.size [.int .i64 4, .int .i64 cn, sV cs, .slice la l.length lc, .slice fa f.length fc] 25 ∧ Own w2 (w.heap.size + 1) [.int .i64 xk, .int .i64 xn, sV xs, .slice xla xln xlc, .slice xfa xfn xfc] 25 ∧ Own w2 (w.heap.size + 1 + 1) [.int .i64 0, .int .i64 0, .string ⟨#[]⟩, .slice none 0 0, .slice none 0 0] 25 ∧ Own w2 (w.heap.size + 1 + 1 + 1) [.int .i64 3, sV sn, .int .i64 si, sV sv] 52 from ⟨below_all HW1.out.1 hb2, HW1.out.2.1.all hb2, HW1.out.2.2.1.all hb2, HW1.out.2.2.2.1.all hb2, HW1.out.2.2.2.2.all hb2⟩)
          have HW2 := Lib.hid (show Below w.heap.size w (w2.alloc (.cells #[.int .i64 bk, .int .i64 bn, sV bs, .slice bla bln blc, .slice bfa bfn bfc] 25)) ∧ Own (w2.alloc (.cells #[.int .i64 bk, .int .i64 bn, sV bs, .slice bla bln blc, .slice bfa bfn bfc] 25)) w.heap.size [.int .i64 4, .int .i64 cn, sV cs, .slice la l.length lc, .slice fa f.length fc] 25 ∧ Own (w2.alloc (.cells #[.int .i64 bk, .int .i64 bn, sV bs, .slice bla bln blc, .slice bfa bfn bfc] 25)) (w.heap.size + 1) [.int .i64 xk, .int .i64 xn, sV xs, .slice xla xln xlc, .slice xfa xfn xfc] 25 ∧ Own (w2.alloc (.cells #[.int .i64 bk, .int .i64 bn, sV bs, .slice bla bln blc, .slice bfa bfn bfc] 25)) (w.heap.size + 1 + 1) [.int .i64 0, .int .i64 0, .string ⟨#[]⟩, .slice none 0 0, .slice none 0 0] 25 ∧ Own (w2.alloc (.cells #[.int .i64 bk, .int .i64 bn, sV bs, .slice bla bln blc, .slice bfa bfn bfc] 25)) (w.heap.size + 1 + 1 + 1) [.int .i64 3, sV sn, .int .i64 si, sV sv] 52 from ⟨below_all HA1.out.1 hbA, HA1.out.2.1.all hbA, HA1.out.2.2.1.all hbA, HA1.out.2.2.2.1.all hbA, HA1.out.2.2.2.2.all hbA⟩)
          have HNB := Lib.hid (And.intro (Own.new w2 [.int .i64 bk, .int .i64 bn, sV bs, .slice bla bln blc, .slice bfa bfn bfc] 25) (hN.lt.all hbA))
          have hs1 := HW1.out.2.2.2.2.lt
          have hs2 := hb2.size
          clear C hb2 hbA hN HA1 HW1
          clear s0 s1 s2 s3
          go_upto_region 10 with (fail)
          change Code.wp Tryz.prog _ _ _ (w2.alloc (.cells #[.int .i64 bk, .int .i64 bn, sV bs, .slice bla bln blc, .slice bfa bfn bfc] 25))
          generalize hVV : w2.alloc (.cells #[.int .i64 bk, .int .i64 bn, sV bs, .slice bla bln blc, .slice bfa bfn bfc] 25) = V2 at *
          have hVs : w2.heap.size < V2.heap.size := by rw [← hVV, size_alloc]; omega
          clear hVV
          generalize w2.heap.size = nb at *
          have hnb : w.heap.size + 1 + 1 + 1 < nb := by omega
          have z0 := HW2.out.2.2.2.2.cell (i := 0) rfl
          cases pl with
          | none =>
            have HKD : Hid (kid (⟨3, sn, si, sv⟩ : S) (.mk 4 cn cs l f) = none) := Lib.hid (by unfold kid; rw [HPL.out])
            simp only [ixO]
            have HW3 := HW2
            have HNB3 := Lib.hid (And.intro HNB.out.1 (IsA.mono (A' := fun b => A b ∨ (w.heap.size + 4 ≤ b ∧ b < nb)) HNB.out.2 (fun b h => Or.inr ⟨by omega, h.2⟩)))
            clear HNB HW2
            go_upto_region 14 with (fail)
            clear z0
            change Code.wp Tryz.prog _ _ _ V2
            generalize V2 = W1 at *
            have hW1s : nb < W1.heap.size := HNB3.out.1.lt
            obtain ⟨bT, hbT⟩ : ∃ bT, newT (⟨3, sn, si, sv⟩ : S) = bT := ⟨_, rfl⟩
            have HBT : Hid ((kid (⟨3, sn, si, sv⟩ : S) (.mk 4 cn cs l f)).getD (newT (⟨3, sn, si, sv⟩ : S)) = bT ∧ bT.size ≤ 700) := Lib.hid ⟨by rw [HKD.out]; exact hbT, by rw [← hbT]; have := newT_size (⟨3, sn, si, sv⟩ : S); omega⟩
            rw [hbT] at HNB3
            clear hbT
            have z0 := cell_regrown (HNB3.out.1.cell (i := 0) rfl)
            have z1 := cell_regrown (HNB3.out.1.cell (i := 1) rfl)
            have z2 := cell_regrown (HNB3.out.1.cell (i := 2) rfl)
            have z3 := cell_regrown (HNB3.out.1.cell (i := 3) rfl)
            have z4 := cell_regrown (HNB3.out.1.cell (i := 4) rfl)
            have y0 := cell_regrown (HW3.out.2.2.1.cell (i := 0) rfl)
            have y1 := cell_regrown (HW3.out.2.2.1.cell (i := 1) rfl)
            have y2 := cell_regrown (HW3.out.2.2.1.cell (i := 2) rfl)
            have y3 := cell_regrown (HW3.out.2.2.1.cell (i := 3) rfl)
            have y4 := cell_regrown (HW3.out.2.2.1.cell (i := 4) rfl)
            refine wp_region_multiE 5 #[true, true, true, true, true, false, false, false, false, false] (fun i => i == 4) (fun _ _ u w' => ∃ c' : VC, u = .tuple #[c'.val, .int .i64 (setP p bT x).2] ∧ IsA w' (fun b => (A b ∨ (w.heap.size + 4 ≤ b ∧ b < nb)) ∨ W1.heap.size ≤ b) c' (setP p bT x).1) (fun _ u => ∃ c' : VC, u = .tuple #[c'.val, .int .i64 (setP p bT x).2]) (by kernel_rfl) (by kernel_rfl)
              (fun _ _ _ w1 w2 ⟨c', h1, h2⟩ hb => ⟨c', h1, h2.all hb⟩) (fun _ => ⟨_, VC0, rfl⟩) ?_
            simp only [List.take_succ_cons, List.take_zero, List.drop_succ_cons, List.drop_zero]
            refine wpM_stretch 4 rfl rfl rfl rfl ?_
            simp only [List.take_succ_cons, List.take_zero, List.drop_succ_cons, List.drop_zero]
            repeat (first | go_big_quiet_step (fail) | quiet_step (fail))
            refine wpQuiet_nil ?_
            refine wpM_dem rfl rfl rfl ?_ ?_
            · rintro _ ⟨pp, rfl⟩
              go_simp
              simp only [demUpon]
              have hbp := below_all HW3.out.1 (below_regrown W1 pp.d pp.os)
              have hsz := (below_regrown W1 pp.d pp.os).size
              refine ⟨trivial, (IH.out (.slice (if cp = 1 then some ⟨pb, off, none⟩ else some ⟨pb, off + 4, none⟩) p.length (cp - 1)) _ (Flat.all HTL.out hbp) (fun b => A b ∨ (w.heap.size + 4 ≤ b ∧ b < nb)) (fun b h => by rcases h with h | h; have := HAA.out b h; omega; omega) ⟨bk, bn, bs, bla, bln, blc, bfa, bfn, bfc⟩ ⟨xk, xn, xs, xla, xln, xlc, xfa, xfn, xfc⟩ bT x (HNB3.out.2.all (below_regrown W1 pp.d pp.os)) ((HX.out.all hbp).mono (fun b h => Or.inl h)) HBT.out.2 HZ.out.2 HPN.out HALL.out).mono ?_⟩
              rintro e w6 ⟨hb6, c', rfl, h2⟩
              exact ⟨_, rfl, ⟨c', rfl⟩, hb6, c', rfl, h2.mono (fun b h => by rcases h with h | h; exact Or.inl h; exact Or.inr (by omega))⟩
            rintro _ ⟨⟨rk, rn, rs, rla, rln, rlc, rfa, rfn, rfc⟩, rfl⟩
            refine wpM_end ?_
            rintro U hbU ⟨-, c2, he2, hR⟩
            obtain rfl : (⟨rk, rn, rs, rla, rln, rlc, rfa, rfn, rfc⟩ : VC) = c2 := VC.val_inj (by simpa using he2)
            have oN := HNB3.out.1.all hbU
            have hN0 := oN.cell (i := 0) rfl
            have hN1 := oN.cell (i := 1) rfl
            have hN2 := oN.cell (i := 2) rfl
            have hN3 := oN.cell (i := 3) rfl
            have hN4 := oN.cell (i := 4) rfl
            have fN0 := oN.frozen 0
            have fN1 := oN.frozen 1
            have fN2 := oN.frozen 2
            have fN3 := oN.frozen 3
            have fN4 := oN.frozen 4
            have HB2 := Lib.hid (show Below w.heap.size w (put5 U nb (.int .i64 rk) (.int .i64 rn) (sV rs) (.slice rla rln rlc) (.slice rfa rfn rfc)) ∧ Own (put5 U nb (.int .i64 rk) (.int .i64 rn) (sV rs) (.slice rla rln rlc) (.slice rfa rfn rfc)) w.heap.size [.int .i64 4, .int .i64 cn, sV cs, .slice la l.length lc, .slice fa f.length fc] 25 ∧ Own (put5 U nb (.int .i64 rk) (.int .i64 rn) (sV rs) (.slice rla rln rlc) (.slice rfa rfn rfc)) (w.heap.size + 1) [.int .i64 xk, .int .i64 xn, sV xs, .slice xla xln xlc, .slice xfa xfn xfc] 25 ∧ Own (put5 U nb (.int .i64 rk) (.int .i64 rn) (sV rs) (.slice rla rln rlc) (.slice rfa rfn rfc)) (w.heap.size + 1 + 1) [.int .i64 0, .int .i64 0, .string ⟨#[]⟩, .slice none 0 0, .slice none 0 0] 25 ∧ Own (put5 U nb (.int .i64 rk) (.int .i64 rn) (sV rs) (.slice rla rln rlc) (.slice rfa rfn rfc)) (w.heap.size + 1 + 1 + 1) [.int .i64 3, sV sn, .int .i64 si, sV sv] 52 from ⟨below_put5 (b := nb) (below_all HW3.out.1 hbU) (by omega) (.int .i64 rk) (.int .i64 rn) (sV rs) (.slice rla rln rlc) (.slice rfa rfn rfc), Own.put5n (c := nb) (HW3.out.2.1.all hbU) (by omega) (.int .i64 rk) (.int .i64 rn) (sV rs) (.slice rla rln rlc) (.slice rfa rfn rfc), Own.put5n (c := nb) (HW3.out.2.2.1.all hbU) (by omega) (.int .i64 rk) (.int .i64 rn) (sV rs) (.slice rla rln rlc) (.slice rfa rfn rfc), Own.put5n (c := nb) (HW3.out.2.2.2.1.all hbU) (by omega) (.int .i64 rk) (.int .i64 rn) (sV rs) (.slice rla rln rlc) (.slice rfa rfn rfc), Own.put5n (c := nb) (HW3.out.2.2.2.2.all hbU) (by omega) (.int .i64 rk) (.int .i64 rn) (sV rs) (.slice rla rln rlc) (.slice rfa rfn rfc)⟩)
            have HRI := Lib.hid (And.intro (own_put5 oN (.int .i64 rk) (.int .i64 rn) (sV rs) (.slice rla rln rlc) (.slice rfa rfn rfc)) ((hR.mono (A' := fun b => (A b ∨ w.heap.size + 4 ≤ b) ∧ ¬ b = nb) (fun b h => by rcases h with (h | h) | h; exact ⟨Or.inl h, by have := HAA.out b h; omega⟩; exact ⟨Or.inr h.1, by omega⟩; exact ⟨Or.inr (by omega), by omega⟩)).put5 (b := nb) (fun h => h.2 rfl) (.int .i64 rk) (.int .i64 rn) (sV rs) (.slice rla rln rlc) (.slice rfa rfn rfc)))
            clear z0 z1 z2 z3 z4 y0 y1 y2 y3 y4 hbU hR oN he2 HW3 HNB3
            refine wpAny_take (i := 5) rfl (by kernel_rfl) (by kernel_rfl) (by kernel_rfl) (fun _ _ _ h => h) (Or.inl ⟨by rfl, by intro w0; go_simp; try with_reducible rfl⟩) ?_
            refine wpAny_take (i := 6) rfl (by kernel_rfl) (by kernel_rfl) (by kernel_rfl) (fun _ _ _ h => h) (Or.inl ⟨by rfl, by intro w0; go_simp; try with_reducible rfl⟩) ?_
            refine wpAny_take (i := 7) rfl (by kernel_rfl) (by kernel_rfl) (by kernel_rfl) (fun _ _ _ h => h) (Or.inl ⟨by rfl, by intro w0; go_simp; try with_reducible rfl⟩) ?_
            refine wpAny_ready (rs := [8]) (by kernel_rfl) (by simp) ?_
            refine AllReady.cons rfl (fun K hK => ?_) AllReady.nil
            go_simp
            refine hK _ _ ?_
            clear hK K
            refine wpAny_take (i := 9) rfl (by kernel_rfl) (by kernel_rfl) (by kernel_rfl) (fun _ _ _ h => h) (Or.inl ⟨by rfl, by intro w0; go_simp; try with_reducible rfl⟩) ?_
            refine wpAny_done (by kernel_rfl) ?_ _
            generalize (if cp = 1 then some (⟨pb, off, none⟩ : Addr) else some ⟨pb, off + 4, none⟩) = tp at *
            go_upto_region 15 with (fail)
            clear hN0 hN1 hN2 hN3 hN4 fN0 fN1 fN2 fN3 fN4
            change Code.wp Tryz.prog _ _ _ (put5 U nb (.int .i64 rk) (.int .i64 rn) (sV rs) (.slice rla rln rlc) (.slice rfa rfn rfc))
            generalize put5 U nb (.int .i64 rk) (.int .i64 rn) (sV rs) (.slice rla rln rlc) (.slice rfa rfn rfc) = U2 at *
            have HFZ := Lib.hid (HPD.out ⟨3, sn, si, sv⟩ rfl)
            rw [HBT.out.1] at HFZ
            have HRZ0 := Lib.hid (setP_size p bT x HALL.out)
            clear HPD
            generalize (setP p bT x).1 = Rt at *
            generalize (setP p bT x).2 = E at *
            have hu2 : w.heap.size + 1 + 1 + 1 < U2.heap.size := HB2.out.2.2.2.2.lt
            by_cases hE : ¬ E = 0
            · have HF : Hid (setP ((⟨3, sn, si, sv⟩ : S) :: p) (.mk 4 cn cs l f) x = (T0, E)) := Lib.hid (by rw [HFZ.out, if_pos hE])
              have hne : (E != 0) = true := by simpa using hE
              have oFin := HB2.out.2.2.2.1
              have q0 := oFin.cell (i := 0) rfl
              have q1 := oFin.cell (i := 1) rfl
              have q2 := oFin.cell (i := 2) rfl
              have q3 := oFin.cell (i := 3) rfl
              have q4 := oFin.cell (i := 4) rfl
              have g0 := oFin.frozen 0
              have g1 := oFin.frozen 1
              have g2 := oFin.frozen 2
              have g3 := oFin.frozen 3
              have g4 := oFin.frozen 4
              have HU := Lib.hid (And.intro (own_put5 oFin (.int .i64 0) (.int .i64 0) (.string ⟨#[]⟩) (.slice none 0 0) (.slice none 0 0)) (below_put5 (b := w.heap.size + 1 + 1) HB2.out.1 (by omega) (.int .i64 0) (.int .i64 0) (.string ⟨#[]⟩) (.slice none 0 0) (.slice none 0 0)))
              clear oFin
              go_wp2
              clear q0 q1 q2 q3 q4 g0 g1 g2 g3 g4
              change bodyPost Tryz.prog Tryz.f81 _ _ _ (put5 U2 (w.heap.size + 1 + 1) (.int .i64 0) (.int .i64 0) (.string ⟨#[]⟩) (.slice none 0 0) (.slice none 0 0))
              generalize put5 U2 (w.heap.size + 1 + 1) (.int .i64 0) (.int .i64 0) (.string ⟨#[]⟩) (.slice none 0 0) (.slice none 0 0) = U at *
              have c0 := HU.out.1.cell (i := 0) rfl
              have c1 := HU.out.1.cell (i := 1) rfl
              have c2 := HU.out.1.cell (i := 2) rfl
              have c3 := HU.out.1.cell (i := 3) rfl
              have c4 := HU.out.1.cell (i := 4) rfl
              exact bodyPost_ret (v := .tuple #[.agg #[.int .i64 0, .int .i64 0, .string ⟨#[]⟩, .slice none 0 0, .slice none 0 0], .int .i64 E]) (by simp [results, Tryz.results81, go_sem, c0, c1, c2, c3, c4]) rfl ⟨HU.out.2, VC0, by rw [HF.out]; rfl, by rw [HF.out]; exact isA_zero _ _⟩
            have hE2 : E = 0 := by omega
            clear hE
            subst hE2
            have HRZ : Hid (Rt.size ≤ 3000) := Lib.hid (by have a := HRZ0.out; have b := HBT.out.2; have c := HPN.out; have d := HZ.out.2; omega)
            obtain ⟨B, hB⟩ : ∃ B, hasK sn sv Rt = B := ⟨_, rfl⟩
            have C := Lib.hid (phas_any ⟨rk, rn, rs, rla, rln, rlc, rfa, rfn, rfc⟩ Rt sn sv U2 HRI.out.2.is)
            rw [hB] at C
            have HBB := Lib.hid hB
            clear hB
            have z0 := HRI.out.1.cell (i := 0) rfl
            have z1 := HRI.out.1.cell (i := 1) rfl
            have z2 := HRI.out.1.cell (i := 2) rfl
            have z3 := HRI.out.1.cell (i := 3) rfl
            have z4 := HRI.out.1.cell (i := 4) rfl
            have s0 := HB2.out.2.2.2.2.cell (i := 0) rfl
            have s1 := HB2.out.2.2.2.2.cell (i := 1) rfl
            have s2 := HB2.out.2.2.2.2.cell (i := 2) rfl
            have s3 := HB2.out.2.2.2.2.cell (i := 3) rfl
            go_wp2_with fail
            refine C.out.mono ?_
            rintro e w7 ⟨rfl, hb7⟩
            have HB3 := Lib.hid (show Below w.heap.size w w7 ∧ Own w7 w.heap.size [.int .i64 4, .int .i64 cn, sV cs, .slice la l.length lc, .slice fa f.length fc] 25 ∧ Own w7 (w.heap.size + 1) [.int .i64 xk, .int .i64 xn, sV xs, .slice xla xln xlc, .slice xfa xfn xfc] 25 ∧ Own w7 (w.heap.size + 1 + 1) [.int .i64 0, .int .i64 0, .string ⟨#[]⟩, .slice none 0 0, .slice none 0 0] 25 ∧ Own w7 (w.heap.size + 1 + 1 + 1) [.int .i64 3, sV sn, .int .i64 si, sV sv] 52 from ⟨below_all HB2.out.1 hb7, HB2.out.2.1.all hb7, HB2.out.2.2.1.all hb7, HB2.out.2.2.2.1.all hb7, HB2.out.2.2.2.2.all hb7⟩)
            have HRI3 := Lib.hid (And.intro (HRI.out.1.all hb7) (HRI.out.2.all hb7))
            clear C hb7 HB2 HRI
            clear z0 z1 z2 z3 z4
            clear s0 s1 s2 s3
            cases B with
            | false =>
              have HF : Hid (setP ((⟨3, sn, si, sv⟩ : S) :: p) (.mk 4 cn cs l f) x = (T0, 6)) := Lib.hid (by rw [HFZ.out, if_neg (by simp), if_pos (by first | exact ⟨rfl, HBB.out⟩ | exact ⟨trivial, HBB.out⟩ | simp [HBB.out])])
              have oFin := HB3.out.2.2.2.1
              have q0 := oFin.cell (i := 0) rfl
              have q1 := oFin.cell (i := 1) rfl
              have q2 := oFin.cell (i := 2) rfl
              have q3 := oFin.cell (i := 3) rfl
              have q4 := oFin.cell (i := 4) rfl
              have g0 := oFin.frozen 0
              have g1 := oFin.frozen 1
              have g2 := oFin.frozen 2
              have g3 := oFin.frozen 3
              have g4 := oFin.frozen 4
              have HU := Lib.hid (And.intro (own_put5 oFin (.int .i64 0) (.int .i64 0) (.string ⟨#[]⟩) (.slice none 0 0) (.slice none 0 0)) (below_put5 (b := w.heap.size + 1 + 1) HB3.out.1 (by omega) (.int .i64 0) (.int .i64 0) (.string ⟨#[]⟩) (.slice none 0 0) (.slice none 0 0)))
              clear oFin
              go_wp2
              clear q0 q1 q2 q3 q4 g0 g1 g2 g3 g4
              change bodyPost Tryz.prog Tryz.f81 _ _ _ (put5 w7 (w.heap.size + 1 + 1) (.int .i64 0) (.int .i64 0) (.string ⟨#[]⟩) (.slice none 0 0) (.slice none 0 0))
              generalize put5 w7 (w.heap.size + 1 + 1) (.int .i64 0) (.int .i64 0) (.string ⟨#[]⟩) (.slice none 0 0) (.slice none 0 0) = U at *
              have c0 := HU.out.1.cell (i := 0) rfl
              have c1 := HU.out.1.cell (i := 1) rfl
              have c2 := HU.out.1.cell (i := 2) rfl
              have c3 := HU.out.1.cell (i := 3) rfl
              have c4 := HU.out.1.cell (i := 4) rfl
              exact bodyPost_ret (v := .tuple #[.agg #[.int .i64 0, .int .i64 0, .string ⟨#[]⟩, .slice none 0 0, .slice none 0 0], .int .i64 6]) (by simp [results, Tryz.results81, go_sem, c0, c1, c2, c3, c4]) rfl ⟨HU.out.2, VC0, by rw [HF.out]; rfl, by rw [HF.out]; exact isA_zero _ _⟩
            | true =>
              have HF : Hid (setP ((⟨3, sn, si, sv⟩ : S) :: p) (.mk 4 cn cs l f) x = (replT ⟨3, sn, si, sv⟩ Rt (.mk 4 cn cs l f), 0)) := Lib.hid (by rw [HFZ.out, if_neg (by simp), if_neg (by rintro ⟨-, h⟩; rw [HBB.out] at h; cases h)])
              have hws := HB3.out.2.2.2.2.lt
              have C := Lib.hid (preplacedA_any ⟨rk, rn, rs, rla, rln, rlc, rfa, rfn, rfc⟩ (.slice la l.length lc) l Rt l.length w7 (fun b => A b ∨ w.heap.size + 4 ≤ b) (HI.out.vals.all HB3.out.1 (fun b h => Or.inl h)) (HRI3.out.2.mono (fun b h => h.1)) (by omega) HLL.out)
              have z0 := HRI3.out.1.cell (i := 0) rfl
              have z1 := HRI3.out.1.cell (i := 1) rfl
              have z2 := HRI3.out.1.cell (i := 2) rfl
              have z3 := HRI3.out.1.cell (i := 3) rfl
              have z4 := HRI3.out.1.cell (i := 4) rfl
              have x3 := HB3.out.2.1.cell (i := 3) rfl
              have s0 := HB3.out.2.2.2.2.cell (i := 0) rfl
              go_wp2_with fail
              refine C.out.mono ?_
              rintro e w9 ⟨v9, rfl, hb9, hV9⟩
              have H9 := Lib.hid (show Below w.heap.size w w9 ∧ Own w9 w.heap.size [.int .i64 4, .int .i64 cn, sV cs, .slice la l.length lc, .slice fa f.length fc] 25 ∧ Own w9 (w.heap.size + 1) [.int .i64 xk, .int .i64 xn, sV xs, .slice xla xln xlc, .slice xfa xfn xfc] 25 ∧ Own w9 (w.heap.size + 1 + 1) [.int .i64 0, .int .i64 0, .string ⟨#[]⟩, .slice none 0 0, .slice none 0 0] 25 ∧ Own w9 (w.heap.size + 1 + 1 + 1) [.int .i64 3, sV sn, .int .i64 si, sV sv] 52 from ⟨below_all HB3.out.1 hb9, HB3.out.2.1.all hb9, HB3.out.2.2.1.all hb9, HB3.out.2.2.2.1.all hb9, HB3.out.2.2.2.2.all hb9⟩)
              have HV := Lib.hid (show ValsA w9 (fun b => (A b ∨ w.heap.size + 4 ≤ b) ∨ w7.heap.size ≤ b) v9 (l ++ [Rt]) from (by have h := hV9; rw [if_neg (by omega)] at h; exact h))
              obtain ⟨da, dcap, rfl, -, -⟩ : ∃ a c, v9 = .slice a (l ++ [Rt]).length c ∧ True ∧ True := by
                obtain ⟨cs', h1, h2, h3⟩ := HV.out.out
                obtain ⟨a, c, h4, -⟩ := h2.out
                exact ⟨a, c, h4, trivial, trivial⟩
              have HT9 : Hid (replT (⟨3, sn, si, sv⟩ : S) Rt (.mk 4 cn cs l f) = .mk 4 0 [] (l ++ [Rt]) []) := Lib.hid (by simp only [replT, if_neg (show ¬ (3 : Int) = 1 by decide), HPL.out])
              obtain ⟨dn, hdn⟩ : ∃ n, (l ++ [Rt]).length = n := ⟨_, rfl⟩
              rw [hdn] at HV ⊢
              have HI9 := Lib.hid (IsA.of (c := ⟨4, 0, [], da, dn, dcap, none, 0, 0⟩) (f := []) HV.out ⟨[], rfl, FlatA.nil _ _ _, fun i x t h => by simp at h, fun i x t h => by simp at h⟩)
              clear C hb9 hV9 hdn HV
              clear z0 z1 z2 z3 z4
              clear x3 s0
              have oFin := H9.out.2.2.2.1
              have q0 := oFin.cell (i := 0) rfl
              have q1 := oFin.cell (i := 1) rfl
              have q2 := oFin.cell (i := 2) rfl
              have q3 := oFin.cell (i := 3) rfl
              have q4 := oFin.cell (i := 4) rfl
              have g0 := oFin.frozen 0
              have g1 := oFin.frozen 1
              have g2 := oFin.frozen 2
              have g3 := oFin.frozen 3
              have g4 := oFin.frozen 4
              have HU := Lib.hid (And.intro (own_put5 oFin (.int .i64 4) (.int .i64 0) (.string ⟨#[]⟩) (.slice da dn dcap) (.slice none 0 0)) (And.intro (below_put5 (b := w.heap.size + 1 + 1) H9.out.1 (by omega) (.int .i64 4) (.int .i64 0) (.string ⟨#[]⟩) (.slice da dn dcap) (.slice none 0 0)) (HI9.out.put5 (b := w.heap.size + 1 + 1) (fun h => by rcases h with (h | h) | h; have := HAA.out _ h; omega; omega; omega) (.int .i64 4) (.int .i64 0) (.string ⟨#[]⟩) (.slice da dn dcap) (.slice none 0 0))))
              clear oFin
              go_wp2
              clear q0 q1 q2 q3 q4 g0 g1 g2 g3 g4
              change bodyPost Tryz.prog Tryz.f81 _ _ _ (put5 w9 (w.heap.size + 1 + 1) (.int .i64 4) (.int .i64 0) (.string ⟨#[]⟩) (.slice da dn dcap) (.slice none 0 0))
              generalize put5 w9 (w.heap.size + 1 + 1) (.int .i64 4) (.int .i64 0) (.string ⟨#[]⟩) (.slice da dn dcap) (.slice none 0 0) = U at *
              have c0 := HU.out.1.cell (i := 0) rfl
              have c1 := HU.out.1.cell (i := 1) rfl
              have c2 := HU.out.1.cell (i := 2) rfl
              have c3 := HU.out.1.cell (i := 3) rfl
              have c4 := HU.out.1.cell (i := 4) rfl
              exact bodyPost_ret (v := .tuple #[.agg #[.int .i64 4, .int .i64 0, .string ⟨#[]⟩, .slice da dn dcap, .slice none 0 0], .int .i64 0]) (by simp [results, Tryz.results81, go_sem, c0, c1, c2, c3, c4]) rfl ⟨HU.out.2.1, ⟨4, 0, [], da, dn, dcap, none, 0, 0⟩, (by rw [HF.out]; try rfl), by rw [HF.out, HT9.out]; exact HU.out.2.2.mono (fun b h => by rcases h with (h | h) | h; exact Or.inl h; exact Or.inr (by omega); exact Or.inr (by omega))⟩
          | some i =>
            have hlt := place_lt HIX.out HPL.out
            simp only [if_neg (show ¬ (3 : Int) = 1 by decide)] at hlt
            obtain ⟨pr, hpr⟩ : ∃ pr, l[i]? = some pr := ⟨_, List.getElem?_eq_getElem hlt⟩
            have HKD : Hid (kid (⟨3, sn, si, sv⟩ : S) (.mk 4 cn cs l f) = some pr) := Lib.hid (by unfold kid; rw [HPL.out]; simp only [kidAt, if_neg (show ¬ (3 : Int) = 1 by decide), hpr])
            obtain ⟨eb, eo, ⟨ek, en, es, ela, eln, elc, efa, efn, efc⟩, rfl, heb, hIe, m0, m1, m2, m3, m4⟩ := (show ValsA w A (.slice la l.length lc) l from HI.out.vals).at HW2.out.1 hpr
            have HIE := Lib.hid hIe
            have HLT := Lib.hid hlt
            clear hIe hpr hlt
            simp only [ixO]
            have z3 := HW2.out.2.1.cell (i := 3) rfl
            have y0 := HNB.out.1.cell (i := 0) rfl
            have y1 := HNB.out.1.cell (i := 1) rfl
            have y2 := HNB.out.1.cell (i := 2) rfl
            have y3 := HNB.out.1.cell (i := 3) rfl
            have y4 := HNB.out.1.cell (i := 4) rfl
            have w0 := HNB.out.1.frozen 0
            have w1' := HNB.out.1.frozen 1
            have w2' := HNB.out.1.frozen 2
            have w3' := HNB.out.1.frozen 3
            have w4' := HNB.out.1.frozen 4
            have HW3 := Lib.hid (show Below w.heap.size w (put5 V2 nb (.int .i64 ek) (.int .i64 en) (sV es) (.slice ela eln elc) (.slice efa efn efc)) ∧ Own (put5 V2 nb (.int .i64 ek) (.int .i64 en) (sV es) (.slice ela eln elc) (.slice efa efn efc)) w.heap.size [.int .i64 4, .int .i64 cn, sV cs, .slice (some ⟨eb, eo, none⟩) l.length lc, .slice fa f.length fc] 25 ∧ Own (put5 V2 nb (.int .i64 ek) (.int .i64 en) (sV es) (.slice ela eln elc) (.slice efa efn efc)) (w.heap.size + 1) [.int .i64 xk, .int .i64 xn, sV xs, .slice xla xln xlc, .slice xfa xfn xfc] 25 ∧ Own (put5 V2 nb (.int .i64 ek) (.int .i64 en) (sV es) (.slice ela eln elc) (.slice efa efn efc)) (w.heap.size + 1 + 1) [.int .i64 0, .int .i64 0, .string ⟨#[]⟩, .slice none 0 0, .slice none 0 0] 25 ∧ Own (put5 V2 nb (.int .i64 ek) (.int .i64 en) (sV es) (.slice ela eln elc) (.slice efa efn efc)) (w.heap.size + 1 + 1 + 1) [.int .i64 3, sV sn, .int .i64 si, sV sv] 52 from ⟨below_put5 (b := nb) HW2.out.1 (by omega) (.int .i64 ek) (.int .i64 en) (sV es) (.slice ela eln elc) (.slice efa efn efc), Own.put5n (c := nb) HW2.out.2.1 (by omega) (.int .i64 ek) (.int .i64 en) (sV es) (.slice ela eln elc) (.slice efa efn efc), Own.put5n (c := nb) HW2.out.2.2.1 (by omega) (.int .i64 ek) (.int .i64 en) (sV es) (.slice ela eln elc) (.slice efa efn efc), Own.put5n (c := nb) HW2.out.2.2.2.1 (by omega) (.int .i64 ek) (.int .i64 en) (sV es) (.slice ela eln elc) (.slice efa efn efc), Own.put5n (c := nb) HW2.out.2.2.2.2 (by omega) (.int .i64 ek) (.int .i64 en) (sV es) (.slice ela eln elc) (.slice efa efn efc)⟩)
            have HNB3 := Lib.hid (And.intro (own_put5 HNB.out.1 (.int .i64 ek) (.int .i64 en) (sV es) (.slice ela eln elc) (.slice efa efn efc)) ((IsA.mono (A' := fun b => A b ∨ (w.heap.size + 4 ≤ b ∧ b < nb)) HIE.out (fun b h => Or.inl h)).put5 (b := nb) (fun h => by rcases h with h | h; have := HAA.out _ h; omega; omega) (.int .i64 ek) (.int .i64 en) (sV es) (.slice ela eln elc) (.slice efa efn efc)))
            clear HIE
            go_upto_region 14 with (fail)
            clear z0 z3 m0 m1 m2 m3 m4 y0 y1 y2 y3 y4 w0 w1' w2' w3' w4' HNB HW2
            change Code.wp Tryz.prog _ _ _ (put5 V2 nb (.int .i64 ek) (.int .i64 en) (sV es) (.slice ela eln elc) (.slice efa efn efc))
            generalize hVP : put5 V2 nb (.int .i64 ek) (.int .i64 en) (sV es) (.slice ela eln elc) (.slice efa efn efc) = W1 at *
            have hW1s : nb < W1.heap.size := HNB3.out.1.lt
            clear hVP
            have HBT : Hid ((kid (⟨3, sn, si, sv⟩ : S) (.mk 4 cn cs l f)).getD (newT (⟨3, sn, si, sv⟩ : S)) = pr ∧ (pr).size ≤ 700) := Lib.hid ⟨by rw [HKD.out]; rfl, Int.le_trans (kid_size HKD.out) HZ.out.1⟩
            generalize pr = bT at *
            have z0 := cell_regrown (HNB3.out.1.cell (i := 0) rfl)
            have z1 := cell_regrown (HNB3.out.1.cell (i := 1) rfl)
            have z2 := cell_regrown (HNB3.out.1.cell (i := 2) rfl)
            have z3 := cell_regrown (HNB3.out.1.cell (i := 3) rfl)
            have z4 := cell_regrown (HNB3.out.1.cell (i := 4) rfl)
            have y0 := cell_regrown (HW3.out.2.2.1.cell (i := 0) rfl)
            have y1 := cell_regrown (HW3.out.2.2.1.cell (i := 1) rfl)
            have y2 := cell_regrown (HW3.out.2.2.1.cell (i := 2) rfl)
            have y3 := cell_regrown (HW3.out.2.2.1.cell (i := 3) rfl)
            have y4 := cell_regrown (HW3.out.2.2.1.cell (i := 4) rfl)
            refine wp_region_multiE 5 #[true, true, true, true, true, false, false, false, false, false] (fun i => i == 4) (fun _ _ u w' => ∃ c' : VC, u = .tuple #[c'.val, .int .i64 (setP p bT x).2] ∧ IsA w' (fun b => (A b ∨ (w.heap.size + 4 ≤ b ∧ b < nb)) ∨ W1.heap.size ≤ b) c' (setP p bT x).1) (fun _ u => ∃ c' : VC, u = .tuple #[c'.val, .int .i64 (setP p bT x).2]) (by kernel_rfl) (by kernel_rfl)
              (fun _ _ _ w1 w2 ⟨c', h1, h2⟩ hb => ⟨c', h1, h2.all hb⟩) (fun _ => ⟨_, VC0, rfl⟩) ?_
            simp only [List.take_succ_cons, List.take_zero, List.drop_succ_cons, List.drop_zero]
            refine wpM_stretch 4 rfl rfl rfl rfl ?_
            simp only [List.take_succ_cons, List.take_zero, List.drop_succ_cons, List.drop_zero]
            repeat (first | go_big_quiet_step (fail) | quiet_step (fail))
            refine wpQuiet_nil ?_
            refine wpM_dem rfl rfl rfl ?_ ?_
            · rintro _ ⟨pp, rfl⟩
              go_simp
              simp only [demUpon]
              have hbp := below_all HW3.out.1 (below_regrown W1 pp.d pp.os)
              have hsz := (below_regrown W1 pp.d pp.os).size
              refine ⟨trivial, (IH.out (.slice (if cp = 1 then some ⟨pb, off, none⟩ else some ⟨pb, off + 4, none⟩) p.length (cp - 1)) _ (Flat.all HTL.out hbp) (fun b => A b ∨ (w.heap.size + 4 ≤ b ∧ b < nb)) (fun b h => by rcases h with h | h; have := HAA.out b h; omega; omega) ⟨ek, en, es, ela, eln, elc, efa, efn, efc⟩ ⟨xk, xn, xs, xla, xln, xlc, xfa, xfn, xfc⟩ bT x (HNB3.out.2.all (below_regrown W1 pp.d pp.os)) ((HX.out.all hbp).mono (fun b h => Or.inl h)) HBT.out.2 HZ.out.2 HPN.out HALL.out).mono ?_⟩
              rintro e w6 ⟨hb6, c', rfl, h2⟩
              exact ⟨_, rfl, ⟨c', rfl⟩, hb6, c', rfl, h2.mono (fun b h => by rcases h with h | h; exact Or.inl h; exact Or.inr (by omega))⟩
            rintro _ ⟨⟨rk, rn, rs, rla, rln, rlc, rfa, rfn, rfc⟩, rfl⟩
            refine wpM_end ?_
            rintro U hbU ⟨-, c2, he2, hR⟩
            obtain rfl : (⟨rk, rn, rs, rla, rln, rlc, rfa, rfn, rfc⟩ : VC) = c2 := VC.val_inj (by simpa using he2)
            have oN := HNB3.out.1.all hbU
            have hN0 := oN.cell (i := 0) rfl
            have hN1 := oN.cell (i := 1) rfl
            have hN2 := oN.cell (i := 2) rfl
            have hN3 := oN.cell (i := 3) rfl
            have hN4 := oN.cell (i := 4) rfl
            have fN0 := oN.frozen 0
            have fN1 := oN.frozen 1
            have fN2 := oN.frozen 2
            have fN3 := oN.frozen 3
            have fN4 := oN.frozen 4
            have HB2 := Lib.hid (show Below w.heap.size w (put5 U nb (.int .i64 rk) (.int .i64 rn) (sV rs) (.slice rla rln rlc) (.slice rfa rfn rfc)) ∧ Own (put5 U nb (.int .i64 rk) (.int .i64 rn) (sV rs) (.slice rla rln rlc) (.slice rfa rfn rfc)) w.heap.size [.int .i64 4, .int .i64 cn, sV cs, .slice (some ⟨eb, eo, none⟩) l.length lc, .slice fa f.length fc] 25 ∧ Own (put5 U nb (.int .i64 rk) (.int .i64 rn) (sV rs) (.slice rla rln rlc) (.slice rfa rfn rfc)) (w.heap.size + 1) [.int .i64 xk, .int .i64 xn, sV xs, .slice xla xln xlc, .slice xfa xfn xfc] 25 ∧ Own (put5 U nb (.int .i64 rk) (.int .i64 rn) (sV rs) (.slice rla rln rlc) (.slice rfa rfn rfc)) (w.heap.size + 1 + 1) [.int .i64 0, .int .i64 0, .string ⟨#[]⟩, .slice none 0 0, .slice none 0 0] 25 ∧ Own (put5 U nb (.int .i64 rk) (.int .i64 rn) (sV rs) (.slice rla rln rlc) (.slice rfa rfn rfc)) (w.heap.size + 1 + 1 + 1) [.int .i64 3, sV sn, .int .i64 si, sV sv] 52 from ⟨below_put5 (b := nb) (below_all HW3.out.1 hbU) (by omega) (.int .i64 rk) (.int .i64 rn) (sV rs) (.slice rla rln rlc) (.slice rfa rfn rfc), Own.put5n (c := nb) (HW3.out.2.1.all hbU) (by omega) (.int .i64 rk) (.int .i64 rn) (sV rs) (.slice rla rln rlc) (.slice rfa rfn rfc), Own.put5n (c := nb) (HW3.out.2.2.1.all hbU) (by omega) (.int .i64 rk) (.int .i64 rn) (sV rs) (.slice rla rln rlc) (.slice rfa rfn rfc), Own.put5n (c := nb) (HW3.out.2.2.2.1.all hbU) (by omega) (.int .i64 rk) (.int .i64 rn) (sV rs) (.slice rla rln rlc) (.slice rfa rfn rfc), Own.put5n (c := nb) (HW3.out.2.2.2.2.all hbU) (by omega) (.int .i64 rk) (.int .i64 rn) (sV rs) (.slice rla rln rlc) (.slice rfa rfn rfc)⟩)
            have HRI := Lib.hid (And.intro (own_put5 oN (.int .i64 rk) (.int .i64 rn) (sV rs) (.slice rla rln rlc) (.slice rfa rfn rfc)) ((hR.mono (A' := fun b => (A b ∨ w.heap.size + 4 ≤ b) ∧ ¬ b = nb) (fun b h => by rcases h with (h | h) | h; exact ⟨Or.inl h, by have := HAA.out b h; omega⟩; exact ⟨Or.inr h.1, by omega⟩; exact ⟨Or.inr (by omega), by omega⟩)).put5 (b := nb) (fun h => h.2 rfl) (.int .i64 rk) (.int .i64 rn) (sV rs) (.slice rla rln rlc) (.slice rfa rfn rfc)))
            clear z0 z1 z2 z3 z4 y0 y1 y2 y3 y4 hbU hR oN he2 HW3 HNB3
            refine wpAny_take (i := 5) rfl (by kernel_rfl) (by kernel_rfl) (by kernel_rfl) (fun _ _ _ h => h) (Or.inl ⟨by rfl, by intro w0; go_simp; try with_reducible rfl⟩) ?_
            refine wpAny_take (i := 6) rfl (by kernel_rfl) (by kernel_rfl) (by kernel_rfl) (fun _ _ _ h => h) (Or.inl ⟨by rfl, by intro w0; go_simp; try with_reducible rfl⟩) ?_
            refine wpAny_take (i := 7) rfl (by kernel_rfl) (by kernel_rfl) (by kernel_rfl) (fun _ _ _ h => h) (Or.inl ⟨by rfl, by intro w0; go_simp; try with_reducible rfl⟩) ?_
            refine wpAny_ready (rs := [8]) (by kernel_rfl) (by simp) ?_
            refine AllReady.cons rfl (fun K hK => ?_) AllReady.nil
            go_simp
            refine hK _ _ ?_
            clear hK K
            refine wpAny_take (i := 9) rfl (by kernel_rfl) (by kernel_rfl) (by kernel_rfl) (fun _ _ _ h => h) (Or.inl ⟨by rfl, by intro w0; go_simp; try with_reducible rfl⟩) ?_
            refine wpAny_done (by kernel_rfl) ?_ _
            generalize (if cp = 1 then some (⟨pb, off, none⟩ : Addr) else some ⟨pb, off + 4, none⟩) = tp at *
            go_upto_region 15 with (fail)
            clear hN0 hN1 hN2 hN3 hN4 fN0 fN1 fN2 fN3 fN4
            change Code.wp Tryz.prog _ _ _ (put5 U nb (.int .i64 rk) (.int .i64 rn) (sV rs) (.slice rla rln rlc) (.slice rfa rfn rfc))
            generalize put5 U nb (.int .i64 rk) (.int .i64 rn) (sV rs) (.slice rla rln rlc) (.slice rfa rfn rfc) = U2 at *
            have HFZ := Lib.hid (HPD.out ⟨3, sn, si, sv⟩ rfl)
            rw [HBT.out.1] at HFZ
            have HRZ0 := Lib.hid (setP_size p bT x HALL.out)
            clear HPD
            generalize (setP p bT x).1 = Rt at *
            generalize (setP p bT x).2 = E at *
            have hu2 : w.heap.size + 1 + 1 + 1 < U2.heap.size := HB2.out.2.2.2.2.lt
            by_cases hE : ¬ E = 0
            · have HF : Hid (setP ((⟨3, sn, si, sv⟩ : S) :: p) (.mk 4 cn cs l f) x = (T0, E)) := Lib.hid (by rw [HFZ.out, if_pos hE])
              have hne : (E != 0) = true := by simpa using hE
              have oFin := HB2.out.2.2.2.1
              have q0 := oFin.cell (i := 0) rfl
              have q1 := oFin.cell (i := 1) rfl
              have q2 := oFin.cell (i := 2) rfl
              have q3 := oFin.cell (i := 3) rfl
              have q4 := oFin.cell (i := 4) rfl
              have g0 := oFin.frozen 0
              have g1 := oFin.frozen 1
              have g2 := oFin.frozen 2
              have g3 := oFin.frozen 3
              have g4 := oFin.frozen 4
              have HU := Lib.hid (And.intro (own_put5 oFin (.int .i64 0) (.int .i64 0) (.string ⟨#[]⟩) (.slice none 0 0) (.slice none 0 0)) (below_put5 (b := w.heap.size + 1 + 1) HB2.out.1 (by omega) (.int .i64 0) (.int .i64 0) (.string ⟨#[]⟩) (.slice none 0 0) (.slice none 0 0)))
              clear oFin
              go_wp2
              clear q0 q1 q2 q3 q4 g0 g1 g2 g3 g4
              change bodyPost Tryz.prog Tryz.f81 _ _ _ (put5 U2 (w.heap.size + 1 + 1) (.int .i64 0) (.int .i64 0) (.string ⟨#[]⟩) (.slice none 0 0) (.slice none 0 0))
              generalize put5 U2 (w.heap.size + 1 + 1) (.int .i64 0) (.int .i64 0) (.string ⟨#[]⟩) (.slice none 0 0) (.slice none 0 0) = U at *
              have c0 := HU.out.1.cell (i := 0) rfl
              have c1 := HU.out.1.cell (i := 1) rfl
              have c2 := HU.out.1.cell (i := 2) rfl
              have c3 := HU.out.1.cell (i := 3) rfl
              have c4 := HU.out.1.cell (i := 4) rfl
              exact bodyPost_ret (v := .tuple #[.agg #[.int .i64 0, .int .i64 0, .string ⟨#[]⟩, .slice none 0 0, .slice none 0 0], .int .i64 E]) (by simp [results, Tryz.results81, go_sem, c0, c1, c2, c3, c4]) rfl ⟨HU.out.2, VC0, by rw [HF.out]; rfl, by rw [HF.out]; exact isA_zero _ _⟩
            have hE2 : E = 0 := by omega
            clear hE
            subst hE2
            have HRZ : Hid (Rt.size ≤ 3000) := Lib.hid (by have a := HRZ0.out; have b := HBT.out.2; have c := HPN.out; have d := HZ.out.2; omega)
            obtain ⟨B, hB⟩ : ∃ B, hasK sn sv Rt = B := ⟨_, rfl⟩
            have C := Lib.hid (phas_any ⟨rk, rn, rs, rla, rln, rlc, rfa, rfn, rfc⟩ Rt sn sv U2 HRI.out.2.is)
            rw [hB] at C
            have HBB := Lib.hid hB
            clear hB
            have z0 := HRI.out.1.cell (i := 0) rfl
            have z1 := HRI.out.1.cell (i := 1) rfl
            have z2 := HRI.out.1.cell (i := 2) rfl
            have z3 := HRI.out.1.cell (i := 3) rfl
            have z4 := HRI.out.1.cell (i := 4) rfl
            have s0 := HB2.out.2.2.2.2.cell (i := 0) rfl
            have s1 := HB2.out.2.2.2.2.cell (i := 1) rfl
            have s2 := HB2.out.2.2.2.2.cell (i := 2) rfl
            have s3 := HB2.out.2.2.2.2.cell (i := 3) rfl
            go_wp2_with fail
            refine C.out.mono ?_
            rintro e w7 ⟨rfl, hb7⟩
            have HB3 := Lib.hid (show Below w.heap.size w w7 ∧ Own w7 w.heap.size [.int .i64 4, .int .i64 cn, sV cs, .slice (some ⟨eb, eo, none⟩) l.length lc, .slice fa f.length fc] 25 ∧ Own w7 (w.heap.size + 1) [.int .i64 xk, .int .i64 xn, sV xs, .slice xla xln xlc, .slice xfa xfn xfc] 25 ∧ Own w7 (w.heap.size + 1 + 1) [.int .i64 0, .int .i64 0, .string ⟨#[]⟩, .slice none 0 0, .slice none 0 0] 25 ∧ Own w7 (w.heap.size + 1 + 1 + 1) [.int .i64 3, sV sn, .int .i64 si, sV sv] 52 from ⟨below_all HB2.out.1 hb7, HB2.out.2.1.all hb7, HB2.out.2.2.1.all hb7, HB2.out.2.2.2.1.all hb7, HB2.out.2.2.2.2.all hb7⟩)
            have HRI3 := Lib.hid (And.intro (HRI.out.1.all hb7) (HRI.out.2.all hb7))
            clear C hb7 HB2 HRI
            clear z0 z1 z2 z3 z4
            clear s0 s1 s2 s3
            cases B with
            | false =>
              have HF : Hid (setP ((⟨3, sn, si, sv⟩ : S) :: p) (.mk 4 cn cs l f) x = (T0, 6)) := Lib.hid (by rw [HFZ.out, if_neg (by simp), if_pos (by first | exact ⟨rfl, HBB.out⟩ | exact ⟨trivial, HBB.out⟩ | simp [HBB.out])])
              have oFin := HB3.out.2.2.2.1
              have q0 := oFin.cell (i := 0) rfl
              have q1 := oFin.cell (i := 1) rfl
              have q2 := oFin.cell (i := 2) rfl
              have q3 := oFin.cell (i := 3) rfl
              have q4 := oFin.cell (i := 4) rfl
              have g0 := oFin.frozen 0
              have g1 := oFin.frozen 1
              have g2 := oFin.frozen 2
              have g3 := oFin.frozen 3
              have g4 := oFin.frozen 4
              have HU := Lib.hid (And.intro (own_put5 oFin (.int .i64 0) (.int .i64 0) (.string ⟨#[]⟩) (.slice none 0 0) (.slice none 0 0)) (below_put5 (b := w.heap.size + 1 + 1) HB3.out.1 (by omega) (.int .i64 0) (.int .i64 0) (.string ⟨#[]⟩) (.slice none 0 0) (.slice none 0 0)))
              clear oFin
              go_wp2
              clear q0 q1 q2 q3 q4 g0 g1 g2 g3 g4
              change bodyPost Tryz.prog Tryz.f81 _ _ _ (put5 w7 (w.heap.size + 1 + 1) (.int .i64 0) (.int .i64 0) (.string ⟨#[]⟩) (.slice none 0 0) (.slice none 0 0))
              generalize put5 w7 (w.heap.size + 1 + 1) (.int .i64 0) (.int .i64 0) (.string ⟨#[]⟩) (.slice none 0 0) (.slice none 0 0) = U at *
              have c0 := HU.out.1.cell (i := 0) rfl
              have c1 := HU.out.1.cell (i := 1) rfl
              have c2 := HU.out.1.cell (i := 2) rfl
              have c3 := HU.out.1.cell (i := 3) rfl
              have c4 := HU.out.1.cell (i := 4) rfl
              exact bodyPost_ret (v := .tuple #[.agg #[.int .i64 0, .int .i64 0, .string ⟨#[]⟩, .slice none 0 0, .slice none 0 0], .int .i64 6]) (by simp [results, Tryz.results81, go_sem, c0, c1, c2, c3, c4]) rfl ⟨HU.out.2, VC0, by rw [HF.out]; rfl, by rw [HF.out]; exact isA_zero _ _⟩
            | true =>
              have HF : Hid (setP ((⟨3, sn, si, sv⟩ : S) :: p) (.mk 4 cn cs l f) x = (replT ⟨3, sn, si, sv⟩ Rt (.mk 4 cn cs l f), 0)) := Lib.hid (by rw [HFZ.out, if_neg (by simp), if_neg (by rintro ⟨-, h⟩; rw [HBB.out] at h; cases h)])
              have hws := HB3.out.2.2.2.2.lt
              have C := Lib.hid (preplacedA_any ⟨rk, rn, rs, rla, rln, rlc, rfa, rfn, rfc⟩ (.slice (some ⟨eb, eo, none⟩) l.length lc) l Rt i w7 (fun b => A b ∨ w.heap.size + 4 ≤ b) (HI.out.vals.all HB3.out.1 (fun b h => Or.inl h)) (HRI3.out.2.mono (fun b h => h.1)) (by have := HLT.out; omega) HLL.out)
              have z0 := HRI3.out.1.cell (i := 0) rfl
              have z1 := HRI3.out.1.cell (i := 1) rfl
              have z2 := HRI3.out.1.cell (i := 2) rfl
              have z3 := HRI3.out.1.cell (i := 3) rfl
              have z4 := HRI3.out.1.cell (i := 4) rfl
              have x3 := HB3.out.2.1.cell (i := 3) rfl
              have s0 := HB3.out.2.2.2.2.cell (i := 0) rfl
              go_wp2_with fail
              refine C.out.mono ?_
              rintro e w9 ⟨v9, rfl, hb9, hV9⟩
              have H9 := Lib.hid (show Below w.heap.size w w9 ∧ Own w9 w.heap.size [.int .i64 4, .int .i64 cn, sV cs, .slice (some ⟨eb, eo, none⟩) l.length lc, .slice fa f.length fc] 25 ∧ Own w9 (w.heap.size + 1) [.int .i64 xk, .int .i64 xn, sV xs, .slice xla xln xlc, .slice xfa xfn xfc] 25 ∧ Own w9 (w.heap.size + 1 + 1) [.int .i64 0, .int .i64 0, .string ⟨#[]⟩, .slice none 0 0, .slice none 0 0] 25 ∧ Own w9 (w.heap.size + 1 + 1 + 1) [.int .i64 3, sV sn, .int .i64 si, sV sv] 52 from ⟨below_all HB3.out.1 hb9, HB3.out.2.1.all hb9, HB3.out.2.2.1.all hb9, HB3.out.2.2.2.1.all hb9, HB3.out.2.2.2.2.all hb9⟩)
              have HV := Lib.hid (show ValsA w9 (fun b => (A b ∨ w.heap.size + 4 ≤ b) ∨ w7.heap.size ≤ b) v9 (l.set i Rt) from (by have h := hV9; rw [if_pos HLT.out] at h; exact h))
              obtain ⟨da, dcap, rfl, -, -⟩ : ∃ a c, v9 = .slice a (l.set i Rt).length c ∧ True ∧ True := by
                obtain ⟨cs', h1, h2, h3⟩ := HV.out.out
                obtain ⟨a, c, h4, -⟩ := h2.out
                exact ⟨a, c, h4, trivial, trivial⟩
              have HT9 : Hid (replT (⟨3, sn, si, sv⟩ : S) Rt (.mk 4 cn cs l f) = .mk 4 0 [] (l.set i Rt) []) := Lib.hid (by simp only [replT, if_neg (show ¬ (3 : Int) = 1 by decide), HPL.out])
              obtain ⟨dn, hdn⟩ : ∃ n, (l.set i Rt).length = n := ⟨_, rfl⟩
              rw [hdn] at HV ⊢
              have HI9 := Lib.hid (IsA.of (c := ⟨4, 0, [], da, dn, dcap, none, 0, 0⟩) (f := []) HV.out ⟨[], rfl, FlatA.nil _ _ _, fun i x t h => by simp at h, fun i x t h => by simp at h⟩)
              clear C hb9 hV9 hdn HV
              clear z0 z1 z2 z3 z4
              clear x3 s0
              have oFin := H9.out.2.2.2.1
              have q0 := oFin.cell (i := 0) rfl
              have q1 := oFin.cell (i := 1) rfl
              have q2 := oFin.cell (i := 2) rfl
              have q3 := oFin.cell (i := 3) rfl
              have q4 := oFin.cell (i := 4) rfl
              have g0 := oFin.frozen 0
              have g1 := oFin.frozen 1
              have g2 := oFin.frozen 2
              have g3 := oFin.frozen 3
              have g4 := oFin.frozen 4
              have HU := Lib.hid (And.intro (own_put5 oFin (.int .i64 4) (.int .i64 0) (.string ⟨#[]⟩) (.slice da dn dcap) (.slice none 0 0)) (And.intro (below_put5 (b := w.heap.size + 1 + 1) H9.out.1 (by omega) (.int .i64 4) (.int .i64 0) (.string ⟨#[]⟩) (.slice da dn dcap) (.slice none 0 0)) (HI9.out.put5 (b := w.heap.size + 1 + 1) (fun h => by rcases h with (h | h) | h; have := HAA.out _ h; omega; omega; omega) (.int .i64 4) (.int .i64 0) (.string ⟨#[]⟩) (.slice da dn dcap) (.slice none 0 0))))
              clear oFin
              go_wp2
              clear q0 q1 q2 q3 q4 g0 g1 g2 g3 g4
              change bodyPost Tryz.prog Tryz.f81 _ _ _ (put5 w9 (w.heap.size + 1 + 1) (.int .i64 4) (.int .i64 0) (.string ⟨#[]⟩) (.slice da dn dcap) (.slice none 0 0))
              generalize put5 w9 (w.heap.size + 1 + 1) (.int .i64 4) (.int .i64 0) (.string ⟨#[]⟩) (.slice da dn dcap) (.slice none 0 0) = U at *
              have c0 := HU.out.1.cell (i := 0) rfl
              have c1 := HU.out.1.cell (i := 1) rfl
              have c2 := HU.out.1.cell (i := 2) rfl
              have c3 := HU.out.1.cell (i := 3) rfl
              have c4 := HU.out.1.cell (i := 4) rfl
              exact bodyPost_ret (v := .tuple #[.agg #[.int .i64 4, .int .i64 0, .string ⟨#[]⟩, .slice da dn dcap, .slice none 0 0], .int .i64 0]) (by simp [results, Tryz.results81, go_sem, c0, c1, c2, c3, c4]) rfl ⟨HU.out.2.1, ⟨4, 0, [], da, dn, dcap, none, 0, 0⟩, (by rw [HF.out]; try rfl), by rw [HF.out, HT9.out]; exact HU.out.2.2.mono (fun b h => by rcases h with (h | h) | h; exact Or.inl h; exact Or.inr (by omega); exact Or.inr (by omega))⟩
      · have e4 : (ck != 4) = true := by rw [bne_iff_ne]; exact h4
        have HF : Hid (setP ((⟨sk, sn, si, sv⟩ : S) :: p) (.mk ck cn cs l f) x = (T0, 6)) := Lib.hid (by
          have h : entE (⟨sk, sn, si, sv⟩ : S) (.mk ck cn cs l f) = 6 := by unfold entE; simp [h1, h4]
          rw [setP, h, if_pos (by decide)])
        have oFin := HW.out.2.2.2.1
        have q0 := oFin.cell (i := 0) rfl
        have q1 := oFin.cell (i := 1) rfl
        have q2 := oFin.cell (i := 2) rfl
        have q3 := oFin.cell (i := 3) rfl
        have q4 := oFin.cell (i := 4) rfl
        have g0 := oFin.frozen 0
        have g1 := oFin.frozen 1
        have g2 := oFin.frozen 2
        have g3 := oFin.frozen 3
        have g4 := oFin.frozen 4
        have HU := Lib.hid (And.intro (own_put5 oFin (.int .i64 0) (.int .i64 0) (.string ⟨#[]⟩) (.slice none 0 0) (.slice none 0 0)) (below_put5 (b := w.heap.size + 1 + 1) HW.out.1 (by omega) (.int .i64 0) (.int .i64 0) (.string ⟨#[]⟩) (.slice none 0 0) (.slice none 0 0)))
        clear oFin
        go_wp2
        clear q0 q1 q2 q3 q4 g0 g1 g2 g3 g4
        change bodyPost Tryz.prog Tryz.f81 _ _ _ (put5 W (w.heap.size + 1 + 1) (.int .i64 0) (.int .i64 0) (.string ⟨#[]⟩) (.slice none 0 0) (.slice none 0 0))
        generalize put5 W (w.heap.size + 1 + 1) (.int .i64 0) (.int .i64 0) (.string ⟨#[]⟩) (.slice none 0 0) (.slice none 0 0) = U at *
        have c0 := HU.out.1.cell (i := 0) rfl
        have c1 := HU.out.1.cell (i := 1) rfl
        have c2 := HU.out.1.cell (i := 2) rfl
        have c3 := HU.out.1.cell (i := 3) rfl
        have c4 := HU.out.1.cell (i := 4) rfl
        exact bodyPost_ret (v := .tuple #[.agg #[.int .i64 0, .int .i64 0, .string ⟨#[]⟩, .slice none 0 0, .slice none 0 0], .int .i64 6]) (by simp [results, Tryz.results81, go_sem, c0, c1, c2, c3, c4]) rfl ⟨HU.out.2, VC0, by rw [HF.out]; rfl, by rw [HF.out]; exact isA_zero _ _⟩
end Go.Proofs.YtjpmnlefjmdelaaGreatDoor
namespace Go.Proofs.YtjpmnlefjmdelaaGreatDoor
open Go.RowKit Go.Sort Go.Proofs.LawFrame

/-- what the reference's Set answers -/
structure QSr (w : World) (p : List S) (t x : T) (e : Ending) (w' : World) : Prop where
  below : Below w.heap.size w w'
  out : ∃ c' : VC, e = .returned (.tuple #[c'.val, .int .i64 (resS p t x).2]) ∧ Is w' c' (resS p t x).1

set_option maxHeartbeats 8000000 in
set_option maxRecDepth 4000 in
theorem pset_any (p : List S) (t x : T) (ht : t.size ≤ 2000) (hx : x.size ≤ 2000) (htn : t.nice) (hxn : x.nice) (hn : p.length ≤ 100) (hs : ∀ s ∈ p, s.nm.length ≤ 1000000 ∧ s.vl.length ≤ 1000000)
    (c cx : VC) (v : Value) (w : World) (hI : Is w c t) (hX : Is w cx x) (hp : Stps w v p) : Calls Tryz.prog 40 #[c.val, v, cx.val] w (QSr w p t x) := by
  obtain ⟨ck, cn, cs, cla, cln, clc, cfa, cfn, cfc⟩ := c
  obtain ⟨gk, gn, gs, gla, gln, glc, gfa, gfn, gfc⟩ := cx
  obtain ⟨ao, cp, rfl, -, -⟩ := Stps.form hp
  have hb0 : Below w.heap.size w (((w.alloc (.cells #[.int .i64 ck, .int .i64 cn, sV cs, .slice cla cln clc, .slice cfa cfn cfc] 25)).alloc (.cells #[.int .i64 gk, .int .i64 gn, sV gs, .slice gla gln glc, .slice gfa gfn gfc] 25)).alloc (.cells #[.int .i64 0, .int .i64 0, .string ⟨#[]⟩, .slice none 0 0, .slice none 0 0] 25)) := (((Below.refl _ _).alloc (Nat.le_refl _) _).alloc (by simp) _).alloc (by simp; omega) _
  have oA : Own (((w.alloc (.cells #[.int .i64 ck, .int .i64 cn, sV cs, .slice cla cln clc, .slice cfa cfn cfc] 25)).alloc (.cells #[.int .i64 gk, .int .i64 gn, sV gs, .slice gla gln glc, .slice gfa gfn gfc] 25)).alloc (.cells #[.int .i64 0, .int .i64 0, .string ⟨#[]⟩, .slice none 0 0, .slice none 0 0] 25)) w.heap.size [.int .i64 ck, .int .i64 cn, sV cs, .slice cla cln clc, .slice cfa cfn cfc] 25 := ((Own.new _ _ _).alloc _).alloc _
  have oB : Own (((w.alloc (.cells #[.int .i64 ck, .int .i64 cn, sV cs, .slice cla cln clc, .slice cfa cfn cfc] 25)).alloc (.cells #[.int .i64 gk, .int .i64 gn, sV gs, .slice gla gln glc, .slice gfa gfn gfc] 25)).alloc (.cells #[.int .i64 0, .int .i64 0, .string ⟨#[]⟩, .slice none 0 0, .slice none 0 0] 25)) (w.heap.size + 1) [.int .i64 gk, .int .i64 gn, sV gs, .slice gla gln glc, .slice gfa gfn gfc] 25 := (Own.new_at (by rw [size_alloc]) _ _).alloc _
  have oR : Own (((w.alloc (.cells #[.int .i64 ck, .int .i64 cn, sV cs, .slice cla cln clc, .slice cfa cfn cfc] 25)).alloc (.cells #[.int .i64 gk, .int .i64 gn, sV gs, .slice gla gln glc, .slice gfa gfn gfc] 25)).alloc (.cells #[.int .i64 0, .int .i64 0, .string ⟨#[]⟩, .slice none 0 0, .slice none 0 0] 25)) (w.heap.size + 1 + 1) [.int .i64 0, .int .i64 0, .string ⟨#[]⟩, .slice none 0 0, .slice none 0 0] 25 := Own.new_at (by rw [size_alloc, size_alloc]) _ _
  have HS0 := Lib.hid (show Below w.heap.size w (((w.alloc (.cells #[.int .i64 ck, .int .i64 cn, sV cs, .slice cla cln clc, .slice cfa cfn cfc] 25)).alloc (.cells #[.int .i64 gk, .int .i64 gn, sV gs, .slice gla gln glc, .slice gfa gfn gfc] 25)).alloc (.cells #[.int .i64 0, .int .i64 0, .string ⟨#[]⟩, .slice none 0 0, .slice none 0 0] 25)) ∧ Own (((w.alloc (.cells #[.int .i64 ck, .int .i64 cn, sV cs, .slice cla cln clc, .slice cfa cfn cfc] 25)).alloc (.cells #[.int .i64 gk, .int .i64 gn, sV gs, .slice gla gln glc, .slice gfa gfn gfc] 25)).alloc (.cells #[.int .i64 0, .int .i64 0, .string ⟨#[]⟩, .slice none 0 0, .slice none 0 0] 25)) w.heap.size [.int .i64 ck, .int .i64 cn, sV cs, .slice cla cln clc, .slice cfa cfn cfc] 25 ∧ Own (((w.alloc (.cells #[.int .i64 ck, .int .i64 cn, sV cs, .slice cla cln clc, .slice cfa cfn cfc] 25)).alloc (.cells #[.int .i64 gk, .int .i64 gn, sV gs, .slice gla gln glc, .slice gfa gfn gfc] 25)).alloc (.cells #[.int .i64 0, .int .i64 0, .string ⟨#[]⟩, .slice none 0 0, .slice none 0 0] 25)) (w.heap.size + 1) [.int .i64 gk, .int .i64 gn, sV gs, .slice gla gln glc, .slice gfa gfn gfc] 25 ∧ Own (((w.alloc (.cells #[.int .i64 ck, .int .i64 cn, sV cs, .slice cla cln clc, .slice cfa cfn cfc] 25)).alloc (.cells #[.int .i64 gk, .int .i64 gn, sV gs, .slice gla gln glc, .slice gfa gfn gfc] 25)).alloc (.cells #[.int .i64 0, .int .i64 0, .string ⟨#[]⟩, .slice none 0 0, .slice none 0 0] 25)) (w.heap.size + 1 + 1) [.int .i64 0, .int .i64 0, .string ⟨#[]⟩, .slice none 0 0, .slice none 0 0] 25 ∧ Is (((w.alloc (.cells #[.int .i64 ck, .int .i64 cn, sV cs, .slice cla cln clc, .slice cfa cfn cfc] 25)).alloc (.cells #[.int .i64 gk, .int .i64 gn, sV gs, .slice gla gln glc, .slice gfa gfn gfc] 25)).alloc (.cells #[.int .i64 0, .int .i64 0, .string ⟨#[]⟩, .slice none 0 0, .slice none 0 0] 25)) ⟨ck, cn, cs, cla, cln, clc, cfa, cfn, cfc⟩ t ∧ Is (((w.alloc (.cells #[.int .i64 ck, .int .i64 cn, sV cs, .slice cla cln clc, .slice cfa cfn cfc] 25)).alloc (.cells #[.int .i64 gk, .int .i64 gn, sV gs, .slice gla gln glc, .slice gfa gfn gfc] 25)).alloc (.cells #[.int .i64 0, .int .i64 0, .string ⟨#[]⟩, .slice none 0 0, .slice none 0 0] 25)) ⟨gk, gn, gs, gla, gln, glc, gfa, gfn, gfc⟩ x ∧ Stps (((w.alloc (.cells #[.int .i64 ck, .int .i64 cn, sV cs, .slice cla cln clc, .slice cfa cfn cfc] 25)).alloc (.cells #[.int .i64 gk, .int .i64 gn, sV gs, .slice gla gln glc, .slice gfa gfn gfc] 25)).alloc (.cells #[.int .i64 0, .int .i64 0, .string ⟨#[]⟩, .slice none 0 0, .slice none 0 0] 25)) (.slice ao p.length cp) p from ⟨hb0, oA, oB, oR, hI.all hb0, hX.all hb0, Flat.all hp hb0⟩)
  have HI0 := Lib.hid (And.intro hI.isA hX.isA)
  have HA := Lib.hid (And.intro trivial (And.intro hs (And.intro htn hxn)))
  clear hb0 oA oB oR hI hX hp hs htn hxn
  show Calls Tryz.prog 40 #[.agg #[.int .i64 ck, .int .i64 cn, sV cs, .slice cla cln clc, .slice cfa cfn cfc], .slice ao p.length cp, .agg #[.int .i64 gk, .int .i64 gn, sV gs, .slice gla gln glc, .slice gfa gfn gfc]] w _
  go_enter Tryz.func40, Tryz.ntmps40
  go_upto_region 1 with (fail)
  change Code.wp Tryz.prog _ _ _ (((w.alloc (.cells #[.int .i64 ck, .int .i64 cn, sV cs, .slice cla cln clc, .slice cfa cfn cfc] 25)).alloc (.cells #[.int .i64 gk, .int .i64 gn, sV gs, .slice gla gln glc, .slice gfa gfn gfc] 25)).alloc (.cells #[.int .i64 0, .int .i64 0, .string ⟨#[]⟩, .slice none 0 0, .slice none 0 0] 25))
  generalize (((w.alloc (.cells #[.int .i64 ck, .int .i64 cn, sV cs, .slice cla cln clc, .slice cfa cfn cfc] 25)).alloc (.cells #[.int .i64 gk, .int .i64 gn, sV gs, .slice gla gln glc, .slice gfa gfn gfc] 25)).alloc (.cells #[.int .i64 0, .int .i64 0, .string ⟨#[]⟩, .slice none 0 0, .slice none 0 0] 25)) = V at *
  have C := Lib.hid (rvPath_any _ p V HS0.out.2.2.2.2.2.2 (by omega) HA.out.2.1)
  obtain ⟨P1, hP1⟩ : ∃ B, pathOk p = B := ⟨_, rfl⟩
  rw [hP1] at C
  have HP1 := Lib.hid hP1
  clear hP1
  go_wp2_with fail
  refine C.out.mono ?_
  rintro e w1 ⟨rfl, hb1⟩
  have HS1 := Lib.hid (show Below w.heap.size w w1 ∧ Own w1 w.heap.size [.int .i64 ck, .int .i64 cn, sV cs, .slice cla cln clc, .slice cfa cfn cfc] 25 ∧ Own w1 (w.heap.size + 1) [.int .i64 gk, .int .i64 gn, sV gs, .slice gla gln glc, .slice gfa gfn gfc] 25 ∧ Own w1 (w.heap.size + 1 + 1) [.int .i64 0, .int .i64 0, .string ⟨#[]⟩, .slice none 0 0, .slice none 0 0] 25 ∧ Is w1 ⟨ck, cn, cs, cla, cln, clc, cfa, cfn, cfc⟩ t ∧ Is w1 ⟨gk, gn, gs, gla, gln, glc, gfa, gfn, gfc⟩ x ∧ Stps w1 (.slice ao p.length cp) p from ⟨below_all HS0.out.1 hb1, HS0.out.2.1.all hb1, HS0.out.2.2.1.all hb1, HS0.out.2.2.2.1.all hb1, HS0.out.2.2.2.2.1.all hb1, HS0.out.2.2.2.2.2.1.all hb1, Flat.all HS0.out.2.2.2.2.2.2 hb1⟩)
  clear C hb1 HS0
  cases P1 with
  | false =>
    have oFin := HS1.out.2.2.2.1
    have q0 := oFin.cell (i := 0) rfl
    have q1 := oFin.cell (i := 1) rfl
    have q2 := oFin.cell (i := 2) rfl
    have q3 := oFin.cell (i := 3) rfl
    have q4 := oFin.cell (i := 4) rfl
    have g0 := oFin.frozen 0
    have g1 := oFin.frozen 1
    have g2 := oFin.frozen 2
    have g3 := oFin.frozen 3
    have g4 := oFin.frozen 4
    have HU := Lib.hid (And.intro (own_put5 oFin (.int .i64 0) (.int .i64 0) (.string ⟨#[]⟩) (.slice none 0 0) (.slice none 0 0)) (below_put5 (b := w.heap.size + 1 + 1) HS1.out.1 (by omega) (.int .i64 0) (.int .i64 0) (.string ⟨#[]⟩) (.slice none 0 0) (.slice none 0 0)))
    clear oFin
    go_wp2
    clear q0 q1 q2 q3 q4 g0 g1 g2 g3 g4
    change bodyPost Tryz.prog Tryz.f40 _ _ _ (put5 w1 (w.heap.size + 1 + 1) (.int .i64 0) (.int .i64 0) (.string ⟨#[]⟩) (.slice none 0 0) (.slice none 0 0))
    generalize put5 w1 (w.heap.size + 1 + 1) (.int .i64 0) (.int .i64 0) (.string ⟨#[]⟩) (.slice none 0 0) (.slice none 0 0) = U at *
    have c0 := HU.out.1.cell (i := 0) rfl
    have c1 := HU.out.1.cell (i := 1) rfl
    have c2 := HU.out.1.cell (i := 2) rfl
    have c3 := HU.out.1.cell (i := 3) rfl
    have c4 := HU.out.1.cell (i := 4) rfl
    exact bodyPost_ret (v := .tuple #[.agg #[.int .i64 0, .int .i64 0, .string ⟨#[]⟩, .slice none 0 0, .slice none 0 0], .int .i64 1]) (by simp [results, Tryz.results40, go_sem, c0, c1, c2, c3, c4]) rfl ⟨HU.out.2, VC0, by rw [resS_bad (fun h => by have := h.1; rw [HP1.out] at this; cases this)]; rfl, by rw [resS_bad (fun h => by have := h.1; rw [HP1.out] at this; cases this)]; exact (isA_zero _ (fun _ => True)).is⟩
  | true =>
    have C := Lib.hid (rvalidtop_any t ⟨ck, cn, cs, cla, cln, clc, cfa, cfn, cfc⟩ w1 HS1.out.2.2.2.2.1 HA.out.2.2.1 (by omega))
    have z0 := HS1.out.2.1.cell (i := 0) rfl
    have z1 := HS1.out.2.1.cell (i := 1) rfl
    have z2 := HS1.out.2.1.cell (i := 2) rfl
    have z3 := HS1.out.2.1.cell (i := 3) rfl
    have z4 := HS1.out.2.1.cell (i := 4) rfl
    go_wp2_with fail
    refine C.out.mono ?_
    intro e w2 hrb
    obtain ⟨R1, rfl, hb2, hR1⟩ := hrb.out
    have HR1 := Lib.hid hR1
    have HS2 := Lib.hid (show Below w.heap.size w w2 ∧ Own w2 w.heap.size [.int .i64 ck, .int .i64 cn, sV cs, .slice cla cln clc, .slice cfa cfn cfc] 25 ∧ Own w2 (w.heap.size + 1) [.int .i64 gk, .int .i64 gn, sV gs, .slice gla gln glc, .slice gfa gfn gfc] 25 ∧ Own w2 (w.heap.size + 1 + 1) [.int .i64 0, .int .i64 0, .string ⟨#[]⟩, .slice none 0 0, .slice none 0 0] 25 ∧ Is w2 ⟨ck, cn, cs, cla, cln, clc, cfa, cfn, cfc⟩ t ∧ Is w2 ⟨gk, gn, gs, gla, gln, glc, gfa, gfn, gfc⟩ x ∧ Stps w2 (.slice ao p.length cp) p from ⟨below_all HS1.out.1 hb2, HS1.out.2.1.all hb2, HS1.out.2.2.1.all hb2, HS1.out.2.2.2.1.all hb2, HS1.out.2.2.2.2.1.all hb2, HS1.out.2.2.2.2.2.1.all hb2, Flat.all HS1.out.2.2.2.2.2.2 hb2⟩)
    clear C hrb hR1 hb2 HS1
    clear z0 z1 z2 z3 z4
    cases R1 with
    | false =>
      have oFin := HS2.out.2.2.2.1
      have q0 := oFin.cell (i := 0) rfl
      have q1 := oFin.cell (i := 1) rfl
      have q2 := oFin.cell (i := 2) rfl
      have q3 := oFin.cell (i := 3) rfl
      have q4 := oFin.cell (i := 4) rfl
      have g0 := oFin.frozen 0
      have g1 := oFin.frozen 1
      have g2 := oFin.frozen 2
      have g3 := oFin.frozen 3
      have g4 := oFin.frozen 4
      have HU := Lib.hid (And.intro (own_put5 oFin (.int .i64 0) (.int .i64 0) (.string ⟨#[]⟩) (.slice none 0 0) (.slice none 0 0)) (below_put5 (b := w.heap.size + 1 + 1) HS2.out.1 (by omega) (.int .i64 0) (.int .i64 0) (.string ⟨#[]⟩) (.slice none 0 0) (.slice none 0 0)))
      clear oFin
      go_wp2
      clear q0 q1 q2 q3 q4 g0 g1 g2 g3 g4
      change bodyPost Tryz.prog Tryz.f40 _ _ _ (put5 w2 (w.heap.size + 1 + 1) (.int .i64 0) (.int .i64 0) (.string ⟨#[]⟩) (.slice none 0 0) (.slice none 0 0))
      generalize put5 w2 (w.heap.size + 1 + 1) (.int .i64 0) (.int .i64 0) (.string ⟨#[]⟩) (.slice none 0 0) (.slice none 0 0) = U at *
      have c0 := HU.out.1.cell (i := 0) rfl
      have c1 := HU.out.1.cell (i := 1) rfl
      have c2 := HU.out.1.cell (i := 2) rfl
      have c3 := HU.out.1.cell (i := 3) rfl
      have c4 := HU.out.1.cell (i := 4) rfl
      exact bodyPost_ret (v := .tuple #[.agg #[.int .i64 0, .int .i64 0, .string ⟨#[]⟩, .slice none 0 0, .slice none 0 0], .int .i64 1]) (by simp [results, Tryz.results40, go_sem, c0, c1, c2, c3, c4]) rfl ⟨HU.out.2, VC0, by rw [resS_bad (fun h => by have := HR1.out.2 h.2.1; cases this)]; rfl, by rw [resS_bad (fun h => by have := HR1.out.2 h.2.1; cases this)]; exact (isA_zero _ (fun _ => True)).is⟩
    | true =>
      have C := Lib.hid (rvalidtop_any x ⟨gk, gn, gs, gla, gln, glc, gfa, gfn, gfc⟩ w2 HS2.out.2.2.2.2.2.1 HA.out.2.2.2 (by omega))
      have z0 := HS2.out.2.2.1.cell (i := 0) rfl
      have z1 := HS2.out.2.2.1.cell (i := 1) rfl
      have z2 := HS2.out.2.2.1.cell (i := 2) rfl
      have z3 := HS2.out.2.2.1.cell (i := 3) rfl
      have z4 := HS2.out.2.2.1.cell (i := 4) rfl
      go_wp2_with fail
      refine C.out.mono ?_
      intro e w3 hrb
      obtain ⟨R2, rfl, hb3, hR2⟩ := hrb.out
      have HR2 := Lib.hid hR2
      have HS3 := Lib.hid (show Below w.heap.size w w3 ∧ Own w3 w.heap.size [.int .i64 ck, .int .i64 cn, sV cs, .slice cla cln clc, .slice cfa cfn cfc] 25 ∧ Own w3 (w.heap.size + 1) [.int .i64 gk, .int .i64 gn, sV gs, .slice gla gln glc, .slice gfa gfn gfc] 25 ∧ Own w3 (w.heap.size + 1 + 1) [.int .i64 0, .int .i64 0, .string ⟨#[]⟩, .slice none 0 0, .slice none 0 0] 25 ∧ Is w3 ⟨ck, cn, cs, cla, cln, clc, cfa, cfn, cfc⟩ t ∧ Is w3 ⟨gk, gn, gs, gla, gln, glc, gfa, gfn, gfc⟩ x ∧ Stps w3 (.slice ao p.length cp) p from ⟨below_all HS2.out.1 hb3, HS2.out.2.1.all hb3, HS2.out.2.2.1.all hb3, HS2.out.2.2.2.1.all hb3, HS2.out.2.2.2.2.1.all hb3, HS2.out.2.2.2.2.2.1.all hb3, Flat.all HS2.out.2.2.2.2.2.2 hb3⟩)
      clear C hrb hR2 hb3 HS2
      clear z0 z1 z2 z3 z4
      cases R2 with
      | false =>
        have oFin := HS3.out.2.2.2.1
        have q0 := oFin.cell (i := 0) rfl
        have q1 := oFin.cell (i := 1) rfl
        have q2 := oFin.cell (i := 2) rfl
        have q3 := oFin.cell (i := 3) rfl
        have q4 := oFin.cell (i := 4) rfl
        have g0 := oFin.frozen 0
        have g1 := oFin.frozen 1
        have g2 := oFin.frozen 2
        have g3 := oFin.frozen 3
        have g4 := oFin.frozen 4
        have HU := Lib.hid (And.intro (own_put5 oFin (.int .i64 0) (.int .i64 0) (.string ⟨#[]⟩) (.slice none 0 0) (.slice none 0 0)) (below_put5 (b := w.heap.size + 1 + 1) HS3.out.1 (by omega) (.int .i64 0) (.int .i64 0) (.string ⟨#[]⟩) (.slice none 0 0) (.slice none 0 0)))
        clear oFin
        go_wp2
        clear q0 q1 q2 q3 q4 g0 g1 g2 g3 g4
        change bodyPost Tryz.prog Tryz.f40 _ _ _ (put5 w3 (w.heap.size + 1 + 1) (.int .i64 0) (.int .i64 0) (.string ⟨#[]⟩) (.slice none 0 0) (.slice none 0 0))
        generalize put5 w3 (w.heap.size + 1 + 1) (.int .i64 0) (.int .i64 0) (.string ⟨#[]⟩) (.slice none 0 0) (.slice none 0 0) = U at *
        have c0 := HU.out.1.cell (i := 0) rfl
        have c1 := HU.out.1.cell (i := 1) rfl
        have c2 := HU.out.1.cell (i := 2) rfl
        have c3 := HU.out.1.cell (i := 3) rfl
        have c4 := HU.out.1.cell (i := 4) rfl
        exact bodyPost_ret (v := .tuple #[.agg #[.int .i64 0, .int .i64 0, .string ⟨#[]⟩, .slice none 0 0, .slice none 0 0], .int .i64 1]) (by simp [results, Tryz.results40, go_sem, c0, c1, c2, c3, c4]) rfl ⟨HU.out.2, VC0, by rw [resS_bad (fun h => by have := HR2.out.2 h.2.2; cases this)]; rfl, by rw [resS_bad (fun h => by have := HR2.out.2 h.2.2; cases this)]; exact (isA_zero _ (fun _ => True)).is⟩
      | true =>
        have HOK := Lib.hid (show pathOk p = true ∧ OkT t ∧ OkT x from ⟨HP1.out, HR1.out.1 (by first | rfl | trivial), HR2.out.1 (by first | rfl | trivial)⟩)
        have C := Lib.hid (pput_any p (.slice ao p.length cp) w3 HS3.out.2.2.2.2.2.2 (fun b => b < w.heap.size) (fun b hb => Nat.lt_of_lt_of_le hb HS3.out.1.size) ⟨ck, cn, cs, cla, cln, clc, cfa, cfn, cfc⟩ ⟨gk, gn, gs, gla, gln, glc, gfa, gfn, gfc⟩ t x (HI0.out.1.all HS3.out.1) (HI0.out.2.all HS3.out.1) (by have := HOK.out.2.1.2; omega) (by have := HOK.out.2.2.2; omega) hn (pathOk_all HOK.out.1).2)
        have z0 := HS3.out.2.1.cell (i := 0) rfl
        have z1 := HS3.out.2.1.cell (i := 1) rfl
        have z2 := HS3.out.2.1.cell (i := 2) rfl
        have z3 := HS3.out.2.1.cell (i := 3) rfl
        have z4 := HS3.out.2.1.cell (i := 4) rfl
        have y0 := HS3.out.2.2.1.cell (i := 0) rfl
        have y1 := HS3.out.2.2.1.cell (i := 1) rfl
        have y2 := HS3.out.2.2.1.cell (i := 2) rfl
        have y3 := HS3.out.2.2.1.cell (i := 3) rfl
        have y4 := HS3.out.2.2.1.cell (i := 4) rfl
        go_wp2_with fail
        refine C.out.mono ?_
        rintro e w4 ⟨hb4, ⟨dk, dn, ds, dla, dln, dlc, dfa, dfn, dfc⟩, he, hIA⟩
        have hId := hIA.is
        have HIA := Lib.hid hIA
        have hw3s := HS3.out.2.2.2.1.lt
        clear hIA
        obtain ⟨cd, hcd⟩ : ∃ q, (setP p t x).2 = q := ⟨_, rfl⟩
        rw [hcd] at he
        subst he
        have HCD := Lib.hid hcd
        have HS4 := Lib.hid (show Below w.heap.size w w4 ∧ Own w4 w.heap.size [.int .i64 ck, .int .i64 cn, sV cs, .slice cla cln clc, .slice cfa cfn cfc] 25 ∧ Own w4 (w.heap.size + 1) [.int .i64 gk, .int .i64 gn, sV gs, .slice gla gln glc, .slice gfa gfn gfc] 25 ∧ Own w4 (w.heap.size + 1 + 1) [.int .i64 0, .int .i64 0, .string ⟨#[]⟩, .slice none 0 0, .slice none 0 0] 25 ∧ Is w4 ⟨ck, cn, cs, cla, cln, clc, cfa, cfn, cfc⟩ t ∧ Is w4 ⟨gk, gn, gs, gla, gln, glc, gfa, gfn, gfc⟩ x ∧ Stps w4 (.slice ao p.length cp) p from ⟨below_all HS3.out.1 hb4, HS3.out.2.1.all hb4, HS3.out.2.2.1.all hb4, HS3.out.2.2.2.1.all hb4, HS3.out.2.2.2.2.1.all hb4, HS3.out.2.2.2.2.2.1.all hb4, Flat.all HS3.out.2.2.2.2.2.2 hb4⟩)
        have hbA := below_alloc w4 (.cells #[.int .i64 dk, .int .i64 dn, sV ds, .slice dla dln dlc, .slice dfa dfn dfc] 25)
        have HD := Lib.hid (And.intro (Own.new w4 [.int .i64 dk, .int .i64 dn, sV ds, .slice dla dln dlc, .slice dfa dfn dfc] 25) (hId.all hbA))
        have HDA := Lib.hid (HIA.out.all hbA)
        clear HIA
        have HS5 := Lib.hid (show Below w.heap.size w (w4.alloc (.cells #[.int .i64 dk, .int .i64 dn, sV ds, .slice dla dln dlc, .slice dfa dfn dfc] 25)) ∧ Own (w4.alloc (.cells #[.int .i64 dk, .int .i64 dn, sV ds, .slice dla dln dlc, .slice dfa dfn dfc] 25)) w.heap.size [.int .i64 ck, .int .i64 cn, sV cs, .slice cla cln clc, .slice cfa cfn cfc] 25 ∧ Own (w4.alloc (.cells #[.int .i64 dk, .int .i64 dn, sV ds, .slice dla dln dlc, .slice dfa dfn dfc] 25)) (w.heap.size + 1) [.int .i64 gk, .int .i64 gn, sV gs, .slice gla gln glc, .slice gfa gfn gfc] 25 ∧ Own (w4.alloc (.cells #[.int .i64 dk, .int .i64 dn, sV ds, .slice dla dln dlc, .slice dfa dfn dfc] 25)) (w.heap.size + 1 + 1) [.int .i64 0, .int .i64 0, .string ⟨#[]⟩, .slice none 0 0, .slice none 0 0] 25 ∧ Is (w4.alloc (.cells #[.int .i64 dk, .int .i64 dn, sV ds, .slice dla dln dlc, .slice dfa dfn dfc] 25)) ⟨ck, cn, cs, cla, cln, clc, cfa, cfn, cfc⟩ t ∧ Is (w4.alloc (.cells #[.int .i64 dk, .int .i64 dn, sV ds, .slice dla dln dlc, .slice dfa dfn dfc] 25)) ⟨gk, gn, gs, gla, gln, glc, gfa, gfn, gfc⟩ x ∧ Stps (w4.alloc (.cells #[.int .i64 dk, .int .i64 dn, sV ds, .slice dla dln dlc, .slice dfa dfn dfc] 25)) (.slice ao p.length cp) p from ⟨below_all HS4.out.1 hbA, HS4.out.2.1.all hbA, HS4.out.2.2.1.all hbA, HS4.out.2.2.2.1.all hbA, HS4.out.2.2.2.2.1.all hbA, HS4.out.2.2.2.2.2.1.all hbA, Flat.all HS4.out.2.2.2.2.2.2 hbA⟩)
        clear C hcd hb4 hId hbA HS3 HS4
        clear z0 z1 z2 z3 z4
        clear y0 y1 y2 y3 y4
        go_upto_region 4 with (fail)
        change Code.wp Tryz.prog _ _ _ (w4.alloc (.cells #[.int .i64 dk, .int .i64 dn, sV ds, .slice dla dln dlc, .slice dfa dfn dfc] 25))
        generalize w4.alloc (.cells #[.int .i64 dk, .int .i64 dn, sV ds, .slice dla dln dlc, .slice dfa dfn dfc] 25) = W5 at *
        generalize w4.heap.size = db at *
        by_cases h0 : cd = 0
        case neg =>
          have h0b : (cd != 0) = true := by rw [bne_iff_ne]; exact h0
          have HF : Hid (resS p t x = (T0, cd)) := Lib.hid (by rw [resS_er HOK.out (by rw [HCD.out]; exact h0), HCD.out])
          have oFin := HS5.out.2.2.2.1
          have q0 := oFin.cell (i := 0) rfl
          have q1 := oFin.cell (i := 1) rfl
          have q2 := oFin.cell (i := 2) rfl
          have q3 := oFin.cell (i := 3) rfl
          have q4 := oFin.cell (i := 4) rfl
          have g0 := oFin.frozen 0
          have g1 := oFin.frozen 1
          have g2 := oFin.frozen 2
          have g3 := oFin.frozen 3
          have g4 := oFin.frozen 4
          have HU := Lib.hid (And.intro (own_put5 oFin (.int .i64 0) (.int .i64 0) (.string ⟨#[]⟩) (.slice none 0 0) (.slice none 0 0)) (below_put5 (b := w.heap.size + 1 + 1) HS5.out.1 (by omega) (.int .i64 0) (.int .i64 0) (.string ⟨#[]⟩) (.slice none 0 0) (.slice none 0 0)))
          clear oFin
          go_wp2
          clear q0 q1 q2 q3 q4 g0 g1 g2 g3 g4
          change bodyPost Tryz.prog Tryz.f40 _ _ _ (put5 W5 (w.heap.size + 1 + 1) (.int .i64 0) (.int .i64 0) (.string ⟨#[]⟩) (.slice none 0 0) (.slice none 0 0))
          generalize put5 W5 (w.heap.size + 1 + 1) (.int .i64 0) (.int .i64 0) (.string ⟨#[]⟩) (.slice none 0 0) (.slice none 0 0) = U at *
          have c0 := HU.out.1.cell (i := 0) rfl
          have c1 := HU.out.1.cell (i := 1) rfl
          have c2 := HU.out.1.cell (i := 2) rfl
          have c3 := HU.out.1.cell (i := 3) rfl
          have c4 := HU.out.1.cell (i := 4) rfl
          exact bodyPost_ret (v := .tuple #[.agg #[.int .i64 0, .int .i64 0, .string ⟨#[]⟩, .slice none 0 0, .slice none 0 0], .int .i64 cd]) (by simp [results, Tryz.results40, go_sem, c0, c1, c2, c3, c4]) rfl ⟨HU.out.2, VC0, by rw [HF.out]; rfl, by rw [HF.out]; exact (isA_zero _ (fun _ => True)).is⟩
        subst h0
        have hsz := setP_size p t x (pathOk_all HOK.out.1).2
        have C := Lib.hid (rvalidtop_any (setP p t x).1 ⟨dk, dn, ds, dla, dln, dlc, dfa, dfn, dfc⟩ W5 HD.out.2 (nice_setP (pathOk_all HOK.out.1).2 HA.out.2.2.1 HA.out.2.2.2) (by have h1 := HOK.out.2.1.2; have h2 := HOK.out.2.2.2; omega))
        clear hsz
        have z0 := HD.out.1.cell (i := 0) rfl
        have z1 := HD.out.1.cell (i := 1) rfl
        have z2 := HD.out.1.cell (i := 2) rfl
        have z3 := HD.out.1.cell (i := 3) rfl
        have z4 := HD.out.1.cell (i := 4) rfl
        go_wp2_with fail
        refine C.out.mono ?_
        intro e w6 hrb
        obtain ⟨R3, rfl, hb6, hR3⟩ := hrb.out
        have HR3 := Lib.hid hR3
        have HS6 := Lib.hid (show Below w.heap.size w w6 ∧ Own w6 w.heap.size [.int .i64 ck, .int .i64 cn, sV cs, .slice cla cln clc, .slice cfa cfn cfc] 25 ∧ Own w6 (w.heap.size + 1) [.int .i64 gk, .int .i64 gn, sV gs, .slice gla gln glc, .slice gfa gfn gfc] 25 ∧ Own w6 (w.heap.size + 1 + 1) [.int .i64 0, .int .i64 0, .string ⟨#[]⟩, .slice none 0 0, .slice none 0 0] 25 ∧ Is w6 ⟨ck, cn, cs, cla, cln, clc, cfa, cfn, cfc⟩ t ∧ Is w6 ⟨gk, gn, gs, gla, gln, glc, gfa, gfn, gfc⟩ x ∧ Stps w6 (.slice ao p.length cp) p from ⟨below_all HS5.out.1 hb6, HS5.out.2.1.all hb6, HS5.out.2.2.1.all hb6, HS5.out.2.2.2.1.all hb6, HS5.out.2.2.2.2.1.all hb6, HS5.out.2.2.2.2.2.1.all hb6, Flat.all HS5.out.2.2.2.2.2.2 hb6⟩)
        have HD6 := Lib.hid (And.intro (HD.out.1.all hb6) (HD.out.2.all hb6))
        have HDA6 := Lib.hid (HDA.out.all hb6)
        clear HDA
        clear C hrb hR3 hb6 HS5 HD
        clear z0 z1 z2 z3 z4
        cases R3 with
        | false =>
          have HF : Hid (resS p t x = (T0, 4)) := Lib.hid (resS_long HOK.out HCD.out (fun h => by have := HR3.out.2 h; cases this))
          have oFin := HS6.out.2.2.2.1
          have q0 := oFin.cell (i := 0) rfl
          have q1 := oFin.cell (i := 1) rfl
          have q2 := oFin.cell (i := 2) rfl
          have q3 := oFin.cell (i := 3) rfl
          have q4 := oFin.cell (i := 4) rfl
          have g0 := oFin.frozen 0
          have g1 := oFin.frozen 1
          have g2 := oFin.frozen 2
          have g3 := oFin.frozen 3
          have g4 := oFin.frozen 4
          have HU := Lib.hid (And.intro (own_put5 oFin (.int .i64 0) (.int .i64 0) (.string ⟨#[]⟩) (.slice none 0 0) (.slice none 0 0)) (below_put5 (b := w.heap.size + 1 + 1) HS6.out.1 (by omega) (.int .i64 0) (.int .i64 0) (.string ⟨#[]⟩) (.slice none 0 0) (.slice none 0 0)))
          clear oFin
          go_wp2
          clear q0 q1 q2 q3 q4 g0 g1 g2 g3 g4
          change bodyPost Tryz.prog Tryz.f40 _ _ _ (put5 w6 (w.heap.size + 1 + 1) (.int .i64 0) (.int .i64 0) (.string ⟨#[]⟩) (.slice none 0 0) (.slice none 0 0))
          generalize put5 w6 (w.heap.size + 1 + 1) (.int .i64 0) (.int .i64 0) (.string ⟨#[]⟩) (.slice none 0 0) (.slice none 0 0) = U at *
          have c0 := HU.out.1.cell (i := 0) rfl
          have c1 := HU.out.1.cell (i := 1) rfl
          have c2 := HU.out.1.cell (i := 2) rfl
          have c3 := HU.out.1.cell (i := 3) rfl
          have c4 := HU.out.1.cell (i := 4) rfl
          exact bodyPost_ret (v := .tuple #[.agg #[.int .i64 0, .int .i64 0, .string ⟨#[]⟩, .slice none 0 0, .slice none 0 0], .int .i64 4]) (by simp [results, Tryz.results40, go_sem, c0, c1, c2, c3, c4]) rfl ⟨HU.out.2, VC0, by rw [HF.out]; rfl, by rw [HF.out]; exact (isA_zero _ (fun _ => True)).is⟩
        | true =>
          have HF : Hid (resS p t x = ((setP p t x).1, 0)) := Lib.hid (resS_ok HOK.out HCD.out (HR3.out.1 (by first | rfl | trivial)))
          have z0 := HD6.out.1.cell (i := 0) rfl
          have z1 := HD6.out.1.cell (i := 1) rfl
          have z2 := HD6.out.1.cell (i := 2) rfl
          have z3 := HD6.out.1.cell (i := 3) rfl
          have z4 := HD6.out.1.cell (i := 4) rfl
          have oFin := HS6.out.2.2.2.1
          have q0 := oFin.cell (i := 0) rfl
          have q1 := oFin.cell (i := 1) rfl
          have q2 := oFin.cell (i := 2) rfl
          have q3 := oFin.cell (i := 3) rfl
          have q4 := oFin.cell (i := 4) rfl
          have g0 := oFin.frozen 0
          have g1 := oFin.frozen 1
          have g2 := oFin.frozen 2
          have g3 := oFin.frozen 3
          have g4 := oFin.frozen 4
          have HU := Lib.hid (And.intro (own_put5 oFin (.int .i64 dk) (.int .i64 dn) (sV ds) (.slice dla dln dlc) (.slice dfa dfn dfc)) (And.intro (below_put5 (b := w.heap.size + 1 + 1) HS6.out.1 (by omega) (.int .i64 dk) (.int .i64 dn) (sV ds) (.slice dla dln dlc) (.slice dfa dfn dfc)) (HDA6.out.put5 (b := w.heap.size + 1 + 1) (fun h => by rcases h with h | h <;> omega) (.int .i64 dk) (.int .i64 dn) (sV ds) (.slice dla dln dlc) (.slice dfa dfn dfc))))
          clear oFin
          go_wp2
          clear q0 q1 q2 q3 q4 g0 g1 g2 g3 g4
          change bodyPost Tryz.prog Tryz.f40 _ _ _ (put5 w6 (w.heap.size + 1 + 1) (.int .i64 dk) (.int .i64 dn) (sV ds) (.slice dla dln dlc) (.slice dfa dfn dfc))
          generalize put5 w6 (w.heap.size + 1 + 1) (.int .i64 dk) (.int .i64 dn) (sV ds) (.slice dla dln dlc) (.slice dfa dfn dfc) = U at *
          have c0 := HU.out.1.cell (i := 0) rfl
          have c1 := HU.out.1.cell (i := 1) rfl
          have c2 := HU.out.1.cell (i := 2) rfl
          have c3 := HU.out.1.cell (i := 3) rfl
          have c4 := HU.out.1.cell (i := 4) rfl
          exact bodyPost_ret (v := .tuple #[.agg #[.int .i64 dk, .int .i64 dn, sV ds, .slice dla dln dlc, .slice dfa dfn dfc], .int .i64 0]) (by simp [results, Tryz.results40, go_sem, c0, c1, c2, c3, c4]) rfl ⟨HU.out.2.1, ⟨dk, dn, ds, dla, dln, dlc, dfa, dfn, dfc⟩, by rw [HF.out], by rw [HF.out]; exact HU.out.2.2.is⟩
end Go.Proofs.YtjpmnlefjmdelaaGreatDoor
namespace Go.Proofs.YtjpmnlefjmdelaaGreatDoor
open Go.RowKit Go.Sort Go.Proofs.LawFrame

set_option maxHeartbeats 16000000 in
set_option maxRecDepth 4000 in
theorem pathSets_walk (c : VC) (t : T) (v1 : Value) (p : List S) (g : VC) (x : T) (w : World) (hI : Is w c t) (hst : t.strB 140737488355328) (hp : Stps w v1 p) (hX : Is w g x) (hsx : x.strB 140737488355328) :
    Calls Tryz.prog 11 #[c.val, v1, g.val] w fun e w' => e = .returned (.bool true) ∧ Below w.heap.size w w' := by
  obtain ⟨ck, cn, cs, cla, cln, clc, cfa, cfn, cfc⟩ := c
  obtain ⟨gk, gn, gs, gla, gln, glc, gfa, gfn, gfc⟩ := g
  obtain ⟨ao, cp, hv, hpc, hpm⟩ := Stps.form hp
  unfold maxLen at hpm
  obtain ⟨n, hn⟩ : ∃ n, p.length = n := ⟨_, rfl⟩
  rw [hn] at hv hpc
  subst hv
  have HN := Lib.hid hn
  clear hn
  show Calls Tryz.prog 11 #[.agg #[.int .i64 ck, .int .i64 cn, sV cs, .slice cla cln clc, .slice cfa cfn cfc], .slice ao n cp, .agg #[.int .i64 gk, .int .i64 gn, sV gs, .slice gla gln glc, .slice gfa gfn gfc]] w _
  have hb0 : Below w.heap.size w ((w.alloc (.cells #[.int .i64 ck, .int .i64 cn, sV cs, .slice cla cln clc, .slice cfa cfn cfc] 25)).alloc (.cells #[.int .i64 gk, .int .i64 gn, sV gs, .slice gla gln glc, .slice gfa gfn gfc] 25)) := ((Below.refl _ _).alloc (Nat.le_refl _) _).alloc (by simp) _
  have HS := Lib.hid (show Below w.heap.size w ((w.alloc (.cells #[.int .i64 ck, .int .i64 cn, sV cs, .slice cla cln clc, .slice cfa cfn cfc] 25)).alloc (.cells #[.int .i64 gk, .int .i64 gn, sV gs, .slice gla gln glc, .slice gfa gfn gfc] 25)) ∧ Own ((w.alloc (.cells #[.int .i64 ck, .int .i64 cn, sV cs, .slice cla cln clc, .slice cfa cfn cfc] 25)).alloc (.cells #[.int .i64 gk, .int .i64 gn, sV gs, .slice gla gln glc, .slice gfa gfn gfc] 25)) w.heap.size [.int .i64 ck, .int .i64 cn, sV cs, .slice cla cln clc, .slice cfa cfn cfc] 25 ∧ Own ((w.alloc (.cells #[.int .i64 ck, .int .i64 cn, sV cs, .slice cla cln clc, .slice cfa cfn cfc] 25)).alloc (.cells #[.int .i64 gk, .int .i64 gn, sV gs, .slice gla gln glc, .slice gfa gfn gfc] 25)) (w.heap.size + 1) [.int .i64 gk, .int .i64 gn, sV gs, .slice gla gln glc, .slice gfa gfn gfc] 25 ∧ Is ((w.alloc (.cells #[.int .i64 ck, .int .i64 cn, sV cs, .slice cla cln clc, .slice cfa cfn cfc] 25)).alloc (.cells #[.int .i64 gk, .int .i64 gn, sV gs, .slice gla gln glc, .slice gfa gfn gfc] 25)) ⟨ck, cn, cs, cla, cln, clc, cfa, cfn, cfc⟩ t ∧ Is ((w.alloc (.cells #[.int .i64 ck, .int .i64 cn, sV cs, .slice cla cln clc, .slice cfa cfn cfc] 25)).alloc (.cells #[.int .i64 gk, .int .i64 gn, sV gs, .slice gla gln glc, .slice gfa gfn gfc] 25)) ⟨gk, gn, gs, gla, gln, glc, gfa, gfn, gfc⟩ x ∧ Stps ((w.alloc (.cells #[.int .i64 ck, .int .i64 cn, sV cs, .slice cla cln clc, .slice cfa cfn cfc] 25)).alloc (.cells #[.int .i64 gk, .int .i64 gn, sV gs, .slice gla gln glc, .slice gfa gfn gfc] 25)) (.slice ao n cp) p from ⟨hb0, (Own.new _ _ _).alloc _, Own.new_at (by rw [size_alloc]) _ _, hI.all hb0, hX.all hb0, Flat.all hp hb0⟩)
  have HT := Lib.hid (And.intro hst hsx)
  clear hb0 hI hp hst hX hsx
  go_enter Tryz.func11, Tryz.ntmps11
  go_upto_region 1 with (fail)
  change Code.wp Tryz.prog _ _ _ ((w.alloc (.cells #[.int .i64 ck, .int .i64 cn, sV cs, .slice cla cln clc, .slice cfa cfn cfc] 25)).alloc (.cells #[.int .i64 gk, .int .i64 gn, sV gs, .slice gla gln glc, .slice gfa gfn gfc] 25))
  generalize ((w.alloc (.cells #[.int .i64 ck, .int .i64 cn, sV cs, .slice cla cln clc, .slice cfa cfn cfc] 25)).alloc (.cells #[.int .i64 gk, .int .i64 gn, sV gs, .slice gla gln glc, .slice gfa gfn gfc] 25)) = V at *
  have x0 := HS.out.2.1.cell (i := 0) rfl
  have x1 := HS.out.2.1.cell (i := 1) rfl
  have x2 := HS.out.2.1.cell (i := 2) rfl
  have x3 := HS.out.2.1.cell (i := 3) rfl
  have x4 := HS.out.2.1.cell (i := 4) rfl
  have C := Lib.hid (few2000_any t ⟨ck, cn, cs, cla, cln, clc, cfa, cfn, cfc⟩ V HS.out.2.2.2.1 HT.out.1)
  obtain ⟨B0, hB0⟩ : ∃ B, decide (0 ≤ leftT t 2000) = B := ⟨_, rfl⟩
  rw [hB0] at C
  have HB0 := Lib.hid hB0
  clear hB0
  go_wp2_with fail
  refine C.out.mono ?_
  rintro e w1 ⟨rfl, hb1⟩
  have HS1 := Lib.hid (show Below w.heap.size w w1 ∧ Own w1 w.heap.size [.int .i64 ck, .int .i64 cn, sV cs, .slice cla cln clc, .slice cfa cfn cfc] 25 ∧ Own w1 (w.heap.size + 1) [.int .i64 gk, .int .i64 gn, sV gs, .slice gla gln glc, .slice gfa gfn gfc] 25 ∧ Is w1 ⟨ck, cn, cs, cla, cln, clc, cfa, cfn, cfc⟩ t ∧ Is w1 ⟨gk, gn, gs, gla, gln, glc, gfa, gfn, gfc⟩ x ∧ Stps w1 (.slice ao n cp) p from ⟨below_all HS.out.1 hb1, HS.out.2.1.all hb1, HS.out.2.2.1.all hb1, HS.out.2.2.2.1.all hb1, HS.out.2.2.2.2.1.all hb1, Flat.all HS.out.2.2.2.2.2 hb1⟩)
  clear C hb1 HS
  clear x0 x1 x2 x3 x4
  cases B0 with
  | false =>
    have CL := Lib.hid (plives_any w1)
    go_wp2_with fail
    refine CL.out.mono ?_
    rintro e wl ⟨rfl, hbl⟩
    have HBl := Lib.hid (below_all HS1.out.1 hbl)
    clear CL hbl
    go_wp2
    go_ret
    exact ⟨rfl, HBl.out⟩
  | true =>
    have C := Lib.hid (few2000_any x ⟨gk, gn, gs, gla, gln, glc, gfa, gfn, gfc⟩ w1 HS1.out.2.2.2.2.1 HT.out.2)
    obtain ⟨B1, hB1⟩ : ∃ B, decide (0 ≤ leftT x 2000) = B := ⟨_, rfl⟩
    rw [hB1] at C
    have HB1 := Lib.hid hB1
    clear hB1
    have x0 := HS1.out.2.2.1.cell (i := 0) rfl
    have x1 := HS1.out.2.2.1.cell (i := 1) rfl
    have x2 := HS1.out.2.2.1.cell (i := 2) rfl
    have x3 := HS1.out.2.2.1.cell (i := 3) rfl
    have x4 := HS1.out.2.2.1.cell (i := 4) rfl
    go_wp2_with fail
    refine C.out.mono ?_
    rintro e w2 ⟨rfl, hb2⟩
    have HS2 := Lib.hid (show Below w.heap.size w w2 ∧ Own w2 w.heap.size [.int .i64 ck, .int .i64 cn, sV cs, .slice cla cln clc, .slice cfa cfn cfc] 25 ∧ Own w2 (w.heap.size + 1) [.int .i64 gk, .int .i64 gn, sV gs, .slice gla gln glc, .slice gfa gfn gfc] 25 ∧ Is w2 ⟨ck, cn, cs, cla, cln, clc, cfa, cfn, cfc⟩ t ∧ Is w2 ⟨gk, gn, gs, gla, gln, glc, gfa, gfn, gfc⟩ x ∧ Stps w2 (.slice ao n cp) p from ⟨below_all HS1.out.1 hb2, HS1.out.2.1.all hb2, HS1.out.2.2.1.all hb2, HS1.out.2.2.2.1.all hb2, HS1.out.2.2.2.2.1.all hb2, Flat.all HS1.out.2.2.2.2.2 hb2⟩)
    clear C hb2 HS1
    clear x0 x1 x2 x3 x4
    cases B1 with
    | false =>
      have CL := Lib.hid (plives_any w2)
      go_wp2_with fail
      refine CL.out.mono ?_
      rintro e wl ⟨rfl, hbl⟩
      have HBl := Lib.hid (below_all HS2.out.1 hbl)
      clear CL hbl
      go_wp2
      go_ret
      exact ⟨rfl, HBl.out⟩
    | true =>
      have C := Lib.hid (few_any _ p w2 HS2.out.2.2.2.2.2)
      obtain ⟨B2, hB2⟩ : ∃ B, fewOk p = B := ⟨_, rfl⟩
      rw [hB2] at C
      have HB2 := Lib.hid hB2
      clear hB2
      go_wp2_with fail
      refine C.out.mono ?_
      rintro e w3 ⟨rfl, hb3⟩
      have HS3 := Lib.hid (show Below w.heap.size w w3 ∧ Own w3 w.heap.size [.int .i64 ck, .int .i64 cn, sV cs, .slice cla cln clc, .slice cfa cfn cfc] 25 ∧ Own w3 (w.heap.size + 1) [.int .i64 gk, .int .i64 gn, sV gs, .slice gla gln glc, .slice gfa gfn gfc] 25 ∧ Is w3 ⟨ck, cn, cs, cla, cln, clc, cfa, cfn, cfc⟩ t ∧ Is w3 ⟨gk, gn, gs, gla, gln, glc, gfa, gfn, gfc⟩ x ∧ Stps w3 (.slice ao n cp) p from ⟨below_all HS2.out.1 hb3, HS2.out.2.1.all hb3, HS2.out.2.2.1.all hb3, HS2.out.2.2.2.1.all hb3, HS2.out.2.2.2.2.1.all hb3, Flat.all HS2.out.2.2.2.2.2 hb3⟩)
      clear C hb3 HS2
      cases B2 with
      | false =>
        have CL := Lib.hid (plives_any w3)
        go_wp2_with fail
        refine CL.out.mono ?_
        rintro e wl ⟨rfl, hbl⟩
        have HBl := Lib.hid (below_all HS3.out.1 hbl)
        clear CL hbl
        go_wp2
        go_ret
        exact ⟨rfl, HBl.out⟩
      | true =>
        have HF := Lib.hid (fewOk_iff HB2.out)
        have HSZ := Lib.hid (And.intro (few2000 HT.out.1 HB0.out) (few2000 HT.out.2 HB1.out))
        have C := Lib.hid (pathSet_any p _ w3 HS3.out.2.2.2.2.2 (by have := HF.out.1; omega) ⟨ck, cn, cs, cla, cln, clc, cfa, cfn, cfc⟩ ⟨gk, gn, gs, gla, gln, glc, gfa, gfn, gfc⟩ t x HS3.out.2.2.2.1 HS3.out.2.2.2.2.1)
        have x0 := HS3.out.2.1.cell (i := 0) rfl
        have x1 := HS3.out.2.1.cell (i := 1) rfl
        have x2 := HS3.out.2.1.cell (i := 2) rfl
        have x3 := HS3.out.2.1.cell (i := 3) rfl
        have x4 := HS3.out.2.1.cell (i := 4) rfl
        have y0 := HS3.out.2.2.1.cell (i := 0) rfl
        have y1 := HS3.out.2.2.1.cell (i := 1) rfl
        have y2 := HS3.out.2.2.1.cell (i := 2) rfl
        have y3 := HS3.out.2.2.1.cell (i := 3) rfl
        have y4 := HS3.out.2.2.1.cell (i := 4) rfl
        go_wp2_with fail
        refine C.out.mono ?_
        intro e wr4 hres
        obtain ⟨⟨dk, dn, ds, dla, dln, dlc, dfa, dfn, dfc⟩, he, hId'⟩ := hres.out
        have hId : Is wr4 ⟨dk, dn, ds, dla, dln, dlc, dfa, dfn, dfc⟩ (resS p t x).1 := hId'.is
        obtain ⟨Ed, hEE⟩ : ∃ E, (resS p t x).2 = E := ⟨_, rfl⟩
        rw [hEE] at he
        subst he
        have HEEd := Lib.hid hEE
        have hbr := hres.below
        have hbA := below_alloc wr4 (.cells #[.int .i64 dk, .int .i64 dn, sV ds, .slice dla dln dlc, .slice dfa dfn dfc] 25)
        have HA4 := Lib.hid (show Below w.heap.size w wr4 ∧ Own wr4 w.heap.size [.int .i64 ck, .int .i64 cn, sV cs, .slice cla cln clc, .slice cfa cfn cfc] 25 ∧ Own wr4 (w.heap.size + 1) [.int .i64 gk, .int .i64 gn, sV gs, .slice gla gln glc, .slice gfa gfn gfc] 25 ∧ Is wr4 ⟨ck, cn, cs, cla, cln, clc, cfa, cfn, cfc⟩ t ∧ Is wr4 ⟨gk, gn, gs, gla, gln, glc, gfa, gfn, gfc⟩ x ∧ Stps wr4 (.slice ao n cp) p from ⟨below_all HS3.out.1 hbr, HS3.out.2.1.all hbr, HS3.out.2.2.1.all hbr, HS3.out.2.2.2.1.all hbr, HS3.out.2.2.2.2.1.all hbr, Flat.all HS3.out.2.2.2.2.2 hbr⟩)
        have HS4 := Lib.hid (show Below w.heap.size w (wr4.alloc (.cells #[.int .i64 dk, .int .i64 dn, sV ds, .slice dla dln dlc, .slice dfa dfn dfc] 25)) ∧ Own (wr4.alloc (.cells #[.int .i64 dk, .int .i64 dn, sV ds, .slice dla dln dlc, .slice dfa dfn dfc] 25)) w.heap.size [.int .i64 ck, .int .i64 cn, sV cs, .slice cla cln clc, .slice cfa cfn cfc] 25 ∧ Own (wr4.alloc (.cells #[.int .i64 dk, .int .i64 dn, sV ds, .slice dla dln dlc, .slice dfa dfn dfc] 25)) (w.heap.size + 1) [.int .i64 gk, .int .i64 gn, sV gs, .slice gla gln glc, .slice gfa gfn gfc] 25 ∧ Is (wr4.alloc (.cells #[.int .i64 dk, .int .i64 dn, sV ds, .slice dla dln dlc, .slice dfa dfn dfc] 25)) ⟨ck, cn, cs, cla, cln, clc, cfa, cfn, cfc⟩ t ∧ Is (wr4.alloc (.cells #[.int .i64 dk, .int .i64 dn, sV ds, .slice dla dln dlc, .slice dfa dfn dfc] 25)) ⟨gk, gn, gs, gla, gln, glc, gfa, gfn, gfc⟩ x ∧ Stps (wr4.alloc (.cells #[.int .i64 dk, .int .i64 dn, sV ds, .slice dla dln dlc, .slice dfa dfn dfc] 25)) (.slice ao n cp) p from ⟨below_all HA4.out.1 hbA, HA4.out.2.1.all hbA, HA4.out.2.2.1.all hbA, HA4.out.2.2.2.1.all hbA, HA4.out.2.2.2.2.1.all hbA, Flat.all HA4.out.2.2.2.2.2 hbA⟩)
        have Hd4 := Lib.hid (And.intro (Own.new wr4 [.int .i64 dk, .int .i64 dn, sV ds, .slice dla dln dlc, .slice dfa dfn dfc] 25) (hId.all hbA))
        clear C hEE hres hbr hbA hId hId' HS3 HA4 
        clear x0 x1 x2 x3 x4
        clear y0 y1 y2 y3 y4
        go_upto_region 4 with (fail)
        change Code.wp Tryz.prog _ _ _ (wr4.alloc (.cells #[.int .i64 dk, .int .i64 dn, sV ds, .slice dla dln dlc, .slice dfa dfn dfc] 25))
        generalize wr4.alloc (.cells #[.int .i64 dk, .int .i64 dn, sV ds, .slice dla dln dlc, .slice dfa dfn dfc] 25) = W4 at *
        generalize wr4.heap.size = bd at *
        have C := Lib.hid (pset_any p t x HSZ.out.1.1 HSZ.out.2.1 HSZ.out.1.2 HSZ.out.2.2 (by have := HF.out.1; omega) (fun s hs => by have := HF.out.2 s hs; omega) ⟨ck, cn, cs, cla, cln, clc, cfa, cfn, cfc⟩ ⟨gk, gn, gs, gla, gln, glc, gfa, gfn, gfc⟩ _ W4 HS4.out.2.2.2.1 HS4.out.2.2.2.2.1 HS4.out.2.2.2.2.2)
        have x0 := HS4.out.2.1.cell (i := 0) rfl
        have x1 := HS4.out.2.1.cell (i := 1) rfl
        have x2 := HS4.out.2.1.cell (i := 2) rfl
        have x3 := HS4.out.2.1.cell (i := 3) rfl
        have x4 := HS4.out.2.1.cell (i := 4) rfl
        have y0 := HS4.out.2.2.1.cell (i := 0) rfl
        have y1 := HS4.out.2.2.1.cell (i := 1) rfl
        have y2 := HS4.out.2.2.1.cell (i := 2) rfl
        have y3 := HS4.out.2.2.1.cell (i := 3) rfl
        have y4 := HS4.out.2.2.1.cell (i := 4) rfl
        go_wp2_with fail
        refine C.out.mono ?_
        intro e wr5 hres
        obtain ⟨⟨hk, hn, hs, hla, hln, hlc, hfa, hfn, hfc⟩, he, hId'⟩ := hres.out
        have hId : Is wr5 ⟨hk, hn, hs, hla, hln, hlc, hfa, hfn, hfc⟩ (resS p t x).1 := hId'
        obtain ⟨Eh, hEE⟩ : ∃ E, (resS p t x).2 = E := ⟨_, rfl⟩
        rw [hEE] at he
        subst he
        have HEEh := Lib.hid hEE
        have hbr := hres.below
        have hbA := below_alloc wr5 (.cells #[.int .i64 hk, .int .i64 hn, sV hs, .slice hla hln hlc, .slice hfa hfn hfc] 25)
        have HA5 := Lib.hid (show Below w.heap.size w wr5 ∧ Own wr5 w.heap.size [.int .i64 ck, .int .i64 cn, sV cs, .slice cla cln clc, .slice cfa cfn cfc] 25 ∧ Own wr5 (w.heap.size + 1) [.int .i64 gk, .int .i64 gn, sV gs, .slice gla gln glc, .slice gfa gfn gfc] 25 ∧ Is wr5 ⟨ck, cn, cs, cla, cln, clc, cfa, cfn, cfc⟩ t ∧ Is wr5 ⟨gk, gn, gs, gla, gln, glc, gfa, gfn, gfc⟩ x ∧ Stps wr5 (.slice ao n cp) p from ⟨below_all HS4.out.1 hbr, HS4.out.2.1.all hbr, HS4.out.2.2.1.all hbr, HS4.out.2.2.2.1.all hbr, HS4.out.2.2.2.2.1.all hbr, Flat.all HS4.out.2.2.2.2.2 hbr⟩)
        have HS5 := Lib.hid (show Below w.heap.size w (wr5.alloc (.cells #[.int .i64 hk, .int .i64 hn, sV hs, .slice hla hln hlc, .slice hfa hfn hfc] 25)) ∧ Own (wr5.alloc (.cells #[.int .i64 hk, .int .i64 hn, sV hs, .slice hla hln hlc, .slice hfa hfn hfc] 25)) w.heap.size [.int .i64 ck, .int .i64 cn, sV cs, .slice cla cln clc, .slice cfa cfn cfc] 25 ∧ Own (wr5.alloc (.cells #[.int .i64 hk, .int .i64 hn, sV hs, .slice hla hln hlc, .slice hfa hfn hfc] 25)) (w.heap.size + 1) [.int .i64 gk, .int .i64 gn, sV gs, .slice gla gln glc, .slice gfa gfn gfc] 25 ∧ Is (wr5.alloc (.cells #[.int .i64 hk, .int .i64 hn, sV hs, .slice hla hln hlc, .slice hfa hfn hfc] 25)) ⟨ck, cn, cs, cla, cln, clc, cfa, cfn, cfc⟩ t ∧ Is (wr5.alloc (.cells #[.int .i64 hk, .int .i64 hn, sV hs, .slice hla hln hlc, .slice hfa hfn hfc] 25)) ⟨gk, gn, gs, gla, gln, glc, gfa, gfn, gfc⟩ x ∧ Stps (wr5.alloc (.cells #[.int .i64 hk, .int .i64 hn, sV hs, .slice hla hln hlc, .slice hfa hfn hfc] 25)) (.slice ao n cp) p from ⟨below_all HA5.out.1 hbA, HA5.out.2.1.all hbA, HA5.out.2.2.1.all hbA, HA5.out.2.2.2.1.all hbA, HA5.out.2.2.2.2.1.all hbA, Flat.all HA5.out.2.2.2.2.2 hbA⟩)
        have Hd5 := Lib.hid (And.intro ((Hd4.out.1.all hbr).all hbA) ((Hd4.out.2.all hbr).all hbA))
        have Hh5 := Lib.hid (And.intro (Own.new wr5 [.int .i64 hk, .int .i64 hn, sV hs, .slice hla hln hlc, .slice hfa hfn hfc] 25) (hId.all hbA))
        clear C hEE hres hbr hbA hId hId' HS4 HA5 Hd4
        clear x0 x1 x2 x3 x4
        clear y0 y1 y2 y3 y4
        go_upto_region 5 with (fail)
        change Code.wp Tryz.prog _ _ _ (wr5.alloc (.cells #[.int .i64 hk, .int .i64 hn, sV hs, .slice hla hln hlc, .slice hfa hfn hfc] 25))
        generalize wr5.alloc (.cells #[.int .i64 hk, .int .i64 hn, sV hs, .slice hla hln hlc, .slice hfa hfn hfc] 25) = W5 at *
        generalize wr5.heap.size = bh at *
        obtain rfl : Ed = Eh := HEEd.out.symm.trans HEEh.out
        have e1 : (Ed == Ed) = true := by rw [beq_iff_eq]
        have C := Lib.hid (alike_any _ (resS p t x).1 (Nat.le_refl _) ⟨dk, dn, ds, dla, dln, dlc, dfa, dfn, dfc⟩ ⟨hk, hn, hs, hla, hln, hlc, hfa, hfn, hfc⟩ W5 Hd5.out.2 Hh5.out.2)
        have x0 := Hd5.out.1.cell (i := 0) rfl
        have x1 := Hd5.out.1.cell (i := 1) rfl
        have x2 := Hd5.out.1.cell (i := 2) rfl
        have x3 := Hd5.out.1.cell (i := 3) rfl
        have x4 := Hd5.out.1.cell (i := 4) rfl
        have y0 := Hh5.out.1.cell (i := 0) rfl
        have y1 := Hh5.out.1.cell (i := 1) rfl
        have y2 := Hh5.out.1.cell (i := 2) rfl
        have y3 := Hh5.out.1.cell (i := 3) rfl
        have y4 := Hh5.out.1.cell (i := 4) rfl
        go_wp2_with fail
        refine C.out.mono ?_
        rintro e w7 ⟨rfl, hb7⟩
        have HB7 := Lib.hid (below_all HS5.out.1 hb7)
        clear C hb7 HS5 Hd5 Hh5
        clear x0 x1 x2 x3 x4
        clear y0 y1 y2 y3 y4
        have CL := Lib.hid (plives_any w7)
        go_wp2_with fail
        refine CL.out.mono ?_
        rintro e wl ⟨rfl, hbl⟩
        have HBl := Lib.hid (below_all HB7.out hbl)
        clear CL hbl
        go_wp2
        go_ret
        exact ⟨rfl, HBl.out⟩
end Go.Proofs.YtjpmnlefjmdelaaGreatDoor
