/- A text. Parse: the deferred closure. Parse. -/
import Derived.Test.YtjpmnlefjmdelaaDoorKn
import Derived.Recover
import Derived.Defers
import Derived.Test.YtjpmnlefjmdelaaDoorCeJ
namespace Go.Proofs.YtjpmnlefjmdelaaDoor
open Go.RowKit Go.Sort Go.Proofs.LawFrame

set_option maxHeartbeats 4000000 in
set_option maxRecDepth 4000 in
theorem readText_any {pb : Nat} {s : Str} {w : World} (hl : s.length ≤ 20000) (st : St pb s s ((0 : Nat) : Int) w) :
    Calls Tryd.prog 20 #[.pointer (some ⟨pb, 0, none⟩)] w (Res pb s w (textR s) (fun t w' v => ∃ c : VC, v = c.val ∧ IsA w' (fun b => w.heap.size ≤ b) c t)) := by
  have hpb := st.lt
  have hB := But.allow (b := pb) (below_alloc w (.cells #[.int .i64 0, .int .i64 0, .string ⟨#[]⟩, .slice none 0 0, .slice none 0 0] 26))
  have oR := Own.new w [.int .i64 0, .int .i64 0, .string ⟨#[]⟩, .slice none 0 0, .slice none 0 0] 26
  have st' := st.all (below_alloc w (.cells #[.int .i64 0, .int .i64 0, .string ⟨#[]⟩, .slice none 0 0, .slice none 0 0] 26))
  have HS := Lib.hid (And.intro hB (And.intro oR st'))
  clear hB oR st' st
  go_enter Tryd.func20, Tryd.ntmps20
  go_upto_region 1 with (fail)
  change Code.wp Tryd.prog _ _ _ (w.alloc (.cells #[.int .i64 0, .int .i64 0, .string ⟨#[]⟩, .slice none 0 0, .slice none 0 0] 26))
  generalize w.alloc (.cells #[.int .i64 0, .int .i64 0, .string ⟨#[]⟩, .slice none 0 0, .slice none 0 0] 26) = V at *
  have C := Lib.hid (readValue_any (pb := pb) hl 12 (Nat.le_refl _) false 0 s V (by omega) HS.out.2.2)
  go_wp2_with fail
  refine C.out.mono ?_
  rintro e w1 hres
  clear C
  cases hR : valR 12 false 0 s with
  | er a b =>
    obtain rfl := hres.er a b hR
    have HB := Lib.hid (HS.out.1.trans hres.but)
    clear hres
    go_wp2
    exact ⟨rfl, Res.mkEr (k := a) (c := b) (by unfold textR; rw [hR]) HB.out⟩
  | ok p =>
    obtain ⟨t, n', r⟩ := p
    obtain ⟨v, rfl, hqv⟩ := hres.ok _ hR
    obtain ⟨c9, rfl, hI⟩ := hqv.val
    have HR := Lib.hid hR
    have hbA := below_alloc w1 (.cells #[.int .i64 c9.k, .int .i64 c9.n, sV c9.s, .slice c9.la c9.ln c9.lc, .slice c9.fa c9.fn c9.fc] 26)
    have hb1 := HS.out.1.trans hres.but
    have hlt := HS.out.2.1.lt
    have hsz := hb1.size
    have HS1 := Lib.hid (And.intro (hb1.all hbA) (And.intro ((Own.but HS.out.2.1 hres.but (by omega)).all hbA) (And.intro (hqv.st.all hbA) (And.intro (Own.new w1 [.int .i64 c9.k, .int .i64 c9.n, sV c9.s, .slice c9.la c9.ln c9.lc, .slice c9.fa c9.fn c9.fc] 26) (show IsA _ (fun b => w.heap.size < b ∧ w.heap.size ≤ b) c9 t from (hI.all hbA).mono (fun b hb => ⟨by omega, by omega⟩))))))
    have hs1 := hres.but.size
    clear hres hR hqv hI hbA hb1 HS
    go_upto_region 2 with (fail)
    change Code.wp Tryd.prog _ _ _ (w1.alloc (.cells #[.int .i64 c9.k, .int .i64 c9.n, sV c9.s, .slice c9.la c9.ln c9.lc, .slice c9.fa c9.fn c9.fc] 26))
    generalize w1.alloc (.cells #[.int .i64 c9.k, .int .i64 c9.n, sV c9.s, .slice c9.la c9.ln c9.lc, .slice c9.fa c9.fn c9.fc] 26) = V1 at *
    have C := Lib.hid (skipBlanks_any hl HS1.out.2.2.1)
    go_wp2_with fail
    refine C.out.mono ?_
    rintro e w2 ⟨rfl, hb2, st2⟩
    clear C
    have HS2 := Lib.hid (And.intro (HS1.out.1.trans hb2) (And.intro (Own.but HS1.out.2.1 hb2 (by omega)) (And.intro st2 (And.intro (Own.but HS1.out.2.2.2.1 hb2 (by omega)) (HS1.out.2.2.2.2.but hb2 (by simp; omega))))))
    clear hb2 st2 HS1
    obtain ⟨q, hq⟩ : ∃ q, skp r = q := ⟨_, rfl⟩
    have HSK := Lib.hid hq
    obtain ⟨i, hi, hd, o⟩ := HS2.out.2.2.1.out
    rw [hq] at hd
    clear hq
    have u0 := o.cell (i := 0) rfl
    have u1 := o.cell (i := 1) rfl
    cases q with
    | nil =>
      obtain rfl := drop_end hd hi
      clear o
      go_upto_region 3 with (fail)
      go_region
      clear u0 u1
      obtain ⟨hB, oR, st, oV, hI9⟩ := HS2.out
      replace hB := hB.drew
      replace oR := oR.drew
      replace oV := oV.drew
      replace st := st.all ((Below.refl _ _).drew)
      replace hI9 := hI9.all ((Below.refl _ _).drew)
      clear HS2
      generalize w2.drew = U3 at *
      have a0 := oV.cell (i := 0) rfl
      have a1 := oV.cell (i := 1) rfl
      have a2 := oV.cell (i := 2) rfl
      have a3 := oV.cell (i := 3) rfl
      have a4 := oV.cell (i := 4) rfl
      clear oV
      have r0 := oR.cell (i := 0) rfl
      have r1 := oR.cell (i := 1) rfl
      have r2 := oR.cell (i := 2) rfl
      have r3 := oR.cell (i := 3) rfl
      have r4 := oR.cell (i := 4) rfl
      have g0 := oR.frozen 0
      have g1 := oR.frozen 1
      have g2 := oR.frozen 2
      have g3 := oR.frozen 3
      have g4 := oR.frozen 4
      have HS := Lib.hid (And.intro (own_put5 oR (.int .i64 c9.k) (.int .i64 c9.n) (sV c9.s) (.slice c9.la c9.ln c9.lc) (.slice c9.fa c9.fn c9.fc)) (And.intro (hB.put5 (b := w.heap.size) (by omega) (.int .i64 c9.k) (.int .i64 c9.n) (sV c9.s) (.slice c9.la c9.ln c9.lc) (.slice c9.fa c9.fn c9.fc)) (And.intro (st.put5 (b := w.heap.size) (by omega) (.int .i64 c9.k) (.int .i64 c9.n) (sV c9.s) (.slice c9.la c9.ln c9.lc) (.slice c9.fa c9.fn c9.fc)) (hI9.put5 (b := w.heap.size) (fun h => absurd h.1 (Nat.lt_irrefl _)) (.int .i64 c9.k) (.int .i64 c9.n) (sV c9.s) (.slice c9.la c9.ln c9.lc) (.slice c9.fa c9.fn c9.fc)))))
      clear hB oR st hI9
      go_wp2
      clear r0 r1 r2 r3 r4 g0 g1 g2 g3 g4
      change bodyPost Tryd.prog Tryd.f20 _ _ _ (put5 U3 (w.heap.size) (.int .i64 c9.k) (.int .i64 c9.n) (sV c9.s) (.slice c9.la c9.ln c9.lc) (.slice c9.fa c9.fn c9.fc))
      generalize put5 U3 (w.heap.size) (.int .i64 c9.k) (.int .i64 c9.n) (sV c9.s) (.slice c9.la c9.ln c9.lc) (.slice c9.fa c9.fn c9.fc) = U at *
      obtain ⟨oS, hB, st, hI9⟩ := HS.out
      have c0 := oS.cell (i := 0) rfl
      have c1 := oS.cell (i := 1) rfl
      have c2 := oS.cell (i := 2) rfl
      have c3 := oS.cell (i := 3) rfl
      have c4 := oS.cell (i := 4) rfl
      exact bodyPost_ret (v := c9.val) (by simp [results, Tryd.results20, go_sem, c0, c1, c2, c3, c4, VC.val]) rfl (Res.mkOk (b := t) (by unfold textR; rw [HR.out]; simp only [HSK.out]) hB ⟨c9, rfl, hI9.mono (fun b hb => hb.2)⟩)
    | cons c r2 =>
      obtain ⟨hlt2, -, -, -⟩ := drop_byte hd
      have HD := Lib.hid hd
      clear o hd
      go_upto_region 3 with (fail)
      go_region
      clear u0 u1
      have C := Lib.hid (fail_st 2 (HS2.out.2.2.1.all ((Below.refl _ _).drew)))
      go_wp2_with fail
      refine C.out.mono ?_
      rintro e w7 ⟨rfl, rfl⟩
      go_wp2
      rw [HSK.out]
      exact ⟨rfl, Res.mkEr (k := r2.length + 1) (c := 2) (by unfold textR; rw [HR.out]; simp only [HSK.out]) HS2.out.1.drew⟩
end Go.Proofs.YtjpmnlefjmdelaaDoor
namespace Go.Proofs.YtjpmnlefjmdelaaDoor
open Go.RowKit Go.Sort Go.Proofs.LawFrame

set_option maxHeartbeats 1000000 in
set_option maxRecDepth 4000 in
theorem catch_panicking (bv ba bc : Nat) (z0 z1 z2 z3 z4 za zc : Value) (i code : Int) (older : List PanicEntry) (w : World) (ov : Own w bv [z0, z1, z2, z3, z4] 26) (oa : Own w ba [za] 3) (oc : Own w bc [zc] 27) (h1 : bv ≠ ba) (h2 : bv ≠ bc) (h3 : ba ≠ bc) :
    CallsD Tryd.prog 19 #[.pointer (some ⟨bv, 0, none⟩), .pointer (some ⟨ba, 0, none⟩), .pointer (some ⟨bc, 0, none⟩)] (.panicking ({ v := .iface 48 (.agg #[.int .i64 i, .int .i64 code]), recovered := false } :: older)) w fun e u' w' =>
      e = .returned (.tuple #[]) ∧ u' = .panicking ({ v := .iface 48 (.agg #[.int .i64 i, .int .i64 code]), recovered := true } :: older) ∧ Own w' bv [.int .i64 0, .int .i64 0, .string ⟨#[]⟩, .slice none 0 0, .slice none 0 0] 26 ∧ Own w' ba [.int .i64 i] 3 ∧ Own w' bc [.int .i64 code] 27 ∧ ∀ B a, B ≤ w.heap.size → B ≤ bv → B ≤ ba → B ≤ bc → Below B a w → Below B a w' := by
  have hta : ∀ w : World, (Instr.typeAssert (.iface 48 (.agg #[.int .i64 i, .int .i64 code])) 20 48 true).run Tryd.prog w = .ok (.tuple #[.agg #[.int .i64 i, .int .i64 code], .bool true]) w := fun _ => by kernel_rfl
  refine callsD_of_wpS Tryd.func19 rfl fun c₀ cs hu => ?_
  apply wpS_seq
  apply wpS_region
  simp [wpOpsS, go_sem, recoverD, hu, Tryd.ntmps19, Exit.thenS, hta, Array.replicate, List.replicate]
  refine wpS_of_wp ?_
  go_upto_region 2 with (fail)
  have oF : Own (w.alloc (.cells #[.int .i64 i, .int .i64 code] 48)) w.heap.size [.int .i64 i, .int .i64 code] 48 := Own.new _ _ _
  have lv := ov.lt
  have la := oa.lt
  have lc := oc.lt
  have hbA := below_alloc w (.cells #[.int .i64 i, .int .i64 code] 48)
  replace ov := ov.all hbA
  replace oa := oa.all hbA
  replace oc := oc.all hbA
  change Code.wp Tryd.prog _ _ _ (w.alloc (.cells #[.int .i64 i, .int .i64 code] 48))
  have HB : Hid (∀ B a, B ≤ w.heap.size → Below B a w → Below B a (w.alloc (.cells #[.int .i64 i, .int .i64 code] 48))) := Lib.hid (fun B a h hb => hb.alloc h _)
  clear hbA
  generalize w.alloc (.cells #[.int .i64 i, .int .i64 code] 48) = V at *
  have v0 := ov.cell (i := 0) rfl
  have v1 := ov.cell (i := 1) rfl
  have v2 := ov.cell (i := 2) rfl
  have v3 := ov.cell (i := 3) rfl
  have v4 := ov.cell (i := 4) rfl
  have g0 := ov.frozen 0
  have g1 := ov.frozen 1
  have g2 := ov.frozen 2
  have g3 := ov.frozen 3
  have g4 := ov.frozen 4
  have a0 := oa.cell (i := 0) rfl
  have a1 := oa.frozen 0
  have c0 := oc.cell (i := 0) rfl
  have c1 := oc.frozen 0
  have f0 := oF.cell (i := 0) rfl
  have f1 := oF.cell (i := 1) rfl
  have HO := Lib.hid (And.intro ov (And.intro oa oc))
  clear ov oa oc oF
  go_region
  obtain ⟨ov, oa, oc⟩ := HO.out
  refine ⟨rfl, _, rfl, .tuple #[], by simp [results, Tryd.results19, go_sem], rfl, rfl, ?_, ?_, ?_, ?_⟩
  · exact (((own_put5 ov _ _ _ _ _).set_ne h1 _ _).set_ne h2 _ _).drew
  · exact ((((((((oa.set_ne h1.symm _ _).set_ne h1.symm _ _).set_ne h1.symm _ _).set_ne h1.symm _ _).set_ne h1.symm _ _).set 0 _).set_ne h3 _ _)).drew
  · exact ((((((((oc.set_ne h2.symm _ _).set_ne h2.symm _ _).set_ne h2.symm _ _).set_ne h2.symm _ _).set_ne h2.symm _ _).set_ne h3.symm _ _).set 0 _)).drew
  · intro B a hB hv1 ha1 hc1 hb5
    exact (below_set (below_set (below_set (below_set (below_set (below_set (below_set (HB.out B a hB hb5) hv1 _) hv1 _) hv1 _) hv1 _) hv1 _) ha1 _) hc1 _).drew
set_option maxHeartbeats 1000000 in
set_option maxRecDepth 4000 in
theorem catch_idle (bv ba bc : Nat) (w : World) :
    CallsD Tryd.prog 19 #[.pointer (some ⟨bv, 0, none⟩), .pointer (some ⟨ba, 0, none⟩), .pointer (some ⟨bc, 0, none⟩)] .returning w fun e u' w' => e = .returned (.tuple #[]) ∧ u' = .returning ∧ Below w.heap.size w w' := by
  have hta : ∀ w : World, (Instr.typeAssert .nilIface 20 48 true).run Tryd.prog w = .ok (.tuple #[.agg #[.int .i64 0, .int .i64 0], .bool false]) w := fun _ => by kernel_rfl
  refine callsD_of_wpS Tryd.func19 rfl fun c₀ cs hu => ?_
  apply wpS_seq
  apply wpS_region
  simp [wpOpsS, go_sem, recoverD, hu, Tryd.ntmps19, Exit.thenS, hta, Array.replicate, List.replicate]
  refine wpS_of_wp ?_
  go_wp2
  exact ⟨rfl, .returning, by cases c₀; simp_all, .tuple #[], by simp [results, Tryd.results19, go_sem], rfl, rfl, below_alloc w _⟩
end Go.Proofs.YtjpmnlefjmdelaaDoor
namespace Go.Proofs.YtjpmnlefjmdelaaDoor
open Go.RowKit Go.Sort Go.Proofs.LawFrame

/-- what Parse answers -/
def parseR (s : Str) : T × Int × Int := if 20000 < s.length then (.mk 0 0 [] [] [], 20000, 4) else match textR s with
  | .ok t => (t, 0, 0)
  | .er k c => (.mk 0 0 [] [] [], ((s.length - k : Nat) : Int), c)
structure QP (w : World) (p : T × Int × Int) (e : Ending) (w' : World) : Prop where
  out : ∃ c : VC, e = .returned (.tuple #[c.val, .int .i64 p.2.1, .int .i64 p.2.2]) ∧ Below w.heap.size w w' ∧ IsA w' (fun b => w.heap.size ≤ b) c p.1

set_option maxHeartbeats 4000000 in
set_option maxRecDepth 4000 in
theorem parse_any (s : Str) (w : World) : Calls Tryd.prog 6 #[sV s] w (QP w (parseR s)) := by
  have hmf : ∀ (fn : Fn) (first cap : Array Value) (w : World), (Instr.makeFunc fn first cap).run Tryd.prog w = .ok (.func fn first cap) w := fun _ _ _ _ => rfl
  by_cases hl : 20000 < s.length
  · rw [show parseR s = (.mk 0 0 [] [] [], 20000, 4) by unfold parseR; rw [if_pos hl]]
    go_enter_defers Tryd.func6, Tryd.ntmps6
    go_wp2
    have hb0 : Below w.heap.size w (((w.alloc (.cells #[.int .i64 0, .int .i64 0, .string ⟨#[]⟩, .slice none 0 0, .slice none 0 0] 26)).alloc (.cells #[.int .i64 20000] 3)).alloc (.cells #[.int .i64 4] 27)) := (((Below.refl _ _).alloc (Nat.le_refl _) _).alloc (by rw [size_alloc]; omega) _).alloc (by rw [size_alloc, size_alloc]; omega) _
    have ov : Own (((w.alloc (.cells #[.int .i64 0, .int .i64 0, .string ⟨#[]⟩, .slice none 0 0, .slice none 0 0] 26)).alloc (.cells #[.int .i64 20000] 3)).alloc (.cells #[.int .i64 4] 27)) w.heap.size [.int .i64 0, .int .i64 0, .string ⟨#[]⟩, .slice none 0 0, .slice none 0 0] 26 := ((Own.new _ _ _).alloc _).alloc _
    have oa : Own (((w.alloc (.cells #[.int .i64 0, .int .i64 0, .string ⟨#[]⟩, .slice none 0 0, .slice none 0 0] 26)).alloc (.cells #[.int .i64 20000] 3)).alloc (.cells #[.int .i64 4] 27)) (w.heap.size + 1) [.int .i64 20000] 3 := (Own.new_at (by rw [size_alloc]) _ _).alloc _
    have oc : Own (((w.alloc (.cells #[.int .i64 0, .int .i64 0, .string ⟨#[]⟩, .slice none 0 0, .slice none 0 0] 26)).alloc (.cells #[.int .i64 20000] 3)).alloc (.cells #[.int .i64 4] 27)) (w.heap.size + 1 + 1) [.int .i64 4] 27 := Own.new_at (by rw [size_alloc, size_alloc]) _ _
    change bodyPostD Tryd.prog Tryd.f6 _ _ _ (((w.alloc (.cells #[.int .i64 0, .int .i64 0, .string ⟨#[]⟩, .slice none 0 0, .slice none 0 0] 26)).alloc (.cells #[.int .i64 20000] 3)).alloc (.cells #[.int .i64 4] 27))
    generalize (((w.alloc (.cells #[.int .i64 0, .int .i64 0, .string ⟨#[]⟩, .slice none 0 0, .slice none 0 0] 26)).alloc (.cells #[.int .i64 20000] 3)).alloc (.cells #[.int .i64 4] 27)) = U at *
    have x0 := ov.cell (i := 0) rfl
    have x1 := ov.cell (i := 1) rfl
    have x2 := ov.cell (i := 2) rfl
    have x3 := ov.cell (i := 3) rfl
    have x4 := ov.cell (i := 4) rfl
    have y0 := oa.cell (i := 0) rfl
    have z0 := oc.cell (i := 0) rfl
    exact ⟨.tuple #[.agg #[.int .i64 0, .int .i64 0, .string ⟨#[]⟩, .slice none 0 0, .slice none 0 0], .int .i64 20000, .int .i64 4], by simp [results, Tryd.results6, go_sem, x0, x1, x2, x3, x4, y0, z0], VC0, rfl, hb0, isA_leaf _ _ _ _ _⟩
  · have hb0 : Below w.heap.size w ((((w.alloc (.cells #[.int .i64 0, .int .i64 0, .string ⟨#[]⟩, .slice none 0 0, .slice none 0 0] 26)).alloc (.cells #[.int .i64 0] 3)).alloc (.cells #[.int .i64 0] 27)).alloc (.cells #[sV s, .int .i64 0, .int .i64 0] 51)) := ((((Below.refl _ _).alloc (Nat.le_refl _) _).alloc (by rw [size_alloc]; omega) _).alloc (by rw [size_alloc, size_alloc]; omega) _).alloc (by rw [size_alloc, size_alloc, size_alloc]; omega) _
    have ov : Own ((((w.alloc (.cells #[.int .i64 0, .int .i64 0, .string ⟨#[]⟩, .slice none 0 0, .slice none 0 0] 26)).alloc (.cells #[.int .i64 0] 3)).alloc (.cells #[.int .i64 0] 27)).alloc (.cells #[sV s, .int .i64 0, .int .i64 0] 51)) w.heap.size [.int .i64 0, .int .i64 0, .string ⟨#[]⟩, .slice none 0 0, .slice none 0 0] 26 := (((Own.new _ _ _).alloc _).alloc _).alloc _
    have oa : Own ((((w.alloc (.cells #[.int .i64 0, .int .i64 0, .string ⟨#[]⟩, .slice none 0 0, .slice none 0 0] 26)).alloc (.cells #[.int .i64 0] 3)).alloc (.cells #[.int .i64 0] 27)).alloc (.cells #[sV s, .int .i64 0, .int .i64 0] 51)) (w.heap.size + 1) [.int .i64 0] 3 := ((Own.new_at (by rw [size_alloc]) _ _).alloc _).alloc _
    have oc : Own ((((w.alloc (.cells #[.int .i64 0, .int .i64 0, .string ⟨#[]⟩, .slice none 0 0, .slice none 0 0] 26)).alloc (.cells #[.int .i64 0] 3)).alloc (.cells #[.int .i64 0] 27)).alloc (.cells #[sV s, .int .i64 0, .int .i64 0] 51)) (w.heap.size + 1 + 1) [.int .i64 0] 27 := (Own.new_at (by rw [size_alloc, size_alloc]) _ _).alloc _
    have op : Own ((((w.alloc (.cells #[.int .i64 0, .int .i64 0, .string ⟨#[]⟩, .slice none 0 0, .slice none 0 0] 26)).alloc (.cells #[.int .i64 0] 3)).alloc (.cells #[.int .i64 0] 27)).alloc (.cells #[sV s, .int .i64 0, .int .i64 0] 51)) (w.heap.size + 1 + 1 + 1) [sV s, .int .i64 0, .int .i64 0] 51 := Own.new_at (by rw [size_alloc, size_alloc, size_alloc]) _ _
    have HS := Lib.hid (And.intro hb0 (And.intro ov (And.intro oa (And.intro oc op))))
    clear hb0 ov oa oc op
    go_enter_defers Tryd.func6, Tryd.ntmps6
    go_upto_region 5 with (fail)
    change Code.wp Tryd.prog _ _ _ ((((w.alloc (.cells #[.int .i64 0, .int .i64 0, .string ⟨#[]⟩, .slice none 0 0, .slice none 0 0] 26)).alloc (.cells #[.int .i64 0] 3)).alloc (.cells #[.int .i64 0] 27)).alloc (.cells #[sV s, .int .i64 0, .int .i64 0] 51))
    generalize ((((w.alloc (.cells #[.int .i64 0, .int .i64 0, .string ⟨#[]⟩, .slice none 0 0, .slice none 0 0] 26)).alloc (.cells #[.int .i64 0] 3)).alloc (.cells #[.int .i64 0] 27)).alloc (.cells #[sV s, .int .i64 0, .int .i64 0] 51)) = V at *
    have C := Lib.hid (readText_any (pb := w.heap.size + 1 + 1 + 1) (s := s) (w := V) (by omega) ⟨0, by omega, by simp, HS.out.2.2.2.2⟩)
    have hlt := HS.out.2.2.2.2.lt
    go_wp2_with fail
    refine C.out.mono ?_
    rintro e w1 hres
    clear C
    have hb1 : Below w.heap.size w w1 := hres.but.below HS.out.1 (by omega) HS.out.1.size
    have ov := Own.but HS.out.2.1 hres.but (by omega)
    have oa := Own.but HS.out.2.2.1 hres.but (by omega)
    have oc := Own.but HS.out.2.2.2.1 hres.but (by omega)
    have hs1 := hres.but.size
    clear HS
    cases hR : textR s with
    | er k c =>
      obtain rfl := hres.er k c hR
      have HPR : Hid (parseR s = (.mk 0 0 [] [] [], ((s.length - k : Nat) : Int), c)) := Lib.hid (by unfold parseR; rw [if_neg hl, hR])
      have HS := Lib.hid (And.intro hb1 (And.intro ov (And.intro oa oc)))
      clear hres hb1 ov oa oc hR
      go_wp2
      refine leaves_cons (f := 19) (args := #[.pointer (some ⟨w.heap.size, 0, none⟩), .pointer (some ⟨w.heap.size + 1, 0, none⟩), .pointer (some ⟨w.heap.size + 1 + 1, 0, none⟩)]) (by simp) (by simp [go_sem]) ?_
      refine (catch_panicking w.heap.size (w.heap.size + 1) (w.heap.size + 1 + 1) _ _ _ _ _ _ _ _ _ [] w1 HS.out.2.1 HS.out.2.2.1 HS.out.2.2.2 (by omega) (by omega) (by omega)).mono ?_
      rintro e u' U ⟨rfl, rfl, ov, oa, oc, hbl⟩
      have hb0 := hbl w.heap.size w (by have := HS.out.1.size; omega) (by omega) (by omega) (by omega) HS.out.1
      have x0 := ov.cell (i := 0) rfl
      have x1 := ov.cell (i := 1) rfl
      have x2 := ov.cell (i := 2) rfl
      have x3 := ov.cell (i := 3) rfl
      have x4 := ov.cell (i := 4) rfl
      have y0 := oa.cell (i := 0) rfl
      have z0 := oc.cell (i := 0) rfl
      exact ⟨.tuple #[.agg #[.int .i64 0, .int .i64 0, .string ⟨#[]⟩, .slice none 0 0, .slice none 0 0], .int .i64 ((s.length - k : Nat) : Int), .int .i64 c], by simp [results, Tryd.results6, go_sem, x0, x1, x2, x3, x4, y0, z0], by rw [HPR.out]; exact ⟨VC0, rfl, hb0, isA_leaf _ _ _ _ _⟩⟩
    | ok t =>
      obtain ⟨v, rfl, c9, rfl, hI⟩ := hres.ok t hR
      have HPR : Hid (parseR s = (t, 0, 0)) := Lib.hid (by unfold parseR; rw [if_neg hl, hR])
      have hI9 : IsA w1 (fun b => w.heap.size + 1 + 1 < b) c9 t := hI.mono (fun b hb => by omega)
      have x0 := ov.cell (i := 0) rfl
      have x1 := ov.cell (i := 1) rfl
      have x2 := ov.cell (i := 2) rfl
      have x3 := ov.cell (i := 3) rfl
      have x4 := ov.cell (i := 4) rfl
      have y0 := oa.cell (i := 0) rfl
      have z0 := oc.cell (i := 0) rfl
      have p0 := ov.frozen 0
      have p1 := ov.frozen 1
      have p2 := ov.frozen 2
      have p3 := ov.frozen 3
      have p4 := ov.frozen 4
      have py := oa.frozen 0
      have pz := oc.frozen 0
      have HS := Lib.hid (And.intro (below_set (below_set (below_set (below_set (below_set (below_set (below_set hb1 (Nat.le_refl w.heap.size) (i := 0) (.int .i64 c9.k)) (Nat.le_refl _) (i := 1) (.int .i64 c9.n)) (Nat.le_refl _) (i := 2) (sV c9.s)) (Nat.le_refl _) (i := 3) (.slice c9.la c9.ln c9.lc)) (Nat.le_refl _) (i := 4) (.slice c9.fa c9.fn c9.fc)) (b := w.heap.size + 1) (by omega) (i := 0) (.int .i64 0)) (b := w.heap.size + 1 + 1) (by omega) (i := 0) (.int .i64 0)) (And.intro (((own_put5 ov (.int .i64 c9.k) (.int .i64 c9.n) (sV c9.s) (.slice c9.la c9.ln c9.lc) (.slice c9.fa c9.fn c9.fc)).set_ne (b' := w.heap.size + 1) (by omega) 0 (.int .i64 0)).set_ne (b' := w.heap.size + 1 + 1) (by omega) 0 (.int .i64 0)) (And.intro (((((((oa.set_ne (b' := w.heap.size) (by omega) 0 (.int .i64 c9.k)).set_ne (b' := w.heap.size) (by omega) 1 (.int .i64 c9.n)).set_ne (b' := w.heap.size) (by omega) 2 (sV c9.s)).set_ne (b' := w.heap.size) (by omega) 3 (.slice c9.la c9.ln c9.lc)).set_ne (b' := w.heap.size) (by omega) 4 (.slice c9.fa c9.fn c9.fc)).set 0 (.int .i64 0)).set_ne (b' := w.heap.size + 1 + 1) (by omega) 0 (.int .i64 0)) (And.intro (((((((oc.set_ne (b' := w.heap.size) (by omega) 0 (.int .i64 c9.k)).set_ne (b' := w.heap.size) (by omega) 1 (.int .i64 c9.n)).set_ne (b' := w.heap.size) (by omega) 2 (sV c9.s)).set_ne (b' := w.heap.size) (by omega) 3 (.slice c9.la c9.ln c9.lc)).set_ne (b' := w.heap.size) (by omega) 4 (.slice c9.fa c9.fn c9.fc)).set_ne (b' := w.heap.size + 1) (by omega) 0 (.int .i64 0)).set 0 (.int .i64 0)) (((hI9.put5 (b := w.heap.size) (by omega) (.int .i64 c9.k) (.int .i64 c9.n) (sV c9.s) (.slice c9.la c9.ln c9.lc) (.slice c9.fa c9.fn c9.fc)).set (b := w.heap.size + 1) (by omega) 0 (.int .i64 0)).set (b := w.heap.size + 1 + 1) (by omega) 0 (.int .i64 0))))))
      have hne1 : ¬ w.heap.size + 1 = w.heap.size := by omega
      have hne2 : ¬ w.heap.size + 1 + 1 = w.heap.size := by omega
      clear hres hb1 ov oa oc hR hI hI9
      go_wp2
      clear x0 x1 x2 x3 x4 y0 z0 p0 p1 p2 p3 p4 py pz
      refine leaves_cons (f := 19) (args := #[.pointer (some ⟨w.heap.size, 0, none⟩), .pointer (some ⟨w.heap.size + 1, 0, none⟩), .pointer (some ⟨w.heap.size + 1 + 1, 0, none⟩)]) (by simp) (by simp [go_sem]) ?_
      refine (catch_idle w.heap.size (w.heap.size + 1) (w.heap.size + 1 + 1) _).mono ?_
      rintro e u' U ⟨rfl, rfl, hbI⟩
      have HS' := And.intro (below_all HS.out.1 hbI) (And.intro (HS.out.2.1.all hbI) (And.intro (HS.out.2.2.1.all hbI) (And.intro (HS.out.2.2.2.1.all hbI) (HS.out.2.2.2.2.all hbI))))
      obtain ⟨hb0, ov, oa, oc, hI9⟩ := HS'
      have x0 := ov.cell (i := 0) rfl
      have x1 := ov.cell (i := 1) rfl
      have x2 := ov.cell (i := 2) rfl
      have x3 := ov.cell (i := 3) rfl
      have x4 := ov.cell (i := 4) rfl
      have y0 := oa.cell (i := 0) rfl
      have z0 := oc.cell (i := 0) rfl
      exact ⟨.tuple #[c9.val, .int .i64 0, .int .i64 0], by simp [results, Tryd.results6, go_sem, x0, x1, x2, x3, x4, y0, z0, VC.val], by rw [HPR.out]; exact ⟨c9, rfl, hb0, hI9.mono (fun b hb => by omega)⟩⟩
end Go.Proofs.YtjpmnlefjmdelaaDoor
