/- An Edit that came in, opened: a value, two paths, two values. -/
import Derived.Test.YtjpmnlefjmdelaaGreatDoorOeJ
set_option linter.unusedSimpArgs false
set_option linter.unusedVariables false
namespace Go.Proofs.YtjpmnlefjmdelaaGreatDoor
open Go.Joins Go.ChangeShapes Go.WideShapes Go.RowKit Go.Deep Go.Proofs.LawFrame
theorem cells36 : Tryz.prog.cellsOf 36 = 1 := by kernel_rfl
theorem cells49 : Tryz.prog.cellsOf 49 = 17 := by kernel_rfl
theorem list17 {α : Type} {l : List α} (h : l.length = 17) : ∃ x0 x1 x2 x3 x4 x5 x6 x7 x8 x9 y0 y1 y2 y3 y4 y5 y6, l = [x0, x1, x2, x3, x4, x5, x6, x7, x8, x9, y0, y1, y2, y3, y4, y5, y6] := by
  obtain ⟨x0, t0, rfl, h0⟩ := list_succ h
  obtain ⟨x1, t1, rfl, h1⟩ := list_succ h0
  obtain ⟨x2, t2, rfl, h2⟩ := list_succ h1
  obtain ⟨x3, t3, rfl, h3⟩ := list_succ h2
  obtain ⟨x4, t4, rfl, h4⟩ := list_succ h3
  obtain ⟨x5, t5, rfl, h5⟩ := list_succ h4
  obtain ⟨x6, t6, rfl, h6⟩ := list_succ h5
  obtain ⟨x7, x8, x9, y0, y1, y2, y3, y4, y5, y6, rfl⟩ := list10 h6
  exact ⟨x0, x1, x2, x3, x4, x5, x6, x7, x8, x9, y0, y1, y2, y3, y4, y5, y6, rfl⟩
set_option maxRecDepth 100000 in
theorem edit_arg {H : Type} {enc : TypeId × Value → H} {w : World} {base B : Nat} {v : Value} {d : DataW H} {p : List MemPlace} (hv : Value.okWide Tryz.prog w .any base 49 v) (h : DataW.Trod enc Tryz.prog w 0 (fun _ => true) true 49 v d p) (hb : ∀ n ∈ d.weights Tryz.prog 49, n ≤ B) :
    ∃ (c cg ch : VC) (t x y : T) (v1 v2 : Value) (p q : List S), v = .agg #[.int .i64 c.k, .int .i64 c.n, sV c.s, .slice c.la c.ln c.lc, .slice c.fa c.fn c.fc, v1, v2, .int .i64 cg.k, .int .i64 cg.n, sV cg.s, .slice cg.la cg.ln cg.lc, .slice cg.fa cg.fn cg.fc, .int .i64 ch.k, .int .i64 ch.n, sV ch.s, .slice ch.la ch.ln ch.lc, .slice ch.fa ch.fn ch.fc] ∧
      Is w c t ∧ Is w cg x ∧ Is w ch y ∧ t.strB B ∧ x.strB B ∧ y.strB B ∧ Stps w v1 p ∧ Stps w v2 q := by
  obtain ⟨cs, rfl, hsz⟩ := okWide_struct Tryz.underlying49 hv
  obtain ⟨fuel, hf⟩ := h
  obtain ⟨m, hm, hl, hg⟩ := fields_at2 Tryz.underlying49 hf hb
  rw [cells49] at hl
  have hl2 : cs.toList.length = 17 := hl
  obtain ⟨x0, x1, x2, x3, x4, x5, x6, x7, x8, x9, y0, y1, y2, y3, y4, y5, y6, e⟩ := list17 hl2
  have e2 : (Value.agg cs).cells.toList = [x0, x1, x2, x3, x4, x5, x6, x7, x8, x9, y0, y1, y2, y3, y4, y5, y6] := e
  rw [e2] at hg
  obtain ⟨u0, h0, b0⟩ := hg 0 25 0 5 _ rfl rfl rfl cells25
  obtain ⟨u1, h1, b1⟩ := hg 1 36 5 1 _ rfl rfl rfl cells36
  obtain ⟨u2, h2, b2⟩ := hg 2 36 6 1 _ rfl rfl rfl cells36
  obtain ⟨u3, h3, b3⟩ := hg 3 25 7 5 _ rfl rfl rfl cells25
  obtain ⟨u4, h4, b4⟩ := hg 4 25 12 5 _ rfl rfl rfl cells25
  simp only [List.drop_succ_cons, List.drop_zero, List.take_succ_cons, List.take_zero] at h0 h1 h2 h3 h4
  obtain ⟨c, t, hc, hi, hs⟩ := value_of2 m m (Nat.le_refl _) _ _ h0 b0
  obtain ⟨cg, x, hcg, hig, hsg⟩ := value_of2 m m (Nat.le_refl _) _ _ h3 b3
  obtain ⟨ch, y, hch, hih, hsh⟩ := value_of2 m m (Nat.le_refl _) _ _ h4 b4
  obtain ⟨p, hp⟩ := steps_of h1
  obtain ⟨q, hq⟩ := steps_of h2
  simp only [VC.cells, List.cons.injEq, and_true] at hc hcg hch
  obtain ⟨rfl, rfl, rfl, rfl, rfl⟩ := hc
  obtain ⟨rfl, rfl, rfl, rfl, rfl⟩ := hcg
  obtain ⟨rfl, rfl, rfl, rfl, rfl⟩ := hch
  refine ⟨c, cg, ch, t, x, y, x5, x6, p, q, ?_, hi, hig, hih, hs, hsg, hsh, hp, hq⟩
  rw [← Array.toArray_toList (xs := cs), e]
end Go.Proofs.YtjpmnlefjmdelaaGreatDoor
