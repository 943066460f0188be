/- OF NO PROGRAM: a struct that came in by value, opened field by field, whatever its fields. -/
import Derived.Deep.Slices
import Derived.Deep.Fields
import Derived.Lib.SmallJoins
import Derived.ChangeSame
namespace Go.Proofs.LawFrame
open Go.Joins Go.ChangeShapes Go.WideShapes Go.RowKit Go.Deep

section
variable {H : Type} {enc : TypeId × Value → H} {P : Program} {w : World} {base : Nat} {spare : Nat → Bool} {held : Bool}
theorem open_struct {r : Reach} {b0 : Nat} {t : TypeId} {fs : Array Field} {v : Value} {d : DataW H} {p : List MemPlace} (hs : P.underlying t = some (.struct fs))
    (hv : Value.okWide P w r b0 t v) (h : DataW.Trod enc P w base spare held t v d p) :
    ∃ (cs : List Value) (n : Nat), v = .agg cs.toArray ∧ cs.length = P.cellsOf t ∧
      ∀ (i t' o k : Nat) (f : Field), fs[i]? = some f → f.type = t' → f.offset = o → P.cellsOf t' = k → ∃ y, DataW.trod enc P w base spare held n t' ((cs.drop o).take k) = some y := by
  obtain ⟨cs, rfl, hsz⟩ := okWide_struct hs hv
  obtain ⟨fuel, hf⟩ := h
  obtain ⟨xs, n, _, _, _, hlen, hg⟩ := DataW.trod_struct hs hf
  refine ⟨cs.toList, n, by simp, by simpa using hsz, fun i t' o k f hi ht ho hk => ?_⟩
  subst ht ho hk
  have hlt : i < xs.length := by rw [hlen]; exact (Array.getElem?_eq_some_iff.1 hi).1
  have := hg i f hi
  rw [List.getElem?_eq_getElem hlt] at this
  exact ⟨_, by simpa [Value.cells] using this⟩
/-- the same of cells that lie in memory -/
theorem struct_fields {t : TypeId} {fs : Array Field} {fuel : Nat} {cs : List Value} {x : DataW H × List MemPlace} (hs : P.underlying t = some (.struct fs)) (h : DataW.trod enc P w base spare held fuel t cs = some x) :
    ∃ n : Nat, cs.length = P.cellsOf t ∧ ∀ (i t' o k : Nat) (f : Field), fs[i]? = some f → f.type = t' → f.offset = o → P.cellsOf t' = k → ∃ y, DataW.trod enc P w base spare held n t' ((cs.drop o).take k) = some y := by
  obtain ⟨xs, n, _, _, hl, hlen, hg⟩ := DataW.trod_struct hs h
  refine ⟨n, hl, fun i t' o k f hi ht ho hk => ?_⟩
  subst ht ho hk
  have hlt : i < xs.length := by rw [hlen]; exact (Array.getElem?_eq_some_iff.1 hi).1
  have := hg i f hi
  rw [List.getElem?_eq_getElem hlt] at this
  exact ⟨_, this⟩
end
theorem list_succ {α : Type} {l : List α} {n : Nat} (h : l.length = n + 1) : ∃ x t, l = x :: t ∧ t.length = n := by
  cases l with
  | nil => cases h
  | cons x t => exact ⟨x, t, rfl, by simpa using h⟩
theorem list_zero {α : Type} {l : List α} (h : l.length = 0) : l = [] := by simpa using h
theorem list3 {α : Type} {l : List α} (h : l.length = 3) : ∃ x0 x1 x2, l = [x0, x1, x2] := by
  obtain ⟨x0, t0, rfl, h0⟩ := list_succ h
  obtain ⟨x1, t1, rfl, h1⟩ := list_succ h0
  obtain ⟨x2, t2, rfl, h2⟩ := list_succ h1
  obtain rfl := list_zero h2
  exact ⟨x0, x1, x2, rfl⟩
theorem list10 {α : Type} {l : List α} (h : l.length = 10) : ∃ x0 x1 x2 x3 x4 x5 x6 x7 x8 x9, l = [x0, x1, x2, x3, x4, x5, x6, x7, x8, x9] := by
  obtain ⟨x0, t0, rfl, h0⟩ := list_succ h
  obtain ⟨x1, t1, rfl, h1⟩ := list_succ h0
  obtain ⟨x2, t2, rfl, h2⟩ := list_succ h1
  obtain ⟨x3, t3, rfl, h3⟩ := list_succ h2
  obtain ⟨x4, t4, rfl, h4⟩ := list_succ h3
  obtain ⟨x5, t5, rfl, h5⟩ := list_succ h4
  obtain ⟨x6, t6, rfl, h6⟩ := list_succ h5
  obtain ⟨x7, t7, rfl, h7⟩ := list_succ h6
  obtain ⟨x8, t8, rfl, h8⟩ := list_succ h7
  obtain ⟨x9, t9, rfl, h9⟩ := list_succ h8
  obtain rfl := list_zero h9
  exact ⟨x0, x1, x2, x3, x4, x5, x6, x7, x8, x9, rfl⟩
theorem list11 {α : Type} {l : List α} (h : l.length = 11) : ∃ x0 x1 x2 x3 x4 x5 x6 x7 x8 x9 x10, l = [x0, x1, x2, x3, x4, x5, x6, x7, x8, x9, x10] := by
  obtain ⟨x, t, rfl, h0⟩ := list_succ h
  obtain ⟨x0, x1, x2, x3, x4, x5, x6, x7, x8, x9, rfl⟩ := list10 h0
  exact ⟨x, x0, x1, x2, x3, x4, x5, x6, x7, x8, x9, rfl⟩
end Go.Proofs.LawFrame
