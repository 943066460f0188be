/- OF NO PROGRAM: a block of cells that is known whole ('Own'): its cells, its marks, behind stores, new blocks and calls. -/
import Derived.WalkKit
import Derived.Below
import Derived.Lib.QuietBelow
namespace Go.Proofs.LawFrame
open Go.RowKit Go.Sort

/-- block b of w holds just these cells, none of them frozen -/
def Own (w : World) (b : Nat) (cs : List Value) (t : TypeId) : Prop := w.heap[b]? = some (.cells cs.toArray t)

theorem Own.lt {w : World} {b : Nat} {cs : List Value} {t : TypeId} (h : Own w b cs t) : b < w.heap.size := (Array.getElem?_eq_some_iff.1 h).1
theorem Own.new (w : World) (cs : List Value) (t : TypeId) : Own (w.alloc (.cells cs.toArray t)) w.heap.size cs t := by
  show (w.heap.push _)[w.heap.size]? = _
  rw [Array.getElem?_push, if_pos rfl]
theorem size_alloc (w : World) (o : Obj) : (w.alloc o).heap.size = w.heap.size + 1 := by show (w.heap.push o).size = _; simp
theorem Own.new_at {w : World} {n : Nat} (h : n = w.heap.size) (cs : List Value) (t : TypeId) : Own (w.alloc (.cells cs.toArray t)) n cs t := by rw [h]; exact Own.new w cs t
theorem Own.alloc {w : World} {b : Nat} {cs : List Value} {t : TypeId} (h : Own w b cs t) (o : Obj) : Own (w.alloc o) b cs t := by
  show (w.heap.push o)[b]? = _
  rw [Array.getElem?_push, if_neg (by have := h.lt; omega)]; exact h
theorem Own.drew {w : World} {b : Nat} {cs : List Value} {t : TypeId} (h : Own w b cs t) : Own w.drew b cs t := h
theorem Own.below {B : Nat} {w w' : World} {b : Nat} {cs : List Value} {t : TypeId} (h : Own w b cs t) (hb : Below B w w') (hlt : b < B) : Own w' b cs t := by
  unfold Own; rw [hb.block b hlt]; exact h
theorem Own.all {w w' : World} {b : Nat} {cs : List Value} {t : TypeId} (h : Own w b cs t) (hb : Below w.heap.size w w') : Own w' b cs t := h.below hb h.lt
theorem Own.cell {w : World} {b : Nat} {cs : List Value} {t : TypeId} (h : Own w b cs t) {i : Nat} {v : Value} (hv : cs[i]? = some v) : w.cell? ⟨b, i, none⟩ = some v := by
  unfold World.cell?; simp only [show w.heap[b]? = _ from h]; simpa using hv
theorem Own.frozen {w : World} {b : Nat} {cs : List Value} {t : TypeId} (h : Own w b cs t) (i : Nat) : w.frozen? ⟨b, i, none⟩ = false := by
  unfold World.frozen?; simp only [show w.heap[b]? = _ from h]; simp
theorem Own.set {w : World} {b : Nat} {cs : List Value} {t : TypeId} (h : Own w b cs t) (i : Nat) (v : Value) : Own (w.setCell ⟨b, i, none⟩ v) b (cs.set i v) t := by
  unfold Own World.setCell; simp only [Array.getElem?_modify]
  rw [if_pos trivial, show w.heap[b]? = _ from h]; simp
theorem Own.set_ne {w : World} {b b' : Nat} {cs : List Value} {t : TypeId} (h : Own w b cs t) (hne : b ≠ b') (i : Nat) (v : Value) : Own (w.setCell ⟨b', i, none⟩ v) b cs t := by
  unfold Own; rw [Below.heap_setCell _ _ _ _ hne]; exact h
/-- the three cells of a block of three -/
theorem Own.three {w : World} {b : Nat} {x y z : Value} {t : TypeId} (h : Own w b [x, y, z] t) :
    w.cell? ⟨b, 0, none⟩ = some x ∧ w.cell? ⟨b, 1, none⟩ = some y ∧ w.cell? ⟨b, 2, none⟩ = some z := ⟨h.cell rfl, h.cell rfl, h.cell rfl⟩
theorem below_set {B : Nat} {a w : World} (h : Below B a w) {b i : Nat} (hb : B ≤ b) (v : Value) : Below B a (w.setCell ⟨b, i, none⟩ v) := h.setCell hb v
/-- two calls behind one another -/
theorem below_next {B : Nat} {a b c : World} (h : Below B a b) (hB : B ≤ b.heap.size) (k : Below b.heap.size b c) : Below B a c := h.trans (k.mono hB)
theorem below_all {a b c : World} (h : Below a.heap.size a b) (k : Below b.heap.size b c) : Below a.heap.size a c := below_next h h.size k
end Go.Proofs.LawFrame
