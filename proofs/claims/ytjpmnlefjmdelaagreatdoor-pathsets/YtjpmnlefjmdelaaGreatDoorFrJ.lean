/- THE FRAME OF A LAW, FOR WHATEVER PROGRAM: a walk that ends in 'true' and leaves old memory alone gives the row's post, whatever the arguments are. OF NO PROGRAM: a block of cells that is known whole ('Own'): its cells, its marks, behind stores, new blocks and calls. OF NO PROGRAM: a region that draws its order, whose first n operations only read or call quietly in a class of worlds and whose last operations come in one forced order: one walk serves every order. Condition: the closed look at the region's edges ('Region.tailB') holds. -/
import Derived.WalkKit
import Derived.ProofKit
import Derived.OpenShut
import Derived.Below
import Derived.Lib.QuietBelow
import Derived.StillTail
import Derived.Deep.Quiet
import Derived.Tactics
set_option linter.unusedSimpArgs false
set_option linter.unusedVariables false
namespace Go.Proofs.LawFrame
open Go.ChangeShapes Go.WideShapes Go.ChangeAt Go.RowKit

section
variable {H : Type} {enc : TypeId × Value → H} {P : Program} {W W' : World}

/-- all the arguments read as they did, behind a call that leaves old memory alone -/
theorem trodAll_below (hl : laidOutB P = true) (hb : Below W.heap.size W W') : ∀ {ts : List TypeId} {vs : List Value} {ds : List (DataW H)} {ps : List MemPlace},
    (∀ t ∈ ts, P.readableRec t = true ∧ t < P.types.size) → DataW.TrodAll enc P W 0 (fun _ => true) true ts vs ds ps → (∀ x ∈ ps, x.block < W.heap.size) →
    DataW.TrodAll enc P W' 0 (fun b => decide (b < W.heap.size)) true ts vs ds ps
  | [], vs, ds, ps, _, h, _ => by
    obtain ⟨rfl, rfl, rfl⟩ := trodAll_nil h
    exact rfl
  | t :: ts, vs, ds, ps, ht, h, hlt => by
    obtain ⟨v, vs', d, ds', p, q, rfl, rfl, rfl, hd, hr⟩ := trodAll_cons h
    obtain ⟨hr1, hr2⟩ := ht t List.mem_cons_self
    exact ⟨p, q, Below.trod hl hr1 hr2 hd hb (fun x hx => hlt x (List.mem_append_left _ hx)),
      trodAll_below hl hb (fun t' h' => ht t' (List.mem_cons_of_mem _ h')) hr (fun x hx => hlt x (List.mem_append_right _ hx)), rfl⟩

theorem law_post {f : Func} {s : ChangeSpec} {args : Array Value} {ds gs : List (DataW H)} {before : List MemPlace} {tb : TypeId}
    (hl : laidOutB P = true) (hts : (f.params.toList.all fun t => P.readableRec t && decide (t < P.types.size)) = true)
    (hres : f.resultTypes = #[tb]) (htb : P.underlying tb = some .bool) (hvars : s.vars = [])
    (hspec : (s.fn H (ds ++ [])).results = [.lit (.bool true)] ∧ (s.fn H (ds ++ [])).args = ds ∧ (s.fn H (ds ++ [])).vars = [])
    (hW : DataW.Whole enc P f.params.toList s.vars false W args.toList ds gs before) (hb : Below W.heap.size W W') :
    s.post enc P f false true false false W args (.bool true) W' := by
  have hW' := hW
  obtain ⟨p, q, hA, hV, rfl, _, _⟩ := hW
  rw [hvars] at hV
  obtain ⟨rfl, rfl⟩ := trodVars_none hV
  obtain ⟨h1, h2, h3⟩ := hspec
  refine ⟨ds, [], p ++ [], [], p, [], hW', ?_, ?_, ?_, hb.frame _, fun h => by cases h⟩
  · rw [h1, hres]
    exact trodAll_mk1 (shut_bool htb true)
  · rw [h2]
    refine trodAll_below hl hb (fun t ht => ?_) hA (fun x hx => hW'.lt x (List.mem_append_left _ hx))
    have := List.all_eq_true.1 hts t ht
    simpa using this
  · rw [h3, hvars]; rfl
end
end Go.Proofs.LawFrame
namespace Go.Proofs.LawFrame
open Go.RowKit Go.Sort

/-- block b of w holds just these cells, none of them frozen -/
def Own (w : World) (b : Nat) (cs : List Value) (t : TypeId) : Prop := w.heap[b]? = some (.cells cs.toArray t)

theorem Own.lt {w : World} {b : Nat} {cs : List Value} {t : TypeId} (h : Own w b cs t) : b < w.heap.size := (Array.getElem?_eq_some_iff.1 h).1
theorem Own.new (w : World) (cs : List Value) (t : TypeId) : Own (w.alloc (.cells cs.toArray t)) w.heap.size cs t := by
  show (w.heap.push _)[w.heap.size]? = _
  rw [Array.getElem?_push, if_pos rfl]
theorem size_alloc (w : World) (o : Obj) : (w.alloc o).heap.size = w.heap.size + 1 := by show (w.heap.push o).size = _; simp
theorem Own.new_at {w : World} {n : Nat} (h : n = w.heap.size) (cs : List Value) (t : TypeId) : Own (w.alloc (.cells cs.toArray t)) n cs t := by rw [h]; exact Own.new w cs t
theorem Own.alloc {w : World} {b : Nat} {cs : List Value} {t : TypeId} (h : Own w b cs t) (o : Obj) : Own (w.alloc o) b cs t := by
  show (w.heap.push o)[b]? = _
  rw [Array.getElem?_push, if_neg (by have := h.lt; omega)]; exact h
theorem Own.drew {w : World} {b : Nat} {cs : List Value} {t : TypeId} (h : Own w b cs t) : Own w.drew b cs t := h
theorem Own.below {B : Nat} {w w' : World} {b : Nat} {cs : List Value} {t : TypeId} (h : Own w b cs t) (hb : Below B w w') (hlt : b < B) : Own w' b cs t := by
  unfold Own; rw [hb.block b hlt]; exact h
theorem Own.all {w w' : World} {b : Nat} {cs : List Value} {t : TypeId} (h : Own w b cs t) (hb : Below w.heap.size w w') : Own w' b cs t := h.below hb h.lt
theorem Own.cell {w : World} {b : Nat} {cs : List Value} {t : TypeId} (h : Own w b cs t) {i : Nat} {v : Value} (hv : cs[i]? = some v) : w.cell? ⟨b, i, none⟩ = some v := by
  unfold World.cell?; simp only [show w.heap[b]? = _ from h]; simpa using hv
theorem Own.frozen {w : World} {b : Nat} {cs : List Value} {t : TypeId} (h : Own w b cs t) (i : Nat) : w.frozen? ⟨b, i, none⟩ = false := by
  unfold World.frozen?; simp only [show w.heap[b]? = _ from h]; simp
theorem Own.set {w : World} {b : Nat} {cs : List Value} {t : TypeId} (h : Own w b cs t) (i : Nat) (v : Value) : Own (w.setCell ⟨b, i, none⟩ v) b (cs.set i v) t := by
  unfold Own World.setCell; simp only [Array.getElem?_modify]
  rw [if_pos trivial, show w.heap[b]? = _ from h]; simp
theorem Own.set_ne {w : World} {b b' : Nat} {cs : List Value} {t : TypeId} (h : Own w b cs t) (hne : b ≠ b') (i : Nat) (v : Value) : Own (w.setCell ⟨b', i, none⟩ v) b cs t := by
  unfold Own; rw [Below.heap_setCell _ _ _ _ hne]; exact h
theorem below_set {B : Nat} {a w : World} (h : Below B a w) {b i : Nat} (hb : B ≤ b) (v : Value) : Below B a (w.setCell ⟨b, i, none⟩ v) := h.setCell hb v
/-- two calls behind one another -/
theorem below_next {B : Nat} {a b c : World} (h : Below B a b) (hB : B ≤ b.heap.size) (k : Below b.heap.size b c) : Below B a c := h.trans (k.mono hB)
theorem below_all {a b c : World} (h : Below a.heap.size a b) (k : Below b.heap.size b c) : Below a.heap.size a c := below_next h h.size k
end Go.Proofs.LawFrame
namespace Go.Proofs.LawFrame
open Go.Sort Go.RowKit

section
variable {P : Program} {ops : Array Oper} {md : Region.Mode} {C : World → Prop}

/-- while one of the head is still to come, nothing of the tail may come up -/
theorem ready_lt {n i j : Nat} {listed : Array Bool} (hs : Region.sinkB md ops n = true) (hc : Region.chainB md ops n = true) (hn : n < ops.size) (inv : HeadInv md ops n listed) (hin : i < n)
    (hi : i ∈ Region.ready md ops listed) (hj : j ∈ Region.ready md ops listed) : j < n :=
  Nat.lt_of_not_le fun h => tail_waits hs hc hn inv _ i rfl hin (mem_ready.1 hi).1 j h hj
/-- of two that may come up now neither waits for the other -/
theorem ready_apart {i j : Nat} {oj : Oper} {listed : Array Bool} (hi : i ∈ Region.ready md ops listed) (hj : j ∈ Region.ready md ops listed) (hoj : ops[j]? = some oj) : ∀ e ∈ oj.after, Region.binds md e = true → e.on ≠ i := by
  rintro e he hb rfl
  obtain ⟨_, o, ho, hall⟩ := mem_ready.1 hj
  cases ho.symm.trans hoj
  have := hall e he hb
  rw [getD_both (mem_ready.1 hi).1] at this
  cases this
/-- operation i is apart from all that may still come before it -/
def FreeOf (md : Region.Mode) (ops : Array Oper) (i : Nat) (oi : Oper) (listed : Array Bool) : Prop :=
  ∀ j oj, ops[j]? = some oj → j ≠ i → listed.getD j true = false → (∀ e ∈ oj.after, Region.binds md e = true → e.on ≠ i) → oi.apart ops oj = true
theorem FreeOf.later {i j : Nat} {oi : Oper} {listed : Array Bool} (h : FreeOf md ops i oi listed) (hj : listed.getD j true = false) : FreeOf md ops i oi (listed.setIfInBounds j true) :=
  fun k ok hk hki hun => h k ok hk hki (by
    by_cases e : j = k
    · rwa [← e]
    · rwa [getD_set_ne true e] at hun)

def Region.lexAl (md : Region.Mode) (ops : Array Oper) (g n : Nat) : Nat → Nat → Array Bool → Bool
  | 0, _, listed => Region.seqB md ops g n listed
  | f + 1, k, listed => (Region.ready md ops listed).contains k && Region.free md ops listed k && decide (k < n) && Region.lexAl md ops g n f (k + 1) (listed.setIfInBounds k true)

theorem headInv_none (ops : Array Oper) (md : Region.Mode) (n : Nat) : HeadInv md ops n (Array.replicate ops.size false) where
  size := by simp
  closed := fun _ _ _ h => by rw [getD_replicate_false] at h; cases h
  tail := fun t _ ht => getD_in (by simpa using ht) (getD_replicate_false _ _)

/-- the closed look: the head in the text's order, then a tail in one order -/
def Region.tailB (md : Region.Mode) (ops : Array Oper) (n : Nat) : Bool :=
  Region.noSelect ops && decide (n < ops.size) && Region.sinkB md ops n && Region.chainB md ops n && Region.lexAl md ops (ops.size - n) n n 0 (Array.replicate ops.size false)

end
end Go.Proofs.LawFrame
