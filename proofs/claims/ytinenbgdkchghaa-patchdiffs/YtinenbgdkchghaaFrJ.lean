/- THE FRAME OF A LAW, FOR WHATEVER PROGRAM: a walk that ends in 'true' and leaves old memory alone gives the row's post, whatever the arguments are. OF NO PROGRAM: a block of cells that is known whole ('Own'): its cells, its marks, behind stores, new blocks and calls. OF NO PROGRAM: a region that draws its order, whose first n operations only read or call quietly in a class of worlds and whose last operations come in one forced order: one walk serves every order. Condition: the closed look at the region's edges ('Region.tailB') holds. -/
import Derived.WalkKit
import Derived.ProofKit
import Derived.OpenShut
import Derived.Below
import Derived.Lib.QuietBelow
import Derived.StillTail
import Derived.Deep.Quiet
import Derived.Tactics
set_option linter.unusedSimpArgs false
set_option linter.unusedVariables false
namespace Go.Proofs.LawFrame
open Go.ChangeShapes Go.WideShapes Go.ChangeAt Go.RowKit

section
variable {H : Type} {enc : TypeId × Value → H} {P : Program} {W W' : World}

/-- all the arguments read as they did, behind a call that leaves old memory alone -/
theorem trodAll_below (hl : laidOutB P = true) (hb : Below W.heap.size W W') : ∀ {ts : List TypeId} {vs : List Value} {ds : List (DataW H)} {ps : List MemPlace},
    (∀ t ∈ ts, P.readableRec t = true ∧ t < P.types.size) → DataW.TrodAll enc P W 0 (fun _ => true) true ts vs ds ps → (∀ x ∈ ps, x.block < W.heap.size) →
    DataW.TrodAll enc P W' 0 (fun b => decide (b < W.heap.size)) true ts vs ds ps
  | [], vs, ds, ps, _, h, _ => by
    obtain ⟨rfl, rfl, rfl⟩ := trodAll_nil h
    exact rfl
  | t :: ts, vs, ds, ps, ht, h, hlt => by
    obtain ⟨v, vs', d, ds', p, q, rfl, rfl, rfl, hd, hr⟩ := trodAll_cons h
    obtain ⟨hr1, hr2⟩ := ht t List.mem_cons_self
    exact ⟨p, q, Below.trod hl hr1 hr2 hd hb (fun x hx => hlt x (List.mem_append_left _ hx)),
      trodAll_below hl hb (fun t' h' => ht t' (List.mem_cons_of_mem _ h')) hr (fun x hx => hlt x (List.mem_append_right _ hx)), rfl⟩

theorem law_post {f : Func} {s : ChangeSpec} {args : Array Value} {ds gs : List (DataW H)} {before : List MemPlace} {tb : TypeId}
    (hl : laidOutB P = true) (hts : (f.params.toList.all fun t => P.readableRec t && decide (t < P.types.size)) = true)
    (hres : f.resultTypes = #[tb]) (htb : P.underlying tb = some .bool) (hvars : s.vars = [])
    (hspec : (s.fn H (ds ++ [])).results = [.lit (.bool true)] ∧ (s.fn H (ds ++ [])).args = ds ∧ (s.fn H (ds ++ [])).vars = [])
    (hW : DataW.Whole enc P f.params.toList s.vars false W args.toList ds gs before) (hb : Below W.heap.size W W') :
    s.post enc P f false true false false W args (.bool true) W' := by
  have hW' := hW
  obtain ⟨p, q, hA, hV, rfl, _, _⟩ := hW
  rw [hvars] at hV
  obtain ⟨rfl, rfl⟩ := trodVars_none hV
  obtain ⟨h1, h2, h3⟩ := hspec
  refine ⟨ds, [], p ++ [], [], p, [], hW', ?_, ?_, ?_, hb.frame _, fun h => by cases h⟩
  · rw [h1, hres]
    exact trodAll_mk1 (shut_bool htb true)
  · rw [h2]
    refine trodAll_below hl hb (fun t ht => ?_) hA (fun x hx => hW'.lt x (List.mem_append_left _ hx))
    have := List.all_eq_true.1 hts t ht
    simpa using this
  · rw [h3, hvars]; rfl
end
end Go.Proofs.LawFrame
namespace Go.Proofs.LawFrame
open Go.RowKit Go.Sort

/-- block b of w holds just these cells, none of them frozen -/
def Own (w : World) (b : Nat) (cs : List Value) (t : TypeId) : Prop := w.heap[b]? = some (.cells cs.toArray t)

theorem Own.lt {w : World} {b : Nat} {cs : List Value} {t : TypeId} (h : Own w b cs t) : b < w.heap.size := (Array.getElem?_eq_some_iff.1 h).1
theorem Own.new (w : World) (cs : List Value) (t : TypeId) : Own (w.alloc (.cells cs.toArray t)) w.heap.size cs t := by
  show (w.heap.push _)[w.heap.size]? = _
  rw [Array.getElem?_push, if_pos rfl]
theorem size_alloc (w : World) (o : Obj) : (w.alloc o).heap.size = w.heap.size + 1 := by show (w.heap.push o).size = _; simp
theorem Own.new_at {w : World} {n : Nat} (h : n = w.heap.size) (cs : List Value) (t : TypeId) : Own (w.alloc (.cells cs.toArray t)) n cs t := by rw [h]; exact Own.new w cs t
theorem Own.alloc {w : World} {b : Nat} {cs : List Value} {t : TypeId} (h : Own w b cs t) (o : Obj) : Own (w.alloc o) b cs t := by
  show (w.heap.push o)[b]? = _
  rw [Array.getElem?_push, if_neg (by have := h.lt; omega)]; exact h
theorem Own.drew {w : World} {b : Nat} {cs : List Value} {t : TypeId} (h : Own w b cs t) : Own w.drew b cs t := h
theorem Own.below {B : Nat} {w w' : World} {b : Nat} {cs : List Value} {t : TypeId} (h : Own w b cs t) (hb : Below B w w') (hlt : b < B) : Own w' b cs t := by
  unfold Own; rw [hb.block b hlt]; exact h
theorem Own.all {w w' : World} {b : Nat} {cs : List Value} {t : TypeId} (h : Own w b cs t) (hb : Below w.heap.size w w') : Own w' b cs t := h.below hb h.lt
theorem Own.cell {w : World} {b : Nat} {cs : List Value} {t : TypeId} (h : Own w b cs t) {i : Nat} {v : Value} (hv : cs[i]? = some v) : w.cell? ⟨b, i, none⟩ = some v := by
  unfold World.cell?; simp only [show w.heap[b]? = _ from h]; simpa using hv
theorem Own.frozen {w : World} {b : Nat} {cs : List Value} {t : TypeId} (h : Own w b cs t) (i : Nat) : w.frozen? ⟨b, i, none⟩ = false := by
  unfold World.frozen?; simp only [show w.heap[b]? = _ from h]; simp
theorem Own.set {w : World} {b : Nat} {cs : List Value} {t : TypeId} (h : Own w b cs t) (i : Nat) (v : Value) : Own (w.setCell ⟨b, i, none⟩ v) b (cs.set i v) t := by
  unfold Own World.setCell; simp only [Array.getElem?_modify]
  rw [if_pos trivial, show w.heap[b]? = _ from h]; simp
theorem Own.set_ne {w : World} {b b' : Nat} {cs : List Value} {t : TypeId} (h : Own w b cs t) (hne : b ≠ b') (i : Nat) (v : Value) : Own (w.setCell ⟨b', i, none⟩ v) b cs t := by
  unfold Own; rw [Below.heap_setCell _ _ _ _ hne]; exact h
/-- the three cells of a block of three -/
theorem Own.three {w : World} {b : Nat} {x y z : Value} {t : TypeId} (h : Own w b [x, y, z] t) :
    w.cell? ⟨b, 0, none⟩ = some x ∧ w.cell? ⟨b, 1, none⟩ = some y ∧ w.cell? ⟨b, 2, none⟩ = some z := ⟨h.cell rfl, h.cell rfl, h.cell rfl⟩
theorem below_set {B : Nat} {a w : World} (h : Below B a w) {b i : Nat} (hb : B ≤ b) (v : Value) : Below B a (w.setCell ⟨b, i, none⟩ v) := h.setCell hb v
/-- two calls behind one another -/
theorem below_next {B : Nat} {a b c : World} (h : Below B a b) (hB : B ≤ b.heap.size) (k : Below b.heap.size b c) : Below B a c := h.trans (k.mono hB)
theorem below_all {a b c : World} (h : Below a.heap.size a b) (k : Below b.heap.size b c) : Below a.heap.size a c := below_next h h.size k
end Go.Proofs.LawFrame
namespace Go.Proofs.LawFrame
open Go.Sort Go.RowKit

section
variable {P : Program} {ops : Array Oper} {md : Region.Mode} {C : World → Prop}

def wpHeadQ (P : Program) (md : Region.Mode) (ops : Array Oper) (C : World → Prop) (n : Nat) (L : Array Bool → Act → Prop) : Nat → Array Bool → Act → Prop
  | 0, listed, a => L listed a
  | f + 1, listed, a =>
    Region.ready md ops listed ≠ [] ∧ ∀ i ∈ Region.ready md ops listed, i < n ∧ qOp P ops C i (wpHeadQ P md ops C n L f (listed.setIfInBounds i true)) a

theorem wpAny_of_headQ {n g : Nat} {L : Array Bool → Act → Prop} {Q' : Exit → Act → World → Prop} (hL : ∀ listed a w, C w → L listed a → wpAny P md ops Q' g listed a w) :
    ∀ (f : Nat) (listed : Array Bool) (a : Act) (w : World), C w → wpHeadQ P md ops C n L f listed a → wpAny P md ops Q' (f + g) listed a w
  | 0, listed, a, w, hw, h => by rw [Nat.zero_add]; exact hL _ _ _ hw h
  | f + 1, listed, a, w, hw, h => by
    rw [show f + 1 + g = (f + g) + 1 by omega]
    exact ⟨fun h0 => absurd h0 h.1, fun i hi => wpOp_of_qOp hw (fun a' w' hw' h' => wpAny_of_headQ hL f _ a' w' hw' h') (h.2 i hi).2⟩

/-- while one of the head is still to come, nothing of the tail may come up -/
theorem ready_lt {n i j : Nat} {listed : Array Bool} (hs : Region.sinkB md ops n = true) (hc : Region.chainB md ops n = true) (hn : n < ops.size) (inv : HeadInv md ops n listed) (hin : i < n)
    (hi : i ∈ Region.ready md ops listed) (hj : j ∈ Region.ready md ops listed) : j < n :=
  Nat.lt_of_not_le fun h => tail_waits hs hc hn inv _ i rfl hin (mem_ready.1 hi).1 j h hj
/-- of two that may come up now neither waits for the other -/
theorem ready_apart {i j : Nat} {oj : Oper} {listed : Array Bool} (hi : i ∈ Region.ready md ops listed) (hj : j ∈ Region.ready md ops listed) (hoj : ops[j]? = some oj) : ∀ e ∈ oj.after, Region.binds md e = true → e.on ≠ i := by
  rintro e he hb rfl
  obtain ⟨_, o, ho, hall⟩ := mem_ready.1 hj
  cases ho.symm.trans hoj
  have := hall e he hb
  rw [getD_both (mem_ready.1 hi).1] at this
  cases this
/-- operation i is apart from all that may still come before it -/
def FreeOf (md : Region.Mode) (ops : Array Oper) (i : Nat) (oi : Oper) (listed : Array Bool) : Prop :=
  ∀ j oj, ops[j]? = some oj → j ≠ i → listed.getD j true = false → (∀ e ∈ oj.after, Region.binds md e = true → e.on ≠ i) → oi.apart ops oj = true
theorem FreeOf.later {i j : Nat} {oi : Oper} {listed : Array Bool} (h : FreeOf md ops i oi listed) (hj : listed.getD j true = false) : FreeOf md ops i oi (listed.setIfInBounds j true) :=
  fun k ok hk hki hun => h k ok hk hki (by
    by_cases e : j = k
    · rwa [← e]
    · rwa [getD_set_ne true e] at hun)

/-- what may be taken first, may be taken at any time -/
theorem wpHeadQ_first {n i : Nat} {oi : Oper} {v : Value} {L : Array Bool → Act → Prop} (hi : ops[i]? = some oi) (hsel : ∀ (j : Nat) (o : Oper) cs b, ops[j]? = some o → o.op ≠ .select cs b)
    (hs : Region.sinkB md ops n = true) (hc : Region.chainB md ops n = true) (hn : n < ops.size) (hin : i < n)
    (hdone : ∀ listed a, L listed a → ∀ j ∈ Region.ready md ops listed, n ≤ j) :
    ∀ (f : Nat) (listed : Array Bool) (a : Act), HeadInv md ops n listed → FreeOf md ops i oi listed → i ∈ Region.ready md ops listed → YieldsIn P ops C oi v a →
      wpHeadQ P md ops C n L f (listed.setIfInBounds i true) (a.put oi.dst v) → wpHeadQ P md ops C n L (f + 1) listed a
  | f, listed, a, inv, hfree, hr, hy, H => by
    refine ⟨List.ne_nil_of_mem hr, fun j hj => ?_⟩
    have hjn := ready_lt hs hc hn inv hin hr hj
    refine ⟨hjn, ?_⟩
    by_cases hji : j = i
    · subst hji; exact hy.qOp hi H
    · have hj2 := ready_mono hj hji
      match f, H with
      | 0, H => exact absurd (hdone _ _ H j hj2) (Nat.not_le_of_lt hjn)
      | f + 1, H =>
        obtain ⟨hjun, oj, hoj, _⟩ := mem_ready.1 hj
        have hq := qOp_put hoj (hfree j oj hoj hji hjun (ready_apart hr hj hoj)) (fun cs b => hsel i oi cs b hi) (fun cs b => hsel j oj cs b hoj) hy (H.2 j hj2).2
        refine qOp_mono (fun a' ⟨hy', hK⟩ => ?_) hq
        refine wpHeadQ_first hi hsel hs hc hn hin hdone f _ a' (inv.set hj hjn) (hfree.later hjun) (ready_mono hr (Ne.symm hji)) hy' ?_
        rwa [Array.setIfInBounds_comm _ _ hji]

def Region.lexAl (md : Region.Mode) (ops : Array Oper) (g n : Nat) : Nat → Nat → Array Bool → Bool
  | 0, _, listed => Region.seqB md ops g n listed
  | f + 1, k, listed => (Region.ready md ops listed).contains k && Region.free md ops listed k && decide (k < n) && Region.lexAl md ops g n f (k + 1) (listed.setIfInBounds k true)

/-- the walk in the text's order serves every order of the head -/
theorem wpHeadQ_lexAl {n g : Nat} {Lq : Act → Prop} (hsel : Region.noSelect ops = true) (hs : Region.sinkB md ops n = true) (hc : Region.chainB md ops n = true) (hn : n < ops.size) :
    ∀ (l : List Oper) (k : Nat) (listed : Array Bool) (a : Act), (∀ j, j < l.length → l[j]? = ops[k + j]?) → HeadInv md ops n listed →
    Region.lexAl md ops g n l.length k listed = true → wpQuiet P ops C Lq l a →
    wpHeadQ P md ops C n (fun listed' a' => Region.seqB md ops g n listed' = true ∧ Lq a') l.length listed a
  | [], k, listed, a, _, _, hB, h => ⟨by simpa [Region.lexAl] using hB, h⟩
  | o :: l, k, listed, a, hl, inv, hB, h => by
    have h0 : ops[k]? = some o := (hl 0 (Nat.zero_lt_succ _)).symm
    simp only [List.length_cons, Region.lexAl, Bool.and_eq_true, decide_eq_true_eq] at hB
    obtain ⟨⟨⟨hr, hf⟩, hkn⟩, hB'⟩ := hB
    have hr' : k ∈ Region.ready md ops listed := by simpa using hr
    obtain ⟨v, hy, hK⟩ := yieldsIn_of_qOp (P := P) (C := C) (K := wpQuiet P ops C Lq l) h0 (by unfold qOp; rw [h0]; exact h)
    refine wpHeadQ_first h0 (Region.noSelect_spec hsel) hs hc hn hkn (fun _ _ hL => seqB_ready hL.1) l.length listed a inv (Region.free_spec h0 hf) hr' hy ?_
    refine wpHeadQ_lexAl hsel hs hc hn l (k + 1) _ _ (fun j hj => ?_) (inv.set hr' hkn) hB' hK
    have := hl (j + 1) (Nat.succ_lt_succ hj)
    rwa [show k + (j + 1) = k + 1 + j by omega] at this

theorem headInv_none (ops : Array Oper) (md : Region.Mode) (n : Nat) : HeadInv md ops n (Array.replicate ops.size false) where
  size := by simp
  closed := fun _ _ _ h => by rw [getD_replicate_false] at h; cases h
  tail := fun t _ ht => getD_in (by simpa using ht) (getD_replicate_false _ _)

/-- the closed look: the head in the text's order, then a tail in one order -/
def Region.tailB (md : Region.Mode) (ops : Array Oper) (n : Nat) : Bool :=
  Region.noSelect ops && decide (n < ops.size) && Region.sinkB md ops n && Region.chainB md ops n && Region.lexAl md ops (ops.size - n) n n 0 (Array.replicate ops.size false)

/-- A quiet head, then a tail in one order. -/
theorem wp_region_quiet_tail {id : Nat} {Q : Exit → Act → World → Prop} {a : Act} {w : World} {l : List Oper} (n : Nat) (hm : P.follows .mixedOrders = true) (hB : Region.tailB .any l.toArray n = true) (hC : C { w with drawn := w.drawn + 1 })
    (h : wpQuiet P l.toArray C (fun a' => ∀ w', C w' → wpList P l.toArray Q (l.drop n) a' w') (l.take n) a) : (Code.region id l.toArray true).wp P Q a w := by
  simp only [Region.tailB, Bool.and_eq_true, decide_eq_true_eq] at hB
  obtain ⟨⟨⟨⟨hsel, hn⟩, hs⟩, hc⟩, hlex⟩ := hB
  have hlen : (l.take n).length = n := List.length_take_of_le (Nat.le_of_lt (by simpa using hn))
  have hrest : (l.drop n).length = l.toArray.size - n := by simp
  have H := wpHeadQ_lexAl (md := .any) (g := l.toArray.size - n) hsel hs hc hn (l.take n) 0 _ a (fun j hj => by rw [hlen] at hj; simp [hj]) (headInv_none _ _ n) (by rw [hlen]; exact hlex) h
  rw [hlen] at H
  refine wp_region_any hm ?_
  have K := wpAny_of_headQ (Q' := Q) (g := l.toArray.size - n) (fun listed a' w' hw' hL => ?_) _ _ _ _ hC H
  · rwa [Nat.add_sub_cancel' (Nat.le_of_lt hn)] at K
  · rw [← hrest]
    exact wpAny_of_seq (l.drop n) n listed a' w' (fun j => by simp [List.getElem?_drop]) (by rw [hrest]; exact hL.1) (hL.2 w' hw')

/-- .. at the class 'w with some draws and some blocks more'. -/
theorem wp_region_tail_below {id : Nat} {Q : Exit → Act → World → Prop} {a : Act} {w : World} {l : List Oper} (n : Nat) (hm : P.follows .mixedOrders = true) (hB : Region.tailB .any l.toArray n = true)
    (h : wpQuiet P l.toArray (fun w' => ∃ p : Regrown, w' = grow (redrawn w p.d) p.os) (fun a' => ∀ w', (∃ p : Regrown, w' = grow (redrawn w p.d) p.os) → wpList P l.toArray Q (l.drop n) a' w') (l.take n) a) : (Code.region id l.toArray true).wp P Q a w :=
  wp_region_quiet_tail n hm hB ⟨⟨w.drawn + 1, #[]⟩, by rw [grow_empty]; rfl⟩ h

/-- A plain list of operations, its first ones quiet in the class. -/
theorem wpList_quiet {rest : List Oper} {Q : Exit → Act → World → Prop} : ∀ (l : List Oper) (a : Act) (w : World), C w → wpQuiet P ops C (fun a' => ∀ w', C w' → wpList P ops Q rest a' w') l a → wpList P ops Q (l ++ rest) a w
  | [], _, _, hw, h => h _ hw
  | o :: l, a, w, hw, h => by
    simp only [List.cons_append, wpList]
    unfold wpQuiet at h
    split
    · rename_i hwt
      rw [if_pos hwt] at h
      exact .inl (Oper.wp_of_quiet hw (fun a' w' hw' h' => wpList_quiet l a' w' hw' h') h)
    · rename_i hwt
      rw [if_neg hwt] at h
      exact wpList_quiet l _ _ hw h

/-- A region in the text's order, all of it quiet, at the class 'w with some draws and some blocks more'. -/
theorem wp_region_plain_below {id : Nat} {Q : Exit → Act → World → Prop} {a : Act} {w : World} {l : List Oper}
    (h : wpQuiet P l.toArray (fun w' => ∃ p : Regrown, w' = grow (redrawn w p.d) p.os) (fun a' => ∀ w', (∃ p : Regrown, w' = grow (redrawn w p.d) p.os) → Q .normal a' w') l a) : (Code.region id l.toArray false).wp P Q a w := by
  refine wp_region_lit ?_
  have := wpList_quiet (ops := l.toArray) (Q := Q) (rest := []) l a w ⟨⟨w.drawn, #[]⟩, by rw [grow_empty]; rfl⟩ h
  simpa using this
/-- .. its first n operations quiet, then the rest. -/
theorem wp_region_plain_tail {id : Nat} {Q : Exit → Act → World → Prop} {a : Act} {w : World} {l : List Oper} (n : Nat)
    (h : wpQuiet P l.toArray (fun w' => ∃ p : Regrown, w' = grow (redrawn w p.d) p.os) (fun a' => ∀ w', (∃ p : Regrown, w' = grow (redrawn w p.d) p.os) → wpList P l.toArray Q (l.drop n) a' w') (l.take n) a) : (Code.region id l.toArray false).wp P Q a w := by
  refine wp_region_lit ?_
  have := wpList_quiet (ops := l.toArray) (Q := Q) (rest := l.drop n) (l.take n) a w ⟨⟨w.drawn, #[]⟩, by rw [grow_empty]; rfl⟩ h
  rwa [List.take_append_drop] at this
end
end Go.Proofs.LawFrame
