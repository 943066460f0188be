/- OF NO PROGRAM: as Rm, where the region has no tail: all its operations come in any order that its edges allow, some of them known by a fact alone. -/
import Derived.Test.YtinenbgdkchghaaRm
set_option linter.unusedSimpArgs false
set_option linter.unusedVariables false
namespace Go.Proofs.LawFrame
open Go.Sort Go.RowKit

section
variable {P : Program} {ops : Array Oper} {md : Region.Mode} {C : World → Prop} {dem : Nat → Bool} {V : Nat → List Value → Value → World → Prop} {Sh : Nat → Value → Prop}

theorem wpHeadM_firstA {n i : Nat} {oi : Oper} {L : Array Bool → Act → (World → Prop) → Prop} (hL : ∀ listed a F F', (∀ w, F' w → F w) → L listed a F → L listed a F') (hi : ops[i]? = some oi) (hsel : ∀ (j : Nat) (o : Oper) cs b, ops[j]? = some o → o.op ≠ .select cs b)
    (hn : n = ops.size) (hin : i < n) (hC : ∃ w, C w) (hS : ∀ i, ∃ u, Sh i u)
    (hdone : ∀ listed a F, L listed a F → ∀ j ∈ Region.ready md ops listed, n ≤ j) :
    ∀ (f : Nat) (listed : Array Bool) (a : Act) (F : World → Prop), HeadInv md ops n listed → FreeOf md ops i oi listed → i ∈ Region.ready md ops listed →
      mOp P ops C dem V Sh i (wpHeadM P md ops C dem V Sh n L f (listed.setIfInBounds i true)) a F → wpHeadM P md ops C dem V Sh n L (f + 1) listed a F
  | f, listed, a, F, inv, hfree, hr, H => by
    refine ⟨List.ne_nil_of_mem hr, fun j hj => ?_⟩
    have hjn : j < n := by
      obtain ⟨_, o, ho, _⟩ := mem_ready.1 hj
      rw [hn]; exact (Array.getElem?_eq_some_iff.1 ho).1
    refine ⟨hjn, ?_⟩
    by_cases hji : j = i
    · subst hji; exact H
    · have hj2 := ready_mono hj hji
      match f, H with
      | 0, H => obtain ⟨a', F', h'⟩ := mOp_some hS H; exact absurd (hdone _ _ _ h' j hj2) (Nat.not_le_of_lt hjn)
      | f + 1, H =>
        obtain ⟨hjun, oj, hoj, _⟩ := mem_ready.1 hj
        have H' : mOp P ops C dem V Sh i (mOp P ops C dem V Sh j (wpHeadM P md ops C dem V Sh n L f ((listed.setIfInBounds i true).setIfInBounds j true))) a F := mOp_mono (fun a' F' h => (h.2 j hj2).2) H
        have H2 := mOp_comm (K := wpHeadM P md ops C dem V Sh n L f ((listed.setIfInBounds i true).setIfInBounds j true)) hi hoj (hfree j oj hoj hji hjun (ready_apart hr hj hoj)) (fun cs b => hsel i oi cs b hi) (fun cs b => hsel j oj cs b hoj) hC hS (fun _ _ _ hF => wpHeadM_up hL f _ _ _ _ hF) H'
        refine mOp_mono (fun a' F' h => ?_) H2
        refine wpHeadM_firstA hL hi hsel hn hin hC hS hdone f _ a' F' (inv.set hj hjn) (hfree.later hjun) (ready_mono hr (Ne.symm hji)) ?_
        rwa [Array.setIfInBounds_comm _ _ hji]

theorem wpHeadM_lexA {n g : Nat} {Lq : Act → (World → Prop) → Prop} (hLq : ∀ a F F', (∀ w, F' w → F w) → Lq a F → Lq a F') (hsel : Region.noSelect ops = true) (hn : n = ops.size) (hC : ∃ w, C w) (hS : ∀ i, ∃ u, Sh i u) :
    ∀ (l : List Oper) (k : Nat) (listed : Array Bool) (a : Act) (F : World → Prop), (∀ j, j < l.length → l[j]? = ops[k + j]?) → HeadInv md ops n listed →
    Region.lexAl md ops g n l.length k listed = true → wpM P ops C dem V Sh Lq l k a F →
    wpHeadM P md ops C dem V Sh n (fun listed' a' F' => Region.seqB md ops g n listed' = true ∧ Lq a' F') l.length listed a F
  | [], k, listed, a, F, _, _, hB, h => ⟨by simpa [Region.lexAl] using hB, h⟩
  | o :: l, k, listed, a, F, hl, inv, hB, h => by
    have h0 : ops[k]? = some o := (hl 0 (Nat.zero_lt_succ _)).symm
    simp only [List.length_cons, Region.lexAl, Bool.and_eq_true, decide_eq_true_eq] at hB
    obtain ⟨⟨⟨hr, hf⟩, hkn⟩, hB'⟩ := hB
    have hr' : k ∈ Region.ready md ops listed := by simpa using hr
    refine wpHeadM_firstA (fun _ _ _ _ hF h => ⟨h.1, hLq _ _ _ hF h.2⟩) h0 (Region.noSelect_spec hsel) hn hkn hC hS (fun _ _ _ hL => seqB_ready hL.1) l.length listed a F inv (Region.free_spec h0 hf) hr' ?_
    refine mOp_mono (fun a' F' h' => ?_) h
    refine wpHeadM_lexA hLq hsel hn hC hS l (k + 1) _ _ _ (fun j hj => ?_) (inv.set hr' hkn) hB' h'
    have := hl (j + 1) (Nat.succ_lt_succ hj)
    rwa [show k + (j + 1) = k + 1 + j by omega] at this

/-- the closed look: the whole region in the text's order -/
def Region.allB (md : Region.Mode) (ops : Array Oper) : Bool := Region.noSelect ops && Region.lexAl md ops 0 ops.size ops.size 0 (Array.replicate ops.size false)

/-- A REGION THAT DRAWS ITS ORDER and has no tail, some of whose operations (dem) are known by a fact alone. -/
theorem wp_region_all {id : Nat} {Q : Exit → Act → World → Prop} {a : Act} {w : World} {l : List Oper} (dem : Nat → Bool) (V : Nat → List Value → Value → World → Prop) (Sh : Nat → Value → Prop) (hm : P.follows .mixedOrders = true) (hB : Region.allB .any l.toArray = true)
    (hVu : ∀ i xs u, UpF (V i xs u)) (hS : ∀ i, ∃ u, Sh i u)
    (h : wpM P l.toArray (Grew w) dem V Sh (fun a' F => ∀ w', Below w.heap.size w w' → F w' → Q .normal a' w') l 0 a (fun _ => True)) : (Code.region id l.toArray true).wp P Q a w := by
  simp only [Region.allB, Bool.and_eq_true] at hB
  obtain ⟨hsel, hlex⟩ := hB
  have hC0 : Grew w { w with drawn := w.drawn + 1 } := ⟨⟨w.drawn + 1, #[]⟩, by rw [grow_empty]; rfl⟩
  have hsz : l.toArray.size = l.length := by simp
  have H := wpHeadM_lexA (md := .any) (g := 0) (n := l.toArray.size) (fun _ _ _ hF h w' hb hf => h w' hb (hF _ hf)) hsel rfl ⟨_, hC0⟩ hS l 0 _ a _ (fun j hj => by simp [hj]) (headInv_none _ _ _) (by rw [hsz] at hlex ⊢; exact hlex) h
  refine wp_region_any hm ?_
  have K := wpAny_of_headM (Q' := Q) (g := 0) (grew_up w) hVu (fun listed a' F w' hw' hF' hL => ?_) _ _ _ _ _ (fun _ _ _ _ => trivial) hC0 trivial H
  · rw [hsz]; rwa [Nat.add_zero] at K
  · obtain ⟨p, rfl⟩ := hw'
    exact wpAny_of_seq [] l.toArray.size listed a' _ (fun j => by simp) hL.1 (hL.2 _ (below_regrown w p.d p.os) hF')
end
end Go.Proofs.LawFrame
