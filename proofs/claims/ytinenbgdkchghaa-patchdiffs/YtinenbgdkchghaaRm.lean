/- OF NO PROGRAM: a region that draws its order, some of whose operations (calls, new memory) are known by a fact about their value and the world alone, the others only read; its last operations come in one forced order: one walk serves every order. Conditions: the closed look at the edges (Region.tailB); an operation may not read what another of the region makes. -/
import Derived.Test.YtinenbgdkchghaaFrJ
import Derived.Laws.Sem
set_option linter.unusedSimpArgs false
set_option linter.unusedVariables false
namespace Go.Proofs.LawFrame
open Go.Sort Go.RowKit

section
variable {P : Program} {ops : Array Oper} {md : Region.Mode} {C : World → Prop} {dem : Nat → Bool} {V : Nat → List Value → Value → World → Prop} {Sh : Nat → Value → Prop}

/-- a value of this shape, with a fact about the world behind it; what was there is left alone -/
def demUpon (P : Program) (V : Value → World → Prop) (S : Value → Prop) (w : World) : Result Next → Prop
  | .ok (.value u) w' => S u ∧ Below w.heap.size w w' ∧ V u w'
  | .ok (.enter f args) w' => w' = w ∧ Calls P f args w (fun e w'' => ∃ u, e = .returned u ∧ S u ∧ Below w.heap.size w w'' ∧ V u w'')
  | _ => False
def readUpon (w : World) (v : Value) : Result Next → Prop
  | .ok (.value u) w' => w' = w ∧ u = v
  | .ok .skip w' => w' = w ∧ v = undef
  | _ => False
theorem readUpon_unique {w : World} {v v' : Value} {r : Result Next} (h : readUpon w v r) (h' : readUpon w v' r) : v = v' := by
  unfold readUpon at h h'
  split at h
  · exact h.2.symm.trans h'.2
  · exact h.2.trans h'.2.symm
  · exact h.elim

/-- the values of an operation's operands -/
def oVals (o : Oper) (a : Act) : List Value := o.op.operands.toList.map a.eval
theorem oVals_put (o : Oper) (a : Act) (dst : Option Tmp) (v : Value) (h : ∀ d, dst = some d → d ∉ o.looksAt ops) : oVals o (a.put dst v) = oVals o a := by
  unfold oVals
  refine List.map_congr_left fun x hx => Act.eval_put fun d hd hxd => h d hd ?_
  subst hxd
  exact List.mem_append_left _ (List.mem_filterMap.2 ⟨.tmp d, by simpa using hx, rfl⟩)
/-- operation i in the state a, F being known of the world -/
def mOp (P : Program) (ops : Array Oper) (C : World → Prop) (dem : Nat → Bool) (V : Nat → List Value → Value → World → Prop) (Sh : Nat → Value → Prop) (i : Nat) (K : Act → (World → Prop) → Prop) (a : Act) (F : World → Prop) : Prop :=
  match ops[i]? with
  | none => K a F
  | some o => if Region.wanted o (yielded ops a.tmps) then
      (if dem i then (∀ w, C w → demUpon P (V i (oVals o a)) (Sh i) w ((execOp a.eval o).run P w)) ∧ ∀ u, Sh i u → K (a.put o.dst u) (fun w => F w ∧ V i (oVals o a) u w)
       else ∃ v, (∀ w, C w → readUpon w v ((execOp a.eval o).run P w)) ∧ K (a.put o.dst v) F)
    else K (a.put o.dst undef) F

theorem mOp_mono {i : Nat} {K K' : Act → (World → Prop) → Prop} {a : Act} {F : World → Prop} (h : ∀ a F, K a F → K' a F) (hh : mOp P ops C dem V Sh i K a F) : mOp P ops C dem V Sh i K' a F := by
  unfold mOp at *
  split
  · rename_i ho; simp only [ho] at hh; exact h _ _ hh
  · rename_i o ho
    simp only [ho] at hh
    split
    · rename_i hw
      rw [if_pos hw] at hh
      split
      · rename_i hd; rw [if_pos hd] at hh; exact ⟨hh.1, fun u hu => h _ _ (hh.2 u hu)⟩
      · rename_i hd; rw [if_neg hd] at hh; obtain ⟨v, h1, h2⟩ := hh; exact ⟨v, h1, h _ _ h2⟩
    · rename_i hw; rw [if_neg hw] at hh; exact h _ _ hh
theorem mOp_up {i : Nat} {K : Act → (World → Prop) → Prop} {a : Act} {F F' : World → Prop} (hK : ∀ a F F', (∀ w, F' w → F w) → K a F → K a F') (hF : ∀ w, F' w → F w) (hh : mOp P ops C dem V Sh i K a F) : mOp P ops C dem V Sh i K a F' := by
  unfold mOp at *
  split
  · rename_i ho; simp only [ho] at hh; exact hK _ _ _ hF hh
  · rename_i o ho
    simp only [ho] at hh
    split
    · rename_i hw
      rw [if_pos hw] at hh
      split
      · rename_i hd; rw [if_pos hd] at hh; exact ⟨hh.1, fun u hu => hK _ _ _ (fun w h => ⟨hF w h.1, h.2⟩) (hh.2 u hu)⟩
      · rename_i hd; rw [if_neg hd] at hh; obtain ⟨v, h1, h2⟩ := hh; exact ⟨v, h1, hK _ _ _ hF h2⟩
    · rename_i hw; rw [if_neg hw] at hh; exact hK _ _ _ hF hh
theorem mOp_some {i : Nat} {K : Act → (World → Prop) → Prop} {a : Act} {F : World → Prop} (hS : ∀ i, ∃ u, Sh i u) (hh : mOp P ops C dem V Sh i K a F) : ∃ a' F', K a' F' := by
  unfold mOp at hh
  split at hh
  · exact ⟨_, _, hh⟩
  · split at hh
    · split at hh
      · obtain ⟨u, hu⟩ := hS i; exact ⟨_, _, hh.2 u hu⟩
      · obtain ⟨v, -, h⟩ := hh; exact ⟨_, _, h⟩
    · exact ⟨_, _, hh⟩

/-- two operations that are apart may be taken in either order -/
theorem mOp_comm {i j : Nat} {oi oj : Oper} (hi : ops[i]? = some oi) (hj : ops[j]? = some oj) (hap : oi.apart ops oj = true) (hsi : ∀ cs b, oi.op ≠ .select cs b) (hsj : ∀ cs b, oj.op ≠ .select cs b)
    (hC : ∃ w, C w) (hS : ∀ i, ∃ u, Sh i u) {K : Act → (World → Prop) → Prop} (hK : ∀ a F F', (∀ w, F' w → F w) → K a F → K a F') {a : Act} {F : World → Prop}
    (h : mOp P ops C dem V Sh i (mOp P ops C dem V Sh j K) a F) : mOp P ops C dem V Sh j (mOp P ops C dem V Sh i K) a F := by
  obtain ⟨h1, h2, h3⟩ := Oper.apart_spec hap
  have wj : ∀ v, Region.wanted oj (yielded ops (a.put oi.dst v).tmps) = Region.wanted oj (yielded ops a.tmps) := fun v => wanted_put oj a oi.dst v h1
  have ej : ∀ v, execOp (a.put oi.dst v).eval oj = execOp a.eval oj := fun v => execOp_put oj hsj a oi.dst v h1
  have wi : ∀ v, Region.wanted oi (yielded ops (a.put oj.dst v).tmps) = Region.wanted oi (yielded ops a.tmps) := fun v => wanted_put oi a oj.dst v h3
  have ei : ∀ v, execOp (a.put oj.dst v).eval oi = execOp a.eval oi := fun v => execOp_put oi hsi a oj.dst v h3
  have vj : ∀ v, oVals oj (a.put oi.dst v) = oVals oj a := fun v => oVals_put oj a oi.dst v h1
  have vi : ∀ v, oVals oi (a.put oj.dst v) = oVals oi a := fun v => oVals_put oi a oj.dst v h3
  have cm : ∀ v u, (a.put oi.dst v).put oj.dst u = (a.put oj.dst u).put oi.dst v := fun v u => Act.put_comm a v u h2
  unfold mOp at h ⊢
  simp only [hi, hj, wj, ej, wi, ei, vj, vi] at h ⊢
  obtain ⟨w0, hw0⟩ := hC
  cases hwi : Region.wanted oi (yielded ops a.tmps) <;> cases hwj : Region.wanted oj (yielded ops a.tmps) <;> simp only [hwi, hwj, if_true, Bool.false_eq_true, if_false] at h ⊢
  · rw [← cm]; exact h
  · cases hdj : dem j <;> simp only [hdj, if_true, Bool.false_eq_true, if_false] at h ⊢
    · obtain ⟨v, A, k⟩ := h; exact ⟨v, A, by rw [← cm]; exact k⟩
    · exact ⟨h.1, fun u hu => by rw [← cm]; exact h.2 u hu⟩
  · cases hdi : dem i <;> simp only [hdi, if_true, Bool.false_eq_true, if_false] at h ⊢
    · obtain ⟨v, A, k⟩ := h; exact ⟨v, A, by rw [← cm]; exact k⟩
    · exact ⟨h.1, fun u hu => by rw [← cm]; exact h.2 u hu⟩
  · cases hdi : dem i <;> cases hdj : dem j <;> simp only [hdi, hdj, if_true, Bool.false_eq_true, if_false] at h ⊢
    · obtain ⟨v, A, v', A', k⟩ := h; exact ⟨v', A', v, A, by rw [← cm]; exact k⟩
    · obtain ⟨v, A, A', k⟩ := h; exact ⟨A', fun u hu => ⟨v, A, by rw [← cm]; exact k u hu⟩⟩
    · obtain ⟨A, k⟩ := h
      obtain ⟨u0, hu0⟩ := hS i
      obtain ⟨v, A', -⟩ := k u0 hu0
      refine ⟨v, A', A, fun u hu => ?_⟩
      obtain ⟨v', A'', k'⟩ := k u hu
      rw [readUpon_unique (A' w0 hw0) (A'' w0 hw0), ← cm]
      exact k'
    · obtain ⟨A, k⟩ := h
      obtain ⟨u0, hu0⟩ := hS i
      exact ⟨(k u0 hu0).1, fun uj huj => ⟨A, fun ui hui => hK _ (fun w => (F w ∧ V i (oVals oi a) ui w) ∧ V j (oVals oj a) uj w) _ (fun w h => ⟨⟨h.1.1, h.2⟩, h.1.2⟩) (by rw [← cm]; exact (k ui hui).2 uj huj)⟩⟩

def wpHeadM (P : Program) (md : Region.Mode) (ops : Array Oper) (C : World → Prop) (dem : Nat → Bool) (V : Nat → List Value → Value → World → Prop) (Sh : Nat → Value → Prop) (n : Nat) (L : Array Bool → Act → (World → Prop) → Prop) : Nat → Array Bool → Act → (World → Prop) → Prop
  | 0, listed, a, F => L listed a F
  | f + 1, listed, a, F => Region.ready md ops listed ≠ [] ∧ ∀ i ∈ Region.ready md ops listed, i < n ∧ mOp P ops C dem V Sh i (wpHeadM P md ops C dem V Sh n L f (listed.setIfInBounds i true)) a F

theorem wpHeadM_up {n : Nat} {L : Array Bool → Act → (World → Prop) → Prop} (hL : ∀ listed a F F', (∀ w, F' w → F w) → L listed a F → L listed a F') :
    ∀ (f : Nat) (listed : Array Bool) (a : Act) (F F' : World → Prop), (∀ w, F' w → F w) → wpHeadM P md ops C dem V Sh n L f listed a F → wpHeadM P md ops C dem V Sh n L f listed a F'
  | 0, _, _, _, _, hF, h => hL _ _ _ _ hF h
  | f + 1, _, _, _, _, hF, h => ⟨h.1, fun i hi => ⟨(h.2 i hi).1, mOp_up (fun _ _ _ hF' => wpHeadM_up hL f _ _ _ _ hF') hF (h.2 i hi).2⟩⟩

theorem wpHeadM_first {n i : Nat} {oi : Oper} {L : Array Bool → Act → (World → Prop) → Prop} (hL : ∀ listed a F F', (∀ w, F' w → F w) → L listed a F → L listed a F') (hi : ops[i]? = some oi) (hsel : ∀ (j : Nat) (o : Oper) cs b, ops[j]? = some o → o.op ≠ .select cs b)
    (hs : Region.sinkB md ops n = true) (hc : Region.chainB md ops n = true) (hn : n < ops.size) (hin : i < n) (hC : ∃ w, C w) (hS : ∀ i, ∃ u, Sh i u)
    (hdone : ∀ listed a F, L listed a F → ∀ j ∈ Region.ready md ops listed, n ≤ j) :
    ∀ (f : Nat) (listed : Array Bool) (a : Act) (F : World → Prop), HeadInv md ops n listed → FreeOf md ops i oi listed → i ∈ Region.ready md ops listed →
      mOp P ops C dem V Sh i (wpHeadM P md ops C dem V Sh n L f (listed.setIfInBounds i true)) a F → wpHeadM P md ops C dem V Sh n L (f + 1) listed a F
  | f, listed, a, F, inv, hfree, hr, H => by
    refine ⟨List.ne_nil_of_mem hr, fun j hj => ?_⟩
    have hjn := ready_lt hs hc hn inv hin hr hj
    refine ⟨hjn, ?_⟩
    by_cases hji : j = i
    · subst hji; exact H
    · have hj2 := ready_mono hj hji
      match f, H with
      | 0, H => obtain ⟨a', F', h'⟩ := mOp_some hS H; exact absurd (hdone _ _ _ h' j hj2) (Nat.not_le_of_lt hjn)
      | f + 1, H =>
        obtain ⟨hjun, oj, hoj, _⟩ := mem_ready.1 hj
        have H' : mOp P ops C dem V Sh i (mOp P ops C dem V Sh j (wpHeadM P md ops C dem V Sh n L f ((listed.setIfInBounds i true).setIfInBounds j true))) a F := mOp_mono (fun a' F' h => (h.2 j hj2).2) H
        have H2 := mOp_comm (K := wpHeadM P md ops C dem V Sh n L f ((listed.setIfInBounds i true).setIfInBounds j true)) hi hoj (hfree j oj hoj hji hjun (ready_apart hr hj hoj)) (fun cs b => hsel i oi cs b hi) (fun cs b => hsel j oj cs b hoj) hC hS (fun _ _ _ hF => wpHeadM_up hL f _ _ _ _ hF) H'
        refine mOp_mono (fun a' F' h => ?_) H2
        refine wpHeadM_first hL hi hsel hs hc hn hin hC hS hdone f _ a' F' (inv.set hj hjn) (hfree.later hjun) (ready_mono hr (Ne.symm hji)) ?_
        rwa [Array.setIfInBounds_comm _ _ hji]

/-- the operations in the text's order, the first of them bearing the number k -/
def wpM (P : Program) (ops : Array Oper) (C : World → Prop) (dem : Nat → Bool) (V : Nat → List Value → Value → World → Prop) (Sh : Nat → Value → Prop) (Lq : Act → (World → Prop) → Prop) : List Oper → Nat → Act → (World → Prop) → Prop
  | [], _, a, F => Lq a F
  | _ :: l, k, a, F => mOp P ops C dem V Sh k (wpM P ops C dem V Sh Lq l (k + 1)) a F

theorem wpHeadM_lex {n g : Nat} {Lq : Act → (World → Prop) → Prop} (hLq : ∀ a F F', (∀ w, F' w → F w) → Lq a F → Lq a F') (hsel : Region.noSelect ops = true) (hs : Region.sinkB md ops n = true) (hc : Region.chainB md ops n = true) (hn : n < ops.size) (hC : ∃ w, C w) (hS : ∀ i, ∃ u, Sh i u) :
    ∀ (l : List Oper) (k : Nat) (listed : Array Bool) (a : Act) (F : World → Prop), (∀ j, j < l.length → l[j]? = ops[k + j]?) → HeadInv md ops n listed →
    Region.lexAl md ops g n l.length k listed = true → wpM P ops C dem V Sh Lq l k a F →
    wpHeadM P md ops C dem V Sh n (fun listed' a' F' => Region.seqB md ops g n listed' = true ∧ Lq a' F') l.length listed a F
  | [], k, listed, a, F, _, _, hB, h => ⟨by simpa [Region.lexAl] using hB, h⟩
  | o :: l, k, listed, a, F, hl, inv, hB, h => by
    have h0 : ops[k]? = some o := (hl 0 (Nat.zero_lt_succ _)).symm
    simp only [List.length_cons, Region.lexAl, Bool.and_eq_true, decide_eq_true_eq] at hB
    obtain ⟨⟨⟨hr, hf⟩, hkn⟩, hB'⟩ := hB
    have hr' : k ∈ Region.ready md ops listed := by simpa using hr
    refine wpHeadM_first (fun _ _ _ _ hF h => ⟨h.1, hLq _ _ _ hF h.2⟩) h0 (Region.noSelect_spec hsel) hs hc hn hkn hC hS (fun _ _ _ hL => seqB_ready hL.1) l.length listed a F inv (Region.free_spec h0 hf) hr' ?_
    refine mOp_mono (fun a' F' h' => ?_) h
    refine wpHeadM_lex hLq hsel hs hc hn hC hS l (k + 1) _ _ _ (fun j hj => ?_) (inv.set hr' hkn) hB' h'
    have := hl (j + 1) (Nat.succ_lt_succ hj)
    rwa [show k + (j + 1) = k + 1 + j by omega] at this

def UpF (F : World → Prop) : Prop := ∀ w w', F w → Below w.heap.size w w' → F w'
theorem wpOp_of_mOp {i : Nat} {a : Act} {F : World → Prop} {K : Act → (World → Prop) → Prop} {K' : Act → World → Prop} {Q' : Exit → Act → World → Prop} {w : World} (hCu : UpF C) (hVu : ∀ i xs u, UpF (V i xs u)) (hF : UpF F) (hC : C w) (hFw : F w)
    (h : ∀ a F w', UpF F → C w' → F w' → K a F → K' a w') (hh : mOp P ops C dem V Sh i K a F) : wpOp P ops Q' i K' a w := by
  unfold mOp at hh
  unfold wpOp
  split
  · rename_i ho; simp only [ho] at hh; exact h _ _ _ hF hC hFw hh
  · rename_i o ho
    simp only [ho] at hh
    split
    · rename_i hw
      rw [if_pos hw] at hh
      refine .inl ?_
      split at hh
      · obtain ⟨h1, h2⟩ := hh
        have h3 := h1 w hC
        unfold Oper.wp
        generalize (execOp a.eval o).run P w = r at *
        unfold demUpon at h3
        split at h3
        · simp only [Oper.upon]
          exact h _ _ _ (fun w1 w2 hw1 hb => ⟨hF _ _ hw1.1 hb, hVu i _ _ _ _ hw1.2 hb⟩) (hCu _ _ hC h3.2.1) ⟨hF _ _ hFw h3.2.1, h3.2.2⟩ (h2 _ h3.1)
        · obtain ⟨e1, hc⟩ := h3
          simp only [Oper.upon]
          rw [e1]
          refine hc.mono fun e w'' he => ?_
          obtain ⟨u, he, hs, hb, hv⟩ := he
          subst he
          exact h _ _ _ (fun w1 w2 hw1 hb => ⟨hF _ _ hw1.1 hb, hVu i _ _ _ _ hw1.2 hb⟩) (hCu _ _ hC hb) ⟨hF _ _ hFw hb, hv⟩ (h2 u hs)
        · exact h3.elim
      · obtain ⟨v, h1, h2⟩ := hh
        have h3 := h1 w hC
        unfold Oper.wp
        generalize (execOp a.eval o).run P w = r at *
        unfold readUpon at h3
        split at h3
        · obtain ⟨e1, e2⟩ := h3
          simp only [Oper.upon]
          rw [e1, e2]
          exact h _ _ _ hF hC hFw h2
        · obtain ⟨e1, e2⟩ := h3
          simp only [Oper.upon]
          rw [e1, ← e2]
          exact h _ _ _ hF hC hFw h2
        · exact h3.elim
    · rename_i hw; rw [if_neg hw] at hh; exact h _ _ _ hF hC hFw hh

theorem wpAny_of_headM {n g : Nat} {L : Array Bool → Act → (World → Prop) → Prop} {Q' : Exit → Act → World → Prop} (hCu : UpF C) (hVu : ∀ i xs u, UpF (V i xs u)) (hL : ∀ listed a F w, C w → F w → L listed a F → wpAny P md ops Q' g listed a w) :
    ∀ (f : Nat) (listed : Array Bool) (a : Act) (F : World → Prop) (w : World), UpF F → C w → F w → wpHeadM P md ops C dem V Sh n L f listed a F → wpAny P md ops Q' (f + g) listed a w
  | 0, listed, a, F, w, _, hw, hF, h => by rw [Nat.zero_add]; exact hL _ _ _ _ hw hF h
  | f + 1, listed, a, F, w, hu, hw, hF, h => by
    rw [show f + 1 + g = (f + g) + 1 by omega]
    exact ⟨fun h0 => absurd h0 h.1, fun i hi => wpOp_of_mOp hCu hVu hu hw hF (fun a' F' w' hu' hw' hF' h' => wpAny_of_headM hCu hVu hL f _ a' F' w' hu' hw' hF' h') (h.2 i hi).2⟩

/-- the worlds behind w: what was there is as it was -/
abbrev Grew (w : World) : World → Prop := fun w' => ∃ p : Regrown, w' = grow (redrawn w p.d) p.os
theorem grew_up (w : World) : UpF (Grew w) := fun w1 w2 ⟨p, hp⟩ hb => by
  subst hp
  exact regrown_of_below ((below_regrown w p.d p.os).trans ⟨hb.os, hb.tape, hb.output, hb.size, fun k hk => hb.block k (Nat.lt_of_lt_of_le hk (below_regrown w p.d p.os).size)⟩)

/-- A REGION THAT DRAWS ITS ORDER, some of whose operations (dem) are known by a fact alone. -/
theorem wp_region_multi {id : Nat} {Q : Exit → Act → World → Prop} {a : Act} {w : World} {l : List Oper} (n : Nat) (dem : Nat → Bool) (V : Nat → List Value → Value → World → Prop) (Sh : Nat → Value → Prop) (hm : P.follows .mixedOrders = true) (hB : Region.tailB .any l.toArray n = true)
    (hVu : ∀ i xs u, UpF (V i xs u)) (hS : ∀ i, ∃ u, Sh i u)
    (h : wpM P l.toArray (Grew w) dem V Sh (fun a' F => ∀ w', Below w.heap.size w w' → F w' → wpList P l.toArray Q (l.drop n) a' w') (l.take n) 0 a (fun _ => True)) : (Code.region id l.toArray true).wp P Q a w := by
  simp only [Region.tailB, Bool.and_eq_true, decide_eq_true_eq] at hB
  obtain ⟨⟨⟨⟨hsel, hn⟩, hs⟩, hc⟩, hlex⟩ := hB
  have hlen : (l.take n).length = n := List.length_take_of_le (Nat.le_of_lt (by simpa using hn))
  have hrest : (l.drop n).length = l.toArray.size - n := by simp
  have hC0 : Grew w { w with drawn := w.drawn + 1 } := ⟨⟨w.drawn + 1, #[]⟩, by rw [grow_empty]; rfl⟩
  have H := wpHeadM_lex (md := .any) (g := l.toArray.size - n) (fun _ _ _ hF h w' hb hf => h w' hb (hF _ hf)) hsel hs hc hn ⟨_, hC0⟩ hS (l.take n) 0 _ a _ (fun j hj => by rw [hlen] at hj; simp [hj]) (headInv_none _ _ n) (by rw [hlen]; exact hlex) h
  rw [hlen] at H
  refine wp_region_any hm ?_
  have K := wpAny_of_headM (Q' := Q) (g := l.toArray.size - n) (grew_up w) hVu (fun listed a' F w' hw' hF' hL => ?_) _ _ _ _ _ (fun _ _ _ _ => trivial) hC0 trivial H
  · rwa [Nat.add_sub_cancel' (Nat.le_of_lt hn)] at K
  · rw [← hrest]
    obtain ⟨p, rfl⟩ := hw'
    exact wpAny_of_seq (l.drop n) n listed a' _ (fun j => by simp [List.getElem?_drop]) (by rw [hrest]; exact hL.1) (hL.2 _ (below_regrown w p.d p.os) hF')

/-- operations that enter no function -/
def plainOp : Op → Bool
  | .pick .. | .move _ | .assign _ | .load .. | .build .. | .binOp .. | .unOp .. | .convert .. | .slice .. | .fieldAddr .. | .field .. | .indexAddr .. | .index .. | .extract .. | .makeInterface .. => true
  | _ => false
theorem value_no_enter (s : Sem Value) (w w' : World) (f : FuncId) (args : Array Value) : (do let v ← s; pure (Next.value v) : Sem Next).run P w ≠ .ok (.enter f args) w' := by
  rw [Sem.run_bind]
  cases s.run P w with
  | ok v w1 => intro h; cases h
  | halt x w1 => intro h; cases h
theorem bind_no_enter {β : Type} (s : Sem β) (g : β → Value) (w w' : World) (f : FuncId) (args : Array Value) : (do let v ← s; pure (Next.value (g v)) : Sem Next).run P w ≠ .ok (.enter f args) w' := by
  rw [Sem.run_bind]
  cases s.run P w with
  | ok v w1 => intro h; cases h
  | halt x w1 => intro h; cases h
theorem plain_no_enter {o : Oper} (h : plainOp o.op = true) (ρ : Operand → Value) (w w' : World) (f : FuncId) (args : Array Value) : (execOp ρ o).run P w ≠ .ok (.enter f args) w' := by
  cases ho : o.op <;> rw [ho] at h <;> simp only [plainOp, Bool.false_eq_true] at h <;> unfold execOp <;> simp only [ho] <;> first | exact value_no_enter _ _ _ _ _ | exact bind_no_enter _ _ _ _ _ _ | (intro h; cases h)
theorem mOp_of_quiet {i : Nat} {o : Oper} {a : Act} {F : World → Prop} {K : Act → (World → Prop) → Prop} (hi : ops[i]? = some o) (hp : plainOp o.op = true) (hd : dem i = false)
    (h : if Region.wanted o (yielded ops a.tmps) then o.quiet P a C (fun a' => K a' F) else K (a.put o.dst undef) F) : mOp P ops C dem V Sh i K a F := by
  unfold mOp
  simp only [hi, hd]
  split
  · rename_i hw
    rw [if_pos hw] at h
    obtain ⟨v, h1, h2⟩ := h
    refine ⟨v, fun w hC => ?_, h2⟩
    have h3 := h1 w hC
    unfold Oper.quietAt at h3
    have hne := plain_no_enter (P := P) hp a.eval w
    generalize (execOp a.eval o).run P w = r at *
    unfold Oper.quietUpon at h3
    split at h3
    · exact h3
    · exact h3
    · exact absurd rfl (hne _ _ _)
    · exact h3.elim
  · rename_i hw; rw [if_neg hw] at h; exact h
/-- a stretch of operations that only read -/
theorem wpM_quiet {Lq : Act → (World → Prop) → Prop} {F : World → Prop} : ∀ (l rest : List Oper) (k : Nat) (a : Act), (∀ j, j < l.length → l[j]? = ops[k + j]?) → (∀ o ∈ l, plainOp o.op = true) → (∀ j, j < l.length → dem (k + j) = false) →
    wpQuiet P ops C (fun a' => wpM P ops C dem V Sh Lq rest (k + l.length) a' F) l a → wpM P ops C dem V Sh Lq (l ++ rest) k a F
  | [], _, _, _, _, _, _, h => h
  | o :: l, rest, k, a, hl, hp, hd, h => by
    refine mOp_of_quiet (hl 0 (Nat.zero_lt_succ _)).symm (hp o List.mem_cons_self) (hd 0 (Nat.zero_lt_succ _)) ?_
    have hn : ∀ a', wpQuiet P ops C (fun a' => wpM P ops C dem V Sh Lq rest (k + (o :: l).length) a' F) l a' → wpM P ops C dem V Sh Lq (l ++ rest) (k + 1) a' F := fun a' h' => by
      refine wpM_quiet l rest (k + 1) a' (fun j hj => ?_) (fun o' ho' => hp o' (List.mem_cons_of_mem _ ho')) (fun j hj => ?_) ?_
      · have := hl (j + 1) (Nat.succ_lt_succ hj)
        rwa [show k + (j + 1) = k + 1 + j by omega] at this
      · have := hd (j + 1) (Nat.succ_lt_succ hj)
        rwa [show k + (j + 1) = k + 1 + j by omega] at this
      · rwa [show k + (o :: l).length = k + 1 + l.length by simp; omega] at h'
    unfold wpQuiet at h
    split
    · rename_i hw; rw [if_pos hw] at h; exact Oper.quiet_mono hn h
    · rename_i hw; rw [if_neg hw] at h; exact hn _ h
/-- the next m operations only read -/
theorem wpM_stretch {Lq : Act → (World → Prop) → Prop} {F : World → Prop} {a : Act} {l : List Oper} {k : Nat} (m : Nat) (hm : decide (m ≤ l.length) = true) (ho : l.take m = (ops.toList.drop k).take m) (hp : (l.take m).all (fun o => plainOp o.op) = true) (hd : (List.range m).all (fun j => !dem (k + j)) = true)
    (h : wpQuiet P ops C (fun a' => wpM P ops C dem V Sh Lq (l.drop m) (k + m) a' F) (l.take m) a) : wpM P ops C dem V Sh Lq l k a F := by
  have hml := of_decide_eq_true hm
  have hlen : (l.take m).length = m := by simp; omega
  have e : l = l.take m ++ l.drop m := (List.take_append_drop m l).symm
  rw [e]
  refine wpM_quiet _ _ k a (fun j hj => ?_) (fun o ho => List.all_eq_true.1 hp o ho) (fun j hj => ?_) ?_
  · rw [hlen] at hj
    rw [ho, List.getElem?_take_of_lt hj, List.getElem?_drop, Array.getElem?_toList]
  · rw [hlen] at hj
    have := List.all_eq_true.1 hd j (List.mem_range.2 hj)
    simpa using this
  · rw [hlen]; exact h
/-- an operation of which a fact is known -/
theorem wpM_dem {Lq : Act → (World → Prop) → Prop} {F : World → Prop} {o : Oper} {a : Act} {l : List Oper} {k : Nat} (hk : ops[k]? = some o) (hd : dem k = true) (hw : Region.wanted o (yielded ops a.tmps) = true)
    (h1 : ∀ w, C w → demUpon P (V k (oVals o a)) (Sh k) w ((execOp a.eval o).run P w)) (h2 : ∀ u, Sh k u → wpM P ops C dem V Sh Lq l (k + 1) (a.put o.dst u) (fun w => F w ∧ V k (oVals o a) u w)) : wpM P ops C dem V Sh Lq (o :: l) k a F := by
  show mOp _ _ _ _ _ _ _ _ _ _
  unfold mOp
  simp only [hk, hd, hw, if_true]
  exact ⟨h1, h2⟩
theorem wpM_end {Lq : Act → (World → Prop) → Prop} {F : World → Prop} {a : Act} {k : Nat} (h : Lq a F) : wpM P ops C dem V Sh Lq [] k a F := h
end
end Go.Proofs.LawFrame
