/- OF NO PROGRAM: a region that draws its order, ONE of whose operations (j) is a call that may write older memory or panic, the others only read, and read the same ahead of the call and behind it. Conditions: the closed look at the edges (Region.tailB). -/
import Derived.Test.YtjpmnlefjmdelaaDoorRm
import Derived.Laws.Sem
namespace Go.Proofs.LawFrame.One
open Go.Sort Go.RowKit Go.Proofs.LawFrame

theorem put_defers (a : Act) (d : Option Tmp) (v : Value) : (a.put d v).defers = a.defers := by cases d <;> rfl
section
variable {P : Program} {ops : Array Oper} {md : Region.Mode} {F0 : World → Prop} {j : Nat} {V : Value → World → Prop} {Sh : Value → Prop} {X : List PanicEntry → World → Prop}
def callUpon (P : Program) (V : Value → World → Prop) (Sh : Value → Prop) (X : List PanicEntry → World → Prop) (w : World) : Result Next → Prop
  | .ok (.value u) w' => Sh u ∧ V u w'
  | .ok (.enter f args) w' => w' = w ∧ Calls P f args w (fun e w'' => (∃ u, e = .returned u ∧ Sh u ∧ V u w'') ∨ ∃ chain, e = .panicked chain ∧ X chain w'')
  | _ => False
/-- operation i in the state a, F being known of the world -/
def oOp (P : Program) (ops : Array Oper) (F0 : World → Prop) (j : Nat) (V : Value → World → Prop) (Sh : Value → Prop) (X : List PanicEntry → World → Prop) (i : Nat) (K : Act → (World → Prop) → Prop) (a : Act) (F : World → Prop) : Prop :=
  match ops[i]? with
  | none => K a F
  | some o => if Region.wanted o (yielded ops a.tmps) then
      (if i = j then (∀ w, F0 w → callUpon P V Sh X w ((execOp a.eval o).run P w)) ∧ ∀ u, Sh u → K (a.put o.dst u) (V u)
       else ∃ v, ((∀ w, F0 w → readUpon w v ((execOp a.eval o).run P w)) ∧ ∀ u w, V u w → readUpon w v ((execOp a.eval o).run P w)) ∧ K (a.put o.dst v) F)
    else K (a.put o.dst undef) F
theorem oOp_mono {i : Nat} {K K' : Act → (World → Prop) → Prop} {a : Act} {F : World → Prop} (h : ∀ a F, K a F → K' a F) (hh : oOp P ops F0 j V Sh X i K a F) : oOp P ops F0 j V Sh X i K' a F := by
  unfold oOp at *
  split
  · rename_i ho; simp only [ho] at hh; exact h _ _ hh
  · rename_i o ho
    simp only [ho] at hh
    split
    · rename_i hw
      rw [if_pos hw] at hh
      split
      · rename_i hd; rw [if_pos hd] at hh; exact ⟨hh.1, fun u hu => h _ _ (hh.2 u hu)⟩
      · rename_i hd; rw [if_neg hd] at hh; obtain ⟨v, h1, h2⟩ := hh; exact ⟨v, h1, h _ _ h2⟩
    · rename_i hw; rw [if_neg hw] at hh; exact h _ _ hh
theorem oOp_some {i : Nat} {K : Act → (World → Prop) → Prop} {a : Act} {F : World → Prop} (hS : ∃ u, Sh u) (hh : oOp P ops F0 j V Sh X i K a F) : ∃ a' F', K a' F' := by
  unfold oOp at hh
  split at hh
  · exact ⟨_, _, hh⟩
  · split at hh
    · split at hh
      · obtain ⟨u, hu⟩ := hS; exact ⟨_, _, hh.2 u hu⟩
      · obtain ⟨v, -, h⟩ := hh; exact ⟨_, _, h⟩
    · exact ⟨_, _, hh⟩
theorem oOp_comm {i k : Nat} {oi ok : Oper} (hi : ops[i]? = some oi) (hk : ops[k]? = some ok) (hap : oi.apart ops ok = true) (hsi : ∀ cs b, oi.op ≠ .select cs b) (hsk : ∀ cs b, ok.op ≠ .select cs b)
    (hC : ∃ w, F0 w) (hS : ∃ u, Sh u) (hne : ¬ i = k) {K : Act → (World → Prop) → Prop} {a : Act} {F : World → Prop}
    (h : oOp P ops F0 j V Sh X i (oOp P ops F0 j V Sh X k K) a F) : oOp P ops F0 j V Sh X k (oOp P ops F0 j V Sh X i K) a F := by
  obtain ⟨h1, h2, h3⟩ := Oper.apart_spec hap
  have wk : ∀ v, Region.wanted ok (yielded ops (a.put oi.dst v).tmps) = Region.wanted ok (yielded ops a.tmps) := fun v => wanted_put ok a oi.dst v h1
  have ek : ∀ v, execOp (a.put oi.dst v).eval ok = execOp a.eval ok := fun v => execOp_put ok hsk a oi.dst v h1
  have wi : ∀ v, Region.wanted oi (yielded ops (a.put ok.dst v).tmps) = Region.wanted oi (yielded ops a.tmps) := fun v => wanted_put oi a ok.dst v h3
  have ei : ∀ v, execOp (a.put ok.dst v).eval oi = execOp a.eval oi := fun v => execOp_put oi hsi a ok.dst v h3
  have cm : ∀ v u, (a.put oi.dst v).put ok.dst u = (a.put ok.dst u).put oi.dst v := fun v u => Act.put_comm a v u h2
  unfold oOp at h ⊢
  simp only [hi, hk, wk, ek, wi, ei] at h ⊢
  obtain ⟨w0, hw0⟩ := hC
  cases hwi : Region.wanted oi (yielded ops a.tmps) <;> cases hwk : Region.wanted ok (yielded ops a.tmps) <;> simp only [hwi, hwk, if_true, Bool.false_eq_true, if_false] at h ⊢
  · rw [← cm]; exact h
  · by_cases hdk : k = j <;> simp only [hdk, if_true, if_false] at h ⊢
    · exact ⟨h.1, fun u hu => by rw [← cm]; exact h.2 u hu⟩
    · obtain ⟨v, A, q⟩ := h; exact ⟨v, A, by rw [← cm]; exact q⟩
  · by_cases hdi : i = j <;> simp only [hdi, if_true, if_false] at h ⊢
    · exact ⟨h.1, fun u hu => by rw [← cm]; exact h.2 u hu⟩
    · obtain ⟨v, A, q⟩ := h; exact ⟨v, A, by rw [← cm]; exact q⟩
  · by_cases hdi : i = j
    · have hdk : ¬ k = j := fun e => hne (hdi.trans e.symm)
      simp only [hdi, hdk, if_true, if_false] at h ⊢
      obtain ⟨A, q⟩ := h
      obtain ⟨u0, hu0⟩ := hS
      obtain ⟨v, A', -⟩ := q u0 hu0
      refine ⟨v, A', A, fun u hu => ?_⟩
      obtain ⟨v', A'', q'⟩ := q u hu
      rw [readUpon_unique (A'.1 w0 hw0) (A''.1 w0 hw0), ← cm]
      exact q'
    · by_cases hdk : k = j
      · simp only [hdi, hdk, if_true, if_false] at h ⊢
        obtain ⟨v, A, A', q⟩ := h
        exact ⟨A', fun u hu => ⟨v, A, by rw [← cm]; exact q u hu⟩⟩
      · simp only [hdi, hdk, if_false] at h ⊢
        obtain ⟨v, A, v', A', q⟩ := h
        exact ⟨v', A', v, A, by rw [← cm]; exact q⟩

def wpHeadO (P : Program) (md : Region.Mode) (ops : Array Oper) (F0 : World → Prop) (j : Nat) (V : Value → World → Prop) (Sh : Value → Prop) (X : List PanicEntry → World → Prop) (n : Nat) (L : Array Bool → Act → (World → Prop) → Prop) : Nat → Array Bool → Act → (World → Prop) → Prop
  | 0, listed, a, F => L listed a F
  | f + 1, listed, a, F => Region.ready md ops listed ≠ [] ∧ ∀ i ∈ Region.ready md ops listed, i < n ∧ oOp P ops F0 j V Sh X i (wpHeadO P md ops F0 j V Sh X n L f (listed.setIfInBounds i true)) a F
theorem wpHeadO_first {n i : Nat} {oi : Oper} {L : Array Bool → Act → (World → Prop) → Prop} (hi : ops[i]? = some oi) (hsel : ∀ (j : Nat) (o : Oper) cs b, ops[j]? = some o → o.op ≠ .select cs b)
    (hs : Region.sinkB md ops n = true) (hc : Region.chainB md ops n = true) (hn : n < ops.size) (hin : i < n) (hC : ∃ w, F0 w) (hS : ∃ u, Sh u)
    (hdone : ∀ listed a F, L listed a F → ∀ j ∈ Region.ready md ops listed, n ≤ j) :
    ∀ (f : Nat) (listed : Array Bool) (a : Act) (F : World → Prop), HeadInv md ops n listed → FreeOf md ops i oi listed → i ∈ Region.ready md ops listed →
      oOp P ops F0 j V Sh X i (wpHeadO P md ops F0 j V Sh X n L f (listed.setIfInBounds i true)) a F → wpHeadO P md ops F0 j V Sh X n L (f + 1) listed a F
  | f, listed, a, F, inv, hfree, hr, H => by
    refine ⟨List.ne_nil_of_mem hr, fun k hk => ?_⟩
    have hkn := ready_lt hs hc hn inv hin hr hk
    refine ⟨hkn, ?_⟩
    by_cases hki : k = i
    · subst hki; exact H
    · have hk2 := ready_mono hk hki
      match f, H with
      | 0, H => obtain ⟨a', F', h'⟩ := oOp_some hS H; exact absurd (hdone _ _ _ h' k hk2) (Nat.not_le_of_lt hkn)
      | f + 1, H =>
        obtain ⟨hkun, ok, hok, _⟩ := mem_ready.1 hk
        have H' : oOp P ops F0 j V Sh X i (oOp P ops F0 j V Sh X k (wpHeadO P md ops F0 j V Sh X n L f ((listed.setIfInBounds i true).setIfInBounds k true))) a F := oOp_mono (fun a' F' h => (h.2 k hk2).2) H
        have H2 := oOp_comm (K := wpHeadO P md ops F0 j V Sh X n L f ((listed.setIfInBounds i true).setIfInBounds k true)) hi hok (hfree k ok hok hki hkun (ready_apart hr hk hok)) (fun cs b => hsel i oi cs b hi) (fun cs b => hsel k ok cs b hok) hC hS (fun e => hki e.symm) H'
        refine oOp_mono (fun a' F' h => ?_) H2
        refine wpHeadO_first hi hsel hs hc hn hin hC hS hdone f _ a' F' (inv.set hk hkn) (hfree.later hkun) (ready_mono hr (Ne.symm hki)) ?_
        rwa [Array.setIfInBounds_comm _ _ hki]
/-- the operations in the text's order, the first of them bearing the number k -/
def wpO (P : Program) (ops : Array Oper) (F0 : World → Prop) (j : Nat) (V : Value → World → Prop) (Sh : Value → Prop) (X : List PanicEntry → World → Prop) (Lq : Act → (World → Prop) → Prop) : List Oper → Nat → Act → (World → Prop) → Prop
  | [], _, a, F => Lq a F
  | _ :: l, k, a, F => oOp P ops F0 j V Sh X k (wpO P ops F0 j V Sh X Lq l (k + 1)) a F
theorem wpHeadO_lex {n g : Nat} {Lq : Act → (World → Prop) → Prop} (hsel : Region.noSelect ops = true) (hs : Region.sinkB md ops n = true) (hc : Region.chainB md ops n = true) (hn : n < ops.size) (hC : ∃ w, F0 w) (hS : ∃ u, Sh u) :
    ∀ (l : List Oper) (k : Nat) (listed : Array Bool) (a : Act) (F : World → Prop), (∀ j, j < l.length → l[j]? = ops[k + j]?) → HeadInv md ops n listed →
    Region.lexAl md ops g n l.length k listed = true → wpO P ops F0 j V Sh X Lq l k a F →
    wpHeadO P md ops F0 j V Sh X n (fun listed' a' F' => Region.seqB md ops g n listed' = true ∧ Lq a' F') l.length listed a F
  | [], k, listed, a, F, _, _, hB, h => ⟨by simpa [Region.lexAl] using hB, h⟩
  | o :: l, k, listed, a, F, hl, inv, hB, h => by
    have h0 : ops[k]? = some o := (hl 0 (Nat.zero_lt_succ _)).symm
    simp only [List.length_cons, Region.lexAl, Bool.and_eq_true, decide_eq_true_eq] at hB
    obtain ⟨⟨⟨hr, hf⟩, hkn⟩, hB'⟩ := hB
    have hr' : k ∈ Region.ready md ops listed := by simpa using hr
    refine wpHeadO_first h0 (Region.noSelect_spec hsel) hs hc hn hkn hC hS (fun _ _ _ hL => seqB_ready hL.1) l.length listed a F inv (Region.free_spec h0 hf) hr' ?_
    refine oOp_mono (fun a' F' h' => ?_) h
    refine wpHeadO_lex hsel hs hc hn hC hS l (k + 1) _ _ _ (fun j hj => ?_) (inv.set hr' hkn) hB' h'
    have := hl (j + 1) (Nat.succ_lt_succ hj)
    rwa [show k + (j + 1) = k + 1 + j by omega] at this
/-- what is known of the class: until the call it is F0, behind it V of its value -/
structure Cls (F0 : World → Prop) (V : Value → World → Prop) (j : Nat) (listed : Array Bool) (F : World → Prop) : Prop where
  before : listed.getD j true = false → F = F0
  one : F = F0 ∨ ∃ u, F = V u
theorem Cls.set {listed : Array Bool} {F : World → Prop} (h : Cls F0 V j listed F) {i : Nat} (hij : ¬ i = j) : Cls F0 V j (listed.setIfInBounds i true) F :=
  ⟨fun e => h.before (by rw [Array.getD_eq_getD_getElem?, Array.getElem?_setIfInBounds_ne hij] at e; rw [Array.getD_eq_getD_getElem?]; exact e), h.one⟩
theorem set_done {listed : Array Bool} (i : Nat) : ¬ (listed.setIfInBounds i true).getD i true = false := by
  rw [Array.getD_eq_getD_getElem?, Array.getElem?_setIfInBounds]
  simp
  split <;> simp
theorem wpOp_of_oOp {i : Nat} {a : Act} {F : World → Prop} {K : Act → (World → Prop) → Prop} {K' : Act → World → Prop} {Q' : Exit → Act → World → Prop} {w : World} {D : List Deferred} {listed : Array Bool} (hD : a.defers = D) (hX : ∀ chain (a' : Act) w', a'.defers = D → X chain w' → Q' (.panic chain) a' w') (hc : Cls F0 V j listed F) (hi : listed.getD i true = false) (hFw : F w)
    (h : ∀ (a : Act) F w', a.defers = D → Cls F0 V j (listed.setIfInBounds i true) F → F w' → K a F → K' a w') (hh : oOp P ops F0 j V Sh X i K a F) : wpOp P ops Q' i K' a w := by
  have hcl : ∀ G : World → Prop, G = F → Cls F0 V j (listed.setIfInBounds i true) G := fun G e => by
    subst e
    by_cases hij : i = j
    · subst hij; exact ⟨fun e => absurd e (set_done i), hc.one⟩
    · exact hc.set hij
  unfold oOp at hh
  unfold wpOp
  split
  · rename_i ho; simp only [ho] at hh; exact h _ _ _ hD (hcl _ rfl) hFw hh
  · rename_i o ho
    simp only [ho] at hh
    split
    · rename_i hw
      rw [if_pos hw] at hh
      refine .inl ?_
      split at hh
      · rename_i hij
        obtain ⟨h1, h2⟩ := hh
        subst hij
        obtain rfl := hc.before hi
        have h3 := h1 w hFw
        have hv : ∀ u, Cls F V i (listed.setIfInBounds i true) (V u) := fun u => ⟨fun e => absurd e (set_done i), Or.inr ⟨u, rfl⟩⟩
        clear h1
        unfold Oper.wp
        generalize (execOp a.eval o).run P w = r at *
        unfold callUpon at h3
        split at h3
        · simp only [Oper.upon]
          exact h _ _ _ (by rw [put_defers]; exact hD) (hv _) h3.2 (h2 _ h3.1)
        · obtain ⟨e1, hc⟩ := h3
          simp only [Oper.upon]
          rw [e1]
          refine hc.mono fun e w'' he => ?_
          rcases he with ⟨u, he, hs, hv'⟩ | ⟨chain, he, hx⟩
          · subst he
            exact h _ _ _ (by rw [put_defers]; exact hD) (hv u) hv' (h2 u hs)
          · subst he
            exact hX _ _ _ (by first | exact hD | (rw [put_defers]; exact hD)) hx
        · exact h3.elim
      · obtain ⟨v, ⟨h1, h1'⟩, h2⟩ := hh
        have h3 : readUpon w v ((execOp a.eval o).run P w) := by
          rcases hc.one with e | ⟨u, e⟩
          · rw [e] at hFw; exact h1 w hFw
          · rw [e] at hFw; exact h1' u w hFw
        unfold Oper.wp
        generalize (execOp a.eval o).run P w = r at *
        unfold readUpon at h3
        split at h3
        · obtain ⟨e1, e2⟩ := h3
          simp only [Oper.upon]
          rw [e1, e2]
          exact h _ _ _ (by rw [put_defers]; exact hD) (hcl _ rfl) hFw h2
        · obtain ⟨e1, e2⟩ := h3
          simp only [Oper.upon]
          rw [e1, ← e2]
          exact h _ _ _ (by rw [put_defers]; exact hD) (hcl _ rfl) hFw h2
        · exact h3.elim
    · rename_i hw; rw [if_neg hw] at hh; exact h _ _ _ (by rw [put_defers]; exact hD) (hcl _ rfl) hFw hh
theorem wpAny_of_headO {n g : Nat} {L : Array Bool → Act → (World → Prop) → Prop} {Q' : Exit → Act → World → Prop} {D : List Deferred} (hX : ∀ chain (a' : Act) w', a'.defers = D → X chain w' → Q' (.panic chain) a' w') (hL : ∀ listed (a : Act) F w, a.defers = D → F w → L listed a F → wpAny P md ops Q' g listed a w) :
    ∀ (f : Nat) (listed : Array Bool) (a : Act) (F : World → Prop) (w : World), a.defers = D → Cls F0 V j listed F → F w → wpHeadO P md ops F0 j V Sh X n L f listed a F → wpAny P md ops Q' (f + g) listed a w
  | 0, listed, a, F, w, hD, _, hF, h => by rw [Nat.zero_add]; exact hL _ _ _ _ hD hF h
  | f + 1, listed, a, F, w, hD, hc, hF, h => by
    rw [show f + 1 + g = (f + g) + 1 by omega]
    exact ⟨fun h0 => absurd h0 h.1, fun i hi => wpOp_of_oOp hD hX hc (mem_ready.1 hi).1 hF (fun a' F' w' hd' hc' hF' h' => wpAny_of_headO hX hL f _ a' F' w' hd' hc' hF' h') (h.2 i hi).2⟩
/-- A REGION THAT DRAWS ITS ORDER with one call that may write. -/
theorem wp_region_one {id : Nat} {Q : Exit → Act → World → Prop} {a : Act} {w : World} {l : List Oper} (n j : Nat) (V : Value → World → Prop) (Sh : Value → Prop) (X : List PanicEntry → World → Prop) (hm : P.follows .mixedOrders = true) (hB : Region.tailB .any l.toArray n = true)
    (hS : ∃ u, Sh u) (hX : ∀ chain (a' : Act) w', a'.defers = a.defers → X chain w' → Q (.panic chain) a' w')
    (h : wpO P l.toArray (fun w' => w' = w.drew) j V Sh X (fun a' F => ∀ w', F w' → wpList P l.toArray Q (l.drop n) a' w') (l.take n) 0 a (fun w' => w' = w.drew)) : (Code.region id l.toArray true).wp P Q a w := by
  simp only [Region.tailB, Bool.and_eq_true, decide_eq_true_eq] at hB
  obtain ⟨⟨⟨⟨hsel, hn⟩, hs⟩, hc⟩, hlex⟩ := hB
  have hlen : (l.take n).length = n := List.length_take_of_le (Nat.le_of_lt (by simpa using hn))
  have hrest : (l.drop n).length = l.toArray.size - n := by simp
  have H := wpHeadO_lex (md := .any) (F0 := fun w' => w' = w.drew) (g := l.toArray.size - n) hsel hs hc hn ⟨w.drew, rfl⟩ hS (l.take n) 0 _ a _ (fun j hj => by rw [hlen] at hj; simp [hj]) (headInv_none _ _ n) (by rw [hlen]; exact hlex) h
  rw [hlen] at H
  refine wp_region_any hm ?_
  have K := wpAny_of_headO (Q' := Q) (F0 := fun w' => w' = w.drew) (g := l.toArray.size - n) hX (fun listed a' F w' _ hF' hL => ?_) _ _ _ (fun w' => w' = w.drew) w.drew rfl ⟨fun _ => rfl, Or.inl rfl⟩ rfl H
  · rwa [Nat.add_sub_cancel' (Nat.le_of_lt hn)] at K
  · rw [← hrest]
    exact wpAny_of_seq (l.drop n) n listed a' _ (fun j => by simp [List.getElem?_drop]) (by rw [hrest]; exact hL.1) (hL.2 _ hF')
theorem wpO_read {Lq : Act → (World → Prop) → Prop} {F : World → Prop} {o : Oper} {a : Act} {l : List Oper} {k : Nat} (v : Value) (hk : ops[k]? = some o) (hd : ¬ k = j) (hw : Region.wanted o (yielded ops a.tmps) = true)
    (h1 : ∀ w, F0 w → readUpon w v ((execOp a.eval o).run P w)) (h1' : ∀ u w, V u w → readUpon w v ((execOp a.eval o).run P w)) (h2 : wpO P ops F0 j V Sh X Lq l (k + 1) (a.put o.dst v) F) : wpO P ops F0 j V Sh X Lq (o :: l) k a F := by
  show oOp _ _ _ _ _ _ _ _ _ _ _
  unfold oOp
  simp only [hk, hd, hw, if_true, if_false]
  exact ⟨v, ⟨h1, h1'⟩, h2⟩
theorem wpO_call {Lq : Act → (World → Prop) → Prop} {F : World → Prop} {o : Oper} {a : Act} {l : List Oper} (hk : ops[j]? = some o) (hw : Region.wanted o (yielded ops a.tmps) = true)
    (h1 : ∀ w, F0 w → callUpon P V Sh X w ((execOp a.eval o).run P w)) (h2 : ∀ u, Sh u → wpO P ops F0 j V Sh X Lq l (j + 1) (a.put o.dst u) (V u)) : wpO P ops F0 j V Sh X Lq (o :: l) j a F := by
  show oOp _ _ _ _ _ _ _ _ _ _ _
  unfold oOp
  simp only [hk, hw, if_true]
  exact ⟨h1, h2⟩
theorem wpO_end {Lq : Act → (World → Prop) → Prop} {F : World → Prop} {a : Act} {k : Nat} (h : Lq a F) : wpO P ops F0 j V Sh X Lq [] k a F := h
end
end Go.Proofs.LawFrame.One
