/- OF NO PROGRAM: as Rm, but an operation may use the facts of operations that it waits for (dep): 'f(g(a), h(b))' in the middle of a region that draws its order. Conditions: the closed looks at the edges (Region.tailB, depB). -/
import Derived.Test.YtinenbgdkchghaaRm
import Derived.Laws.Sem
set_option linter.unusedSimpArgs false
set_option linter.unusedVariables false
namespace Go.Proofs.LawFrame.Dep
open Go.Sort Go.RowKit Go.Proofs.LawFrame

section
variable {P : Program} {ops : Array Oper} {md : Region.Mode} {C : World → Prop} {dem : Nat → Bool} {V : Nat → List Value → Value → World → Prop} {Sh : Nat → Value → Prop} {dep : Nat → List Nat}

def upd (F : Nat → World → Prop) (i : Nat) (P : World → Prop) : Nat → World → Prop := fun k => if k = i then P else F k
theorem upd_at (F : Nat → World → Prop) (i : Nat) (P : World → Prop) : upd F i P i = P := if_pos rfl
theorem upd_ne {F : Nat → World → Prop} {i k : Nat} {P : World → Prop} (h : ¬ k = i) : upd F i P k = F k := if_neg h
theorem upd_comm (F : Nat → World → Prop) {i j : Nat} (P Q : World → Prop) (h : ¬ i = j) : upd (upd F i P) j Q = upd (upd F j Q) i P := by
  funext k
  unfold upd
  by_cases h1 : k = i <;> by_cases h2 : k = j <;> simp [h1, h2] <;> omega

/-- operation i in the state a, F being known of the world -/
def mOp (P : Program) (ops : Array Oper) (C : World → Prop) (dem : Nat → Bool) (V : Nat → List Value → Value → World → Prop) (Sh : Nat → Value → Prop) (dep : Nat → List Nat) (i : Nat) (K : Act → (Nat → World → Prop) → Prop) (a : Act) (F : Nat → World → Prop) : Prop :=
  match ops[i]? with
  | none => K a F
  | some o => if Region.wanted o (yielded ops a.tmps) then
      (if dem i then (∀ w, C w → (∀ k ∈ dep i, F k w) → demUpon P (V i (oVals o a)) (Sh i) w ((execOp a.eval o).run P w)) ∧ ∀ u, Sh i u → K (a.put o.dst u) (upd F i (V i (oVals o a) u))
       else ∃ v, (∀ w, C w → readUpon w v ((execOp a.eval o).run P w)) ∧ K (a.put o.dst v) F)
    else K (a.put o.dst undef) F

theorem mOp_mono {i : Nat} {K K' : Act → (Nat → World → Prop) → Prop} {a : Act} {F : Nat → World → Prop} (h : ∀ a F, K a F → K' a F) (hh : mOp P ops C dem V Sh dep i K a F) : mOp P ops C dem V Sh dep i K' a F := by
  unfold mOp at *
  split
  · rename_i ho; simp only [ho] at hh; exact h _ _ hh
  · rename_i o ho
    simp only [ho] at hh
    split
    · rename_i hw
      rw [if_pos hw] at hh
      split
      · rename_i hd; rw [if_pos hd] at hh; exact ⟨hh.1, fun u hu => h _ _ (hh.2 u hu)⟩
      · rename_i hd; rw [if_neg hd] at hh; obtain ⟨v, h1, h2⟩ := hh; exact ⟨v, h1, h _ _ h2⟩
    · rename_i hw; rw [if_neg hw] at hh; exact h _ _ hh
theorem mOp_up {i : Nat} {K : Act → (Nat → World → Prop) → Prop} {a : Act} {F F' : Nat → World → Prop} (hK : ∀ a F F', (∀ k w, F' k w → F k w) → K a F → K a F') (hF : ∀ k w, F' k w → F k w) (hh : mOp P ops C dem V Sh dep i K a F) : mOp P ops C dem V Sh dep i K a F' := by
  unfold mOp at *
  split
  · rename_i ho; simp only [ho] at hh; exact hK _ _ _ hF hh
  · rename_i o ho
    simp only [ho] at hh
    split
    · rename_i hw
      rw [if_pos hw] at hh
      split
      · rename_i hd; rw [if_pos hd] at hh; exact ⟨fun w hw hd => hh.1 w hw (fun k hk => hF k w (hd k hk)), fun u hu => hK _ _ _ (fun k w h => by
          unfold upd at *
          split
          · rename_i e; rw [if_pos e] at h; exact h
          · rename_i e; rw [if_neg e] at h; exact hF k w h) (hh.2 u hu)⟩
      · rename_i hd; rw [if_neg hd] at hh; obtain ⟨v, h1, h2⟩ := hh; exact ⟨v, h1, hK _ _ _ hF h2⟩
    · rename_i hw; rw [if_neg hw] at hh; exact hK _ _ _ hF hh
theorem mOp_some {i : Nat} {K : Act → (Nat → World → Prop) → Prop} {a : Act} {F : Nat → World → Prop} (hS : ∀ i, ∃ u, Sh i u) (hh : mOp P ops C dem V Sh dep i K a F) : ∃ a' F', K a' F' := by
  unfold mOp at hh
  split at hh
  · exact ⟨_, _, hh⟩
  · split at hh
    · split at hh
      · obtain ⟨u, hu⟩ := hS i; exact ⟨_, _, hh.2 u hu⟩
      · obtain ⟨v, -, h⟩ := hh; exact ⟨_, _, h⟩
    · exact ⟨_, _, hh⟩

/-- two operations that are apart may be taken in either order -/
theorem mOp_comm {i j : Nat} {oi oj : Oper} (hi : ops[i]? = some oi) (hj : ops[j]? = some oj) (hap : oi.apart ops oj = true) (hsi : ∀ cs b, oi.op ≠ .select cs b) (hsj : ∀ cs b, oj.op ≠ .select cs b)
    (hC : ∃ w, C w) (hS : ∀ i, ∃ u, Sh i u) (hne : ¬ i = j) (hij : i ∉ dep j) (hji : j ∉ dep i) {K : Act → (Nat → World → Prop) → Prop} (_hK : ∀ a F F', (∀ k w, F' k w → F k w) → K a F → K a F') {a : Act} {F : Nat → World → Prop}
    (h : mOp P ops C dem V Sh dep i (mOp P ops C dem V Sh dep j K) a F) : mOp P ops C dem V Sh dep j (mOp P ops C dem V Sh dep i K) a F := by
  obtain ⟨h1, h2, h3⟩ := Oper.apart_spec hap
  have wj : ∀ v, Region.wanted oj (yielded ops (a.put oi.dst v).tmps) = Region.wanted oj (yielded ops a.tmps) := fun v => wanted_put oj a oi.dst v h1
  have ej : ∀ v, execOp (a.put oi.dst v).eval oj = execOp a.eval oj := fun v => execOp_put oj hsj a oi.dst v h1
  have wi : ∀ v, Region.wanted oi (yielded ops (a.put oj.dst v).tmps) = Region.wanted oi (yielded ops a.tmps) := fun v => wanted_put oi a oj.dst v h3
  have ei : ∀ v, execOp (a.put oj.dst v).eval oi = execOp a.eval oi := fun v => execOp_put oi hsi a oj.dst v h3
  have vj : ∀ v, oVals oj (a.put oi.dst v) = oVals oj a := fun v => oVals_put oj a oi.dst v h1
  have vi : ∀ v, oVals oi (a.put oj.dst v) = oVals oi a := fun v => oVals_put oi a oj.dst v h3
  have cm : ∀ v u, (a.put oi.dst v).put oj.dst u = (a.put oj.dst u).put oi.dst v := fun v u => Act.put_comm a v u h2
  unfold mOp at h ⊢
  simp only [hi, hj, wj, ej, wi, ei, vj, vi] at h ⊢
  obtain ⟨w0, hw0⟩ := hC
  cases hwi : Region.wanted oi (yielded ops a.tmps) <;> cases hwj : Region.wanted oj (yielded ops a.tmps) <;> simp only [hwi, hwj, if_true, Bool.false_eq_true, if_false] at h ⊢
  · rw [← cm]; exact h
  · cases hdj : dem j <;> simp only [hdj, if_true, Bool.false_eq_true, if_false] at h ⊢
    · obtain ⟨v, A, k⟩ := h; exact ⟨v, A, by rw [← cm]; exact k⟩
    · exact ⟨h.1, fun u hu => by rw [← cm]; exact h.2 u hu⟩
  · cases hdi : dem i <;> simp only [hdi, if_true, Bool.false_eq_true, if_false] at h ⊢
    · obtain ⟨v, A, k⟩ := h; exact ⟨v, A, by rw [← cm]; exact k⟩
    · exact ⟨h.1, fun u hu => by rw [← cm]; exact h.2 u hu⟩
  · cases hdi : dem i <;> cases hdj : dem j <;> simp only [hdi, hdj, if_true, Bool.false_eq_true, if_false] at h ⊢
    · obtain ⟨v, A, v', A', k⟩ := h; exact ⟨v', A', v, A, by rw [← cm]; exact k⟩
    · obtain ⟨v, A, A', k⟩ := h; exact ⟨A', fun u hu => ⟨v, A, by rw [← cm]; exact k u hu⟩⟩
    · obtain ⟨A, k⟩ := h
      obtain ⟨u0, hu0⟩ := hS i
      obtain ⟨v, A', -⟩ := k u0 hu0
      refine ⟨v, A', A, fun u hu => ?_⟩
      obtain ⟨v', A'', k'⟩ := k u hu
      rw [readUpon_unique (A' w0 hw0) (A'' w0 hw0), ← cm]
      exact k'
    · obtain ⟨A, k⟩ := h
      obtain ⟨u0, hu0⟩ := hS i
      exact ⟨fun w hw hd => (k u0 hu0).1 w hw (fun q hq => by rw [upd_ne (show ¬ q = i from fun e => hij (by rw [← e]; exact hq))]; exact hd q hq), fun uj huj => ⟨fun w hw hd => A w hw (fun q hq => by have := hd q hq; rwa [upd_ne (show ¬ q = j from fun e => hji (by rw [← e]; exact hq))] at this), fun ui hui => by rw [← cm, ← upd_comm F _ _ hne]; exact (k ui hui).2 uj huj⟩⟩

def wpHeadM (P : Program) (md : Region.Mode) (ops : Array Oper) (C : World → Prop) (dem : Nat → Bool) (V : Nat → List Value → Value → World → Prop) (Sh : Nat → Value → Prop) (dep : Nat → List Nat) (n : Nat) (L : Array Bool → Act → (Nat → World → Prop) → Prop) : Nat → Array Bool → Act → (Nat → World → Prop) → Prop
  | 0, listed, a, F => L listed a F
  | f + 1, listed, a, F => Region.ready md ops listed ≠ [] ∧ ∀ i ∈ Region.ready md ops listed, i < n ∧ mOp P ops C dem V Sh dep i (wpHeadM P md ops C dem V Sh dep n L f (listed.setIfInBounds i true)) a F

theorem wpHeadM_up {n : Nat} {L : Array Bool → Act → (Nat → World → Prop) → Prop} (hL : ∀ listed a F F', (∀ k w, F' k w → F k w) → L listed a F → L listed a F') :
    ∀ (f : Nat) (listed : Array Bool) (a : Act) (F F' : Nat → World → Prop), (∀ k w, F' k w → F k w) → wpHeadM P md ops C dem V Sh dep n L f listed a F → wpHeadM P md ops C dem V Sh dep n L f listed a F'
  | 0, _, _, _, _, hF, h => hL _ _ _ _ hF h
  | f + 1, _, _, _, _, hF, h => ⟨h.1, fun i hi => ⟨(h.2 i hi).1, mOp_up (fun _ _ _ hF' => wpHeadM_up hL f _ _ _ _ hF') hF (h.2 i hi).2⟩⟩

theorem wpHeadM_first {n i : Nat} {oi : Oper} {L : Array Bool → Act → (Nat → World → Prop) → Prop} (hL : ∀ listed a F F', (∀ k w, F' k w → F k w) → L listed a F → L listed a F') (hi : ops[i]? = some oi) (hsel : ∀ (j : Nat) (o : Oper) cs b, ops[j]? = some o → o.op ≠ .select cs b)
    (hs : Region.sinkB md ops n = true) (hc : Region.chainB md ops n = true) (hn : n < ops.size) (hin : i < n) (hC : ∃ w, C w) (hS : ∀ i, ∃ u, Sh i u) (hdep : ∀ (j : Nat) (oj : Oper) (k : Nat), ops[j]? = some oj → k ∈ dep j → ∃ e ∈ oj.after, Region.binds md e = true ∧ e.on = k)
    (hdone : ∀ listed a F, L listed a F → ∀ j ∈ Region.ready md ops listed, n ≤ j) :
    ∀ (f : Nat) (listed : Array Bool) (a : Act) (F : Nat → World → Prop), HeadInv md ops n listed → FreeOf md ops i oi listed → i ∈ Region.ready md ops listed →
      mOp P ops C dem V Sh dep i (wpHeadM P md ops C dem V Sh dep n L f (listed.setIfInBounds i true)) a F → wpHeadM P md ops C dem V Sh dep n L (f + 1) listed a F
  | f, listed, a, F, inv, hfree, hr, H => by
    refine ⟨List.ne_nil_of_mem hr, fun j hj => ?_⟩
    have hjn := ready_lt hs hc hn inv hin hr hj
    refine ⟨hjn, ?_⟩
    by_cases hji : j = i
    · subst hji; exact H
    · have hj2 := ready_mono hj hji
      match f, H with
      | 0, H => obtain ⟨a', F', h'⟩ := mOp_some hS H; exact absurd (hdone _ _ _ h' j hj2) (Nat.not_le_of_lt hjn)
      | f + 1, H =>
        obtain ⟨hjun, oj, hoj, _⟩ := mem_ready.1 hj
        have H' : mOp P ops C dem V Sh dep i (mOp P ops C dem V Sh dep j (wpHeadM P md ops C dem V Sh dep n L f ((listed.setIfInBounds i true).setIfInBounds j true))) a F := mOp_mono (fun a' F' h => (h.2 j hj2).2) H
        have H2 := mOp_comm (K := wpHeadM P md ops C dem V Sh dep n L f ((listed.setIfInBounds i true).setIfInBounds j true)) hi hoj (hfree j oj hoj hji hjun (ready_apart hr hj hoj)) (fun cs b => hsel i oi cs b hi) (fun cs b => hsel j oj cs b hoj) hC hS (fun e => hji e.symm) (fun hk => by obtain ⟨e, he, hb, ho⟩ := hdep j oj i hoj hk; exact ready_apart hr hj hoj e he hb ho) (fun hk => by obtain ⟨e, he, hb, ho⟩ := hdep i oi j hi hk; exact ready_apart hj hr hi e he hb ho) (fun _ _ _ hF => wpHeadM_up hL f _ _ _ _ hF) H'
        refine mOp_mono (fun a' F' h => ?_) H2
        refine wpHeadM_first hL hi hsel hs hc hn hin hC hS hdep hdone f _ a' F' (inv.set hj hjn) (hfree.later hjun) (ready_mono hr (Ne.symm hji)) ?_
        rwa [Array.setIfInBounds_comm _ _ hji]

/-- the operations in the text's order, the first of them bearing the number k -/
def wpM (P : Program) (ops : Array Oper) (C : World → Prop) (dem : Nat → Bool) (V : Nat → List Value → Value → World → Prop) (Sh : Nat → Value → Prop) (dep : Nat → List Nat) (Lq : Act → (Nat → World → Prop) → Prop) : List Oper → Nat → Act → (Nat → World → Prop) → Prop
  | [], _, a, F => Lq a F
  | _ :: l, k, a, F => mOp P ops C dem V Sh dep k (wpM P ops C dem V Sh dep Lq l (k + 1)) a F

theorem wpHeadM_lex {n g : Nat} {Lq : Act → (Nat → World → Prop) → Prop} (hLq : ∀ a F F', (∀ k w, F' k w → F k w) → Lq a F → Lq a F') (hsel : Region.noSelect ops = true) (hs : Region.sinkB md ops n = true) (hc : Region.chainB md ops n = true) (hn : n < ops.size) (hC : ∃ w, C w) (hS : ∀ i, ∃ u, Sh i u) (hdep : ∀ (j : Nat) (oj : Oper) (k : Nat), ops[j]? = some oj → k ∈ dep j → ∃ e ∈ oj.after, Region.binds md e = true ∧ e.on = k) :
    ∀ (l : List Oper) (k : Nat) (listed : Array Bool) (a : Act) (F : Nat → World → Prop), (∀ j, j < l.length → l[j]? = ops[k + j]?) → HeadInv md ops n listed →
    Region.lexAl md ops g n l.length k listed = true → wpM P ops C dem V Sh dep Lq l k a F →
    wpHeadM P md ops C dem V Sh dep n (fun listed' a' F' => Region.seqB md ops g n listed' = true ∧ Lq a' F') l.length listed a F
  | [], k, listed, a, F, _, _, hB, h => ⟨by simpa [Region.lexAl] using hB, h⟩
  | o :: l, k, listed, a, F, hl, inv, hB, h => by
    have h0 : ops[k]? = some o := (hl 0 (Nat.zero_lt_succ _)).symm
    simp only [List.length_cons, Region.lexAl, Bool.and_eq_true, decide_eq_true_eq] at hB
    obtain ⟨⟨⟨hr, hf⟩, hkn⟩, hB'⟩ := hB
    have hr' : k ∈ Region.ready md ops listed := by simpa using hr
    refine wpHeadM_first (fun _ _ _ _ hF h => ⟨h.1, hLq _ _ _ hF h.2⟩) h0 (Region.noSelect_spec hsel) hs hc hn hkn hC hS hdep (fun _ _ _ hL => seqB_ready hL.1) l.length listed a F inv (Region.free_spec h0 hf) hr' ?_
    refine mOp_mono (fun a' F' h' => ?_) h
    refine wpHeadM_lex hLq hsel hs hc hn hC hS hdep l (k + 1) _ _ _ (fun j hj => ?_) (inv.set hr' hkn) hB' h'
    have := hl (j + 1) (Nat.succ_lt_succ hj)
    rwa [show k + (j + 1) = k + 1 + j by omega] at this

theorem wpOp_of_mOp {i : Nat} {a : Act} {F : Nat → World → Prop} {K : Act → (Nat → World → Prop) → Prop} {K' : Act → World → Prop} {Q' : Exit → Act → World → Prop} {w : World} (hCu : UpF C) (hVu : ∀ i xs u, UpF (V i xs u)) (hF : ∀ k, UpF (F k)) (hC : C w) (hFw : ∀ k, F k w)
    (h : ∀ a F w', (∀ k, UpF (F k)) → C w' → (∀ k, F k w') → K a F → K' a w') (hh : mOp P ops C dem V Sh dep i K a F) : wpOp P ops Q' i K' a w := by
  unfold mOp at hh
  unfold wpOp
  split
  · rename_i ho; simp only [ho] at hh; exact h _ _ _ hF hC hFw hh
  · rename_i o ho
    simp only [ho] at hh
    split
    · rename_i hw
      rw [if_pos hw] at hh
      refine .inl ?_
      split at hh
      · obtain ⟨h1, h2⟩ := hh
        have h3 := h1 w hC (fun k _ => hFw k)
        have hup : ∀ u k, UpF (upd F i (V i (oVals o a) u) k) := fun u k => by
          unfold upd; split
          · exact hVu i _ u
          · exact hF k
        have hfa : ∀ u w', Below w.heap.size w w' → V i (oVals o a) u w' → ∀ k, upd F i (V i (oVals o a) u) k w' := fun u w' hb hv k => by
          unfold upd; split
          · exact hv
          · exact hF k _ _ (hFw k) hb
        clear h1
        unfold Oper.wp
        generalize (execOp a.eval o).run P w = r at *
        unfold demUpon at h3
        split at h3
        · simp only [Oper.upon]
          exact h _ _ _ (hup _) (hCu _ _ hC h3.2.1) (hfa _ _ h3.2.1 h3.2.2) (h2 _ h3.1)
        · obtain ⟨e1, hc⟩ := h3
          simp only [Oper.upon]
          rw [e1]
          refine hc.mono fun e w'' he => ?_
          obtain ⟨u, he, hs, hb, hv⟩ := he
          subst he
          exact h _ _ _ (hup u) (hCu _ _ hC hb) (hfa u _ hb hv) (h2 u hs)
        · exact h3.elim
      · obtain ⟨v, h1, h2⟩ := hh
        have h3 := h1 w hC
        unfold Oper.wp
        generalize (execOp a.eval o).run P w = r at *
        unfold readUpon at h3
        split at h3
        · obtain ⟨e1, e2⟩ := h3
          simp only [Oper.upon]
          rw [e1, e2]
          exact h _ _ _ hF hC hFw h2
        · obtain ⟨e1, e2⟩ := h3
          simp only [Oper.upon]
          rw [e1, ← e2]
          exact h _ _ _ hF hC hFw h2
        · exact h3.elim
    · rename_i hw; rw [if_neg hw] at hh; exact h _ _ _ hF hC hFw hh

theorem wpAny_of_headM {n g : Nat} {L : Array Bool → Act → (Nat → World → Prop) → Prop} {Q' : Exit → Act → World → Prop} (hCu : UpF C) (hVu : ∀ i xs u, UpF (V i xs u)) (hL : ∀ listed a F w, C w → (∀ k, F k w) → L listed a F → wpAny P md ops Q' g listed a w) :
    ∀ (f : Nat) (listed : Array Bool) (a : Act) (F : Nat → World → Prop) (w : World), (∀ k, UpF (F k)) → C w → (∀ k, F k w) → wpHeadM P md ops C dem V Sh dep n L f listed a F → wpAny P md ops Q' (f + g) listed a w
  | 0, listed, a, F, w, _, hw, hF, h => by rw [Nat.zero_add]; exact hL _ _ _ _ hw hF h
  | f + 1, listed, a, F, w, hu, hw, hF, h => by
    rw [show f + 1 + g = (f + g) + 1 by omega]
    exact ⟨fun h0 => absurd h0 h.1, fun i hi => wpOp_of_mOp hCu hVu hu hw hF (fun a' F' w' hu' hw' hF' h' => wpAny_of_headM hCu hVu hL f _ a' F' w' hu' hw' hF' h') (h.2 i hi).2⟩

/-- A REGION THAT DRAWS ITS ORDER, some of whose operations (dem) are known by a fact alone. -/
theorem wp_region_multi {id : Nat} {Q : Exit → Act → World → Prop} {a : Act} {w : World} {l : List Oper} (n : Nat) (dem : Nat → Bool) (V : Nat → List Value → Value → World → Prop) (Sh : Nat → Value → Prop) (dep : Nat → List Nat) (hm : P.follows .mixedOrders = true) (hB : Region.tailB .any l.toArray n = true) (hD : ((List.range l.length).all fun j => (dep j).all fun k => Region.waitsFor .any l.toArray j k) = true)
    (hVu : ∀ i xs u, UpF (V i xs u)) (hS : ∀ i, ∃ u, Sh i u)
    (h : wpM P l.toArray (Grew w) dem V Sh dep (fun a' F => ∀ w', Below w.heap.size w w' → (∀ k, F k w') → wpList P l.toArray Q (l.drop n) a' w') (l.take n) 0 a (fun _ _ => True)) : (Code.region id l.toArray true).wp P Q a w := by
  simp only [Region.tailB, Bool.and_eq_true, decide_eq_true_eq] at hB
  obtain ⟨⟨⟨⟨hsel, hn⟩, hs⟩, hc⟩, hlex⟩ := hB
  have hlen : (l.take n).length = n := List.length_take_of_le (Nat.le_of_lt (by simpa using hn))
  have hrest : (l.drop n).length = l.toArray.size - n := by simp
  have hdep : ∀ (j : Nat) (oj : Oper) (k : Nat), l.toArray[j]? = some oj → k ∈ dep j → ∃ e ∈ oj.after, Region.binds .any e = true ∧ e.on = k := fun j oj k hj hk => by
    have hjl : j < l.length := by simpa using (Array.getElem?_eq_some_iff.1 hj).1
    have h1 := List.all_eq_true.1 (List.all_eq_true.1 hD j (List.mem_range.2 hjl)) k hk
    obtain ⟨oj', hj', e, he, hb, ho⟩ := Region.waitsFor_spec h1
    cases hj.symm.trans hj'
    exact ⟨e, he, hb, ho⟩
  have hC0 : Grew w { w with drawn := w.drawn + 1 } := ⟨⟨w.drawn + 1, #[]⟩, by rw [grow_empty]; rfl⟩
  have H := wpHeadM_lex (md := .any) (g := l.toArray.size - n) (fun _ _ _ hF h w' hb hf => h w' hb (fun k => hF k _ (hf k))) hsel hs hc hn ⟨_, hC0⟩ hS hdep (l.take n) 0 _ a _ (fun j hj => by rw [hlen] at hj; simp [hj]) (headInv_none _ _ n) (by rw [hlen]; exact hlex) h
  rw [hlen] at H
  refine wp_region_any hm ?_
  have K := wpAny_of_headM (Q' := Q) (g := l.toArray.size - n) (grew_up w) hVu (fun listed a' F w' hw' hF' hL => ?_) _ _ _ _ _ (fun _ _ _ _ _ => trivial) hC0 (fun _ => trivial) H
  · rwa [Nat.add_sub_cancel' (Nat.le_of_lt hn)] at K
  · rw [← hrest]
    obtain ⟨p, rfl⟩ := hw'
    exact wpAny_of_seq (l.drop n) n listed a' _ (fun j => by simp [List.getElem?_drop]) (by rw [hrest]; exact hL.1) (hL.2 _ (below_regrown w p.d p.os) hF')

theorem mOp_of_quiet {i : Nat} {o : Oper} {a : Act} {F : Nat → World → Prop} {K : Act → (Nat → World → Prop) → Prop} (hi : ops[i]? = some o) (hp : plainOp o.op = true) (hd : dem i = false)
    (h : if Region.wanted o (yielded ops a.tmps) then o.quiet P a C (fun a' => K a' F) else K (a.put o.dst undef) F) : mOp P ops C dem V Sh dep i K a F := by
  unfold mOp
  simp only [hi, hd]
  split
  · rename_i hw
    rw [if_pos hw] at h
    obtain ⟨v, h1, h2⟩ := h
    refine ⟨v, fun w hC => ?_, h2⟩
    have h3 := h1 w hC
    unfold Oper.quietAt at h3
    have hne := plain_no_enter (P := P) hp a.eval w
    generalize (execOp a.eval o).run P w = r at *
    unfold Oper.quietUpon at h3
    split at h3
    · exact h3
    · exact h3
    · exact absurd rfl (hne _ _ _)
    · exact h3.elim
  · rename_i hw; rw [if_neg hw] at h; exact h
/-- a stretch of operations that only read -/
theorem wpM_quiet {Lq : Act → (Nat → World → Prop) → Prop} {F : Nat → World → Prop} : ∀ (l rest : List Oper) (k : Nat) (a : Act), (∀ j, j < l.length → l[j]? = ops[k + j]?) → (∀ o ∈ l, plainOp o.op = true) → (∀ j, j < l.length → dem (k + j) = false) →
    wpQuiet P ops C (fun a' => wpM P ops C dem V Sh dep Lq rest (k + l.length) a' F) l a → wpM P ops C dem V Sh dep Lq (l ++ rest) k a F
  | [], _, _, _, _, _, _, h => h
  | o :: l, rest, k, a, hl, hp, hd, h => by
    refine mOp_of_quiet (hl 0 (Nat.zero_lt_succ _)).symm (hp o List.mem_cons_self) (hd 0 (Nat.zero_lt_succ _)) ?_
    have hn : ∀ a', wpQuiet P ops C (fun a' => wpM P ops C dem V Sh dep Lq rest (k + (o :: l).length) a' F) l a' → wpM P ops C dem V Sh dep Lq (l ++ rest) (k + 1) a' F := fun a' h' => by
      refine wpM_quiet l rest (k + 1) a' (fun j hj => ?_) (fun o' ho' => hp o' (List.mem_cons_of_mem _ ho')) (fun j hj => ?_) ?_
      · have := hl (j + 1) (Nat.succ_lt_succ hj)
        rwa [show k + (j + 1) = k + 1 + j by omega] at this
      · have := hd (j + 1) (Nat.succ_lt_succ hj)
        rwa [show k + (j + 1) = k + 1 + j by omega] at this
      · rwa [show k + (o :: l).length = k + 1 + l.length by simp; omega] at h'
    unfold wpQuiet at h
    split
    · rename_i hw; rw [if_pos hw] at h; exact Oper.quiet_mono hn h
    · rename_i hw; rw [if_neg hw] at h; exact hn _ h
/-- the next m operations only read -/
theorem wpM_stretch {Lq : Act → (Nat → World → Prop) → Prop} {F : Nat → World → Prop} {a : Act} {l : List Oper} {k : Nat} (m : Nat) (hm : decide (m ≤ l.length) = true) (ho : l.take m = (ops.toList.drop k).take m) (hp : (l.take m).all (fun o => plainOp o.op) = true) (hd : (List.range m).all (fun j => !dem (k + j)) = true)
    (h : wpQuiet P ops C (fun a' => wpM P ops C dem V Sh dep Lq (l.drop m) (k + m) a' F) (l.take m) a) : wpM P ops C dem V Sh dep Lq l k a F := by
  have hml := of_decide_eq_true hm
  have hlen : (l.take m).length = m := by simp; omega
  have e : l = l.take m ++ l.drop m := (List.take_append_drop m l).symm
  rw [e]
  refine wpM_quiet _ _ k a (fun j hj => ?_) (fun o ho => List.all_eq_true.1 hp o ho) (fun j hj => ?_) ?_
  · rw [hlen] at hj
    rw [ho, List.getElem?_take_of_lt hj, List.getElem?_drop, Array.getElem?_toList]
  · rw [hlen] at hj
    have := List.all_eq_true.1 hd j (List.mem_range.2 hj)
    simpa using this
  · rw [hlen]; exact h
/-- an operation of which a fact is known -/
theorem wpM_dem {Lq : Act → (Nat → World → Prop) → Prop} {F : Nat → World → Prop} {o : Oper} {a : Act} {l : List Oper} {k : Nat} (hk : ops[k]? = some o) (hd : dem k = true) (hw : Region.wanted o (yielded ops a.tmps) = true)
    (h1 : ∀ w, C w → (∀ j ∈ dep k, F j w) → demUpon P (V k (oVals o a)) (Sh k) w ((execOp a.eval o).run P w)) (h2 : ∀ u, Sh k u → wpM P ops C dem V Sh dep Lq l (k + 1) (a.put o.dst u) (upd F k (V k (oVals o a) u))) : wpM P ops C dem V Sh dep Lq (o :: l) k a F := by
  show mOp _ _ _ _ _ _ _ _ _ _ _
  unfold mOp
  simp only [hk, hd, hw, if_true]
  exact ⟨h1, h2⟩
/-- an operation whose guard bars it -/
theorem wpM_skip {Lq : Act → (Nat → World → Prop) → Prop} {F : Nat → World → Prop} {o : Oper} {a : Act} {l : List Oper} {k : Nat} (hk : ops[k]? = some o) (hw : Region.wanted o (yielded ops a.tmps) = false)
    (h : wpM P ops C dem V Sh dep Lq l (k + 1) (a.put o.dst undef) F) : wpM P ops C dem V Sh dep Lq (o :: l) k a F := by
  show mOp _ _ _ _ _ _ _ _ _ _ _
  unfold mOp
  simp only [hk, hw, Bool.false_eq_true, if_false]
  exact h
theorem wpM_end {Lq : Act → (Nat → World → Prop) → Prop} {F : Nat → World → Prop} {a : Act} {k : Nat} (h : Lq a F) : wpM P ops C dem V Sh dep Lq [] k a F := h
end
end Go.Proofs.LawFrame.Dep
