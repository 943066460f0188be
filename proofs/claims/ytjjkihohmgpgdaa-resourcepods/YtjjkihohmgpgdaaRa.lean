/- OF NO PROGRAM: a region that draws its order, whose head also makes new variables ('alloc') in no fixed order with its calls: the new blocks' numbers are left open, all else is walked once. Conditions: the closed looks at the region's edges hold. -/
import Derived.Test.YtjjkihohmgpgdaaRg
import Derived.Test.YtjjkihohmgpgdaaOw
namespace Go.Proofs.LawFrame
open Go.Sort Go.RowKit

/-- one new variable of a region's head: the operation's number, its slot, the zero cells, their type -/
structure Al where
  idx : Nat
  d : Tmp
  zs : List Value
  t : TypeId

def Cl (W : World) : World → Prop := fun w' => ∃ p : Regrown, w' = grow (redrawn W p.d) p.os
theorem Cl.self (W : World) : Cl W W := ⟨⟨W.drawn, #[]⟩, by rw [grow_empty]; rfl⟩
theorem Cl.below {W w : World} (h : Cl W w) : Below W.heap.size W w := by obtain ⟨p, rfl⟩ := h; exact below_regrown W p.d p.os

/-- the frame with the new variables' addresses in it, those that are listed -/
def putAl (listed : Array Bool) (bs : Nat → Nat) : List Al → Act → Act
  | [], a => a
  | x :: al, a => putAl listed bs al (if listed.getD x.idx false = true then a.put (some x.d) (.pointer (some ⟨bs x.idx, 0, none⟩)) else a)
def putAll (bs : Nat → Nat) : List Al → Act → Act
  | [], a => a
  | x :: al, a => putAll bs al (a.put (some x.d) (.pointer (some ⟨bs x.idx, 0, none⟩)))

theorem putAl_put (listed : Array Bool) (bs : Nat → Nat) (dst : Option Tmp) (v : Value) : ∀ (al : List Al) (a : Act), (∀ x ∈ al, dst ≠ some x.d) → putAl listed bs al (a.put dst v) = (putAl listed bs al a).put dst v
  | [], _, _ => rfl
  | x :: al, a, h => by
    have hx := h x List.mem_cons_self
    simp only [putAl]
    split
    · rw [Act.put_comm a v _ (fun d hd hd' => hx (by rw [hd]; exact hd'.symm))]
      exact putAl_put listed bs dst v al _ (fun y hy => h y (List.mem_cons_of_mem _ hy))
    · exact putAl_put listed bs dst v al _ (fun y hy => h y (List.mem_cons_of_mem _ hy))

theorem putAl_all (bs : Nat → Nat) : ∀ (al : List Al) (listed : Array Bool) (a : Act), (∀ x ∈ al, listed.getD x.idx false = true) → putAl listed bs al a = putAll bs al a
  | [], _, _, _ => rfl
  | x :: al, listed, a, h => by
    simp only [putAl, putAll]
    rw [if_pos (h x List.mem_cons_self)]
    exact putAl_all bs al listed _ (fun y hy => h y (List.mem_cons_of_mem _ hy))

theorem putAl_none (bs : Nat → Nat) : ∀ (al : List Al) (listed : Array Bool) (a : Act), (∀ x ∈ al, listed.getD x.idx false = false) → putAl listed bs al a = a
  | [], _, _, _ => rfl
  | x :: al, listed, a, h => by
    simp only [putAl]
    rw [if_neg (by rw [h x List.mem_cons_self]; exact Bool.false_ne_true)]
    exact putAl_none bs al listed _ (fun y hy => h y (List.mem_cons_of_mem _ hy))

theorem putAl_other (bs : Nat → Nat) (i b : Nat) : ∀ (al : List Al) (listed : Array Bool) (a : Act), (∀ x ∈ al, x.idx ≠ i) →
    putAl (listed.setIfInBounds i true) (fun j => if j = i then b else bs j) al a = putAl listed bs al a
  | [], _, _, _ => rfl
  | x :: al, listed, a, h => by
    have hx := h x List.mem_cons_self
    simp only [putAl]
    rw [getD_set_ne false (Ne.symm hx), if_neg hx]
    exact putAl_other bs i b al listed _ (fun y hy => h y (List.mem_cons_of_mem _ hy))

theorem putAl_new (bs : Nat → Nat) (b : Nat) : ∀ (al : List Al) (listed : Array Bool) (a : Act) (x : Al), x ∈ al → (al.map Al.idx).Nodup → (al.map Al.d).Nodup → x.idx < listed.size → listed.getD x.idx false = false →
    putAl (listed.setIfInBounds x.idx true) (fun j => if j = x.idx then b else bs j) al a = (putAl listed bs al a).put (some x.d) (.pointer (some ⟨b, 0, none⟩))
  | [], _, _, _, hx, _, _, _, _ => by cases hx
  | y :: al, listed, a, x, hx, hn, hd, hlt, hl => by
    simp only [List.map_cons, List.nodup_cons] at hn hd
    rcases List.mem_cons.1 hx with rfl | hx'
    · simp only [putAl]
      rw [if_pos (show (listed.setIfInBounds x.idx true).getD x.idx false = true by simp [hlt]), if_pos trivial, if_neg (show ¬ listed.getD x.idx false = true by rw [hl]; exact Bool.false_ne_true), putAl_other bs x.idx b al listed _ (fun z hz e => hn.1 (List.mem_map.2 ⟨z, hz, e⟩))]
      exact putAl_put listed bs _ _ al a (fun z hz e => hd.1 (List.mem_map.2 ⟨z, hz, by injection e with e; exact e.symm⟩))
    · have hne : y.idx ≠ x.idx := fun e => hn.1 (List.mem_map.2 ⟨x, hx', e.symm⟩)
      simp only [putAl]
      rw [getD_set_ne false (Ne.symm hne), if_neg hne]
      exact putAl_new bs b al listed _ x hx' hn.2 hd.2 hlt hl

/-- all new variables marked as listed -/
def star (al : List Al) (listed : Array Bool) : Array Bool := al.foldl (fun l x => l.setIfInBounds x.idx true) listed

theorem star_size : ∀ (al : List Al) (listed : Array Bool), (star al listed).size = listed.size
  | [], _ => rfl
  | x :: al, listed => by
    show (star al (listed.setIfInBounds x.idx true)).size = _
    rw [star_size al]; simp
theorem star_ne (d : Bool) {j : Nat} : ∀ (al : List Al) (listed : Array Bool), (∀ x ∈ al, x.idx ≠ j) → (star al listed).getD j d = listed.getD j d
  | [], _, _ => rfl
  | x :: al, listed, h => by
    show (star al (listed.setIfInBounds x.idx true)).getD j d = _
    rw [star_ne d al _ (fun y hy => h y (List.mem_cons_of_mem _ hy)), getD_set_ne d (h x List.mem_cons_self)]
theorem star_mono {j : Nat} : ∀ (al : List Al) (listed : Array Bool), listed.getD j false = true → (star al listed).getD j false = true
  | [], _, h => h
  | x :: al, listed, h => star_mono al (listed.setIfInBounds x.idx true) (getD_set_true h)
theorem set_same {listed : Array Bool} {i : Nat} (h : listed.getD i false = true) : listed.setIfInBounds i true = listed := by
  apply Array.ext_getElem?
  intro k
  by_cases hk : i = k
  · subst hk
    rcases Nat.lt_or_ge i listed.size with h' | h'
    · simp [h'] at h ⊢; exact h
    · simp [Array.getElem?_eq_none h'] at h
  · rw [Array.getElem?_setIfInBounds_ne hk]
theorem star_id : ∀ (al : List Al) (listed : Array Bool), (∀ x ∈ al, listed.getD x.idx false = true) → star al listed = listed
  | [], _, _ => rfl
  | x :: al, listed, h => by
    show star al (listed.setIfInBounds x.idx true) = _
    rw [set_same (h x List.mem_cons_self)]
    exact star_id al listed (fun y hy => h y (List.mem_cons_of_mem _ hy))
theorem star_set_comm (i : Nat) : ∀ (al : List Al) (listed : Array Bool), star al (listed.setIfInBounds i true) = (star al listed).setIfInBounds i true
  | [], _ => rfl
  | x :: al, listed => by
    show star al ((listed.setIfInBounds i true).setIfInBounds x.idx true) = (star al (listed.setIfInBounds x.idx true)).setIfInBounds i true
    by_cases h : i = x.idx
    · subst h
      rw [← star_set_comm x.idx al (listed.setIfInBounds x.idx true)]
    · rw [Array.setIfInBounds_comm _ _ h]
      exact star_set_comm i al _
theorem star_in {x : Al} : ∀ (al : List Al) (listed : Array Bool), x ∈ al → x.idx < listed.size → (star al listed).getD x.idx false = true
  | [], _, h, _ => by cases h
  | y :: al, listed, h, hlt => by
    show (star al (listed.setIfInBounds y.idx true)).getD x.idx false = true
    rcases List.mem_cons.1 h with rfl | h'
    · exact star_mono al _ (by simp [hlt])
    · exact star_in al _ h' (by simpa using hlt)
theorem star_set {al : List Al} {listed : Array Bool} {x : Al} (hx : x ∈ al) (hlt : x.idx < listed.size) : star al (listed.setIfInBounds x.idx true) = star al listed := by
  rw [star_set_comm]
  exact set_same (star_in al listed hx hlt)

theorem idx_inj : ∀ (al : List Al), (al.map Al.idx).Nodup → ∀ {x y : Al}, x ∈ al → y ∈ al → x.idx = y.idx → x = y
  | [], _, _, _, h, _, _ => by cases h
  | z :: al, hn, x, y, hx, hy, e => by
    simp only [List.map_cons, List.nodup_cons] at hn
    rcases List.mem_cons.1 hx with rfl | hx' <;> rcases List.mem_cons.1 hy with rfl | hy'
    · rfl
    · exact absurd (List.mem_map.2 ⟨y, hy', e.symm⟩) hn.1
    · exact absurd (List.mem_map.2 ⟨x, hx', e⟩) hn.1
    · exact idx_inj al hn.2 hx' hy' e

def left (al : List Al) (listed : Array Bool) : Nat := al.countP (fun x => !listed.getD x.idx false)
theorem left_set_other {i : Nat} : ∀ (al : List Al) (listed : Array Bool), (∀ x ∈ al, x.idx ≠ i) → left al (listed.setIfInBounds i true) = left al listed
  | [], _, _ => rfl
  | x :: al, listed, h => by
    have ih := left_set_other al listed (fun y hy => h y (List.mem_cons_of_mem _ hy))
    unfold left at *
    rw [List.countP_cons, List.countP_cons, ih, getD_set_ne false (Ne.symm (h x List.mem_cons_self))]
theorem left_set : ∀ (al : List Al) (listed : Array Bool) (x : Al), x ∈ al → (al.map Al.idx).Nodup → x.idx < listed.size → listed.getD x.idx false = false → left al listed = left al (listed.setIfInBounds x.idx true) + 1
  | [], _, _, h, _, _, _ => by cases h
  | y :: al, listed, x, hx, hn, hlt, hl => by
    simp only [List.map_cons, List.nodup_cons] at hn
    rcases List.mem_cons.1 hx with rfl | hx'
    · have := left_set_other (i := x.idx) al listed (fun z hz e => hn.1 (List.mem_map.2 ⟨z, hz, e⟩))
      unfold left at *
      rw [List.countP_cons, List.countP_cons, this, hl]
      simp [hlt]
    · have ih := left_set al listed x hx' hn.2 hlt hl
      unfold left at *
      rw [List.countP_cons, List.countP_cons, ih, getD_set_ne false (fun e => hn.1 (List.mem_map.2 ⟨x, hx', e⟩))]
      omega
theorem left_zero {al : List Al} {listed : Array Bool} (h : left al listed = 0) : ∀ x ∈ al, listed.getD x.idx false = true := by
  intro x hx
  have := List.countP_eq_zero.1 h x hx
  simpa using this
theorem left_pos {al : List Al} {listed : Array Bool} (h : left al listed ≠ 0) : ∃ x ∈ al, listed.getD x.idx false = false := by
  have := List.countP_pos_iff.1 (Nat.pos_of_ne_zero h)
  obtain ⟨x, hx, hl⟩ := this
  exact ⟨x, hx, by simpa using hl⟩

section
variable {P : Program} {ops : Array Oper} {md : Region.Mode}

/-- the walk from here on, in whatever later world it begins, ends in the frame aEnd -/
def Fam (P : Program) (md : Region.Mode) (ops : Array Oper) (w0 : World) (n g : Nat) (aEnd : Act) (f : Nat) (listed : Array Bool) (a : Act) : Prop :=
  ∀ W, Below w0.heap.size w0 W → wpHeadQ P md ops (Cl W) n (fun listed' a' => Region.seqB md ops g n listed' = true ∧ a' = aEnd) f listed a

/-- what a slot holds that nothing listed later writes -/
theorem slot_kept {C : World → Prop} {n g : Nat} {aEnd : Act} {d : Tmp} : ∀ (f : Nat) (listed : Array Bool) (a : Act), (∀ j oj, ops[j]? = some oj → j < n → listed.getD j true = false → oj.dst ≠ some d) →
    wpHeadQ P md ops C n (fun listed' a' => Region.seqB md ops g n listed' = true ∧ a' = aEnd) f listed a → a.tmps[d]? = aEnd.tmps[d]?
  | 0, _, _, _, h => by rw [h.2]
  | f + 1, listed, a, hd, h => by
    obtain ⟨h1, h2⟩ := h
    obtain ⟨i, hi⟩ := List.exists_mem_of_ne_nil _ h1
    obtain ⟨hin, hq⟩ := h2 i hi
    obtain ⟨hun, oi, hoi, _⟩ := mem_ready.1 hi
    obtain ⟨v, _, hK⟩ := yieldsIn_of_qOp hoi hq
    have hk := slot_kept f _ _ (fun j oj hj hjn hl => by
      by_cases e : i = j
      · subst e
        have : i < listed.size := by
          rcases Nat.lt_or_ge i listed.size with h' | h'
          · exact h'
          · simp [Array.getElem?_eq_none h'] at hun
        simp [this] at hl
      · rw [getD_set_ne true e] at hl; exact hd j oj hj hjn hl) hK
    rw [← hk]
    have hne := hd i oi hoi hin hun
    cases hdst : oi.dst with
    | none => rfl
    | some d' =>
      rw [hdst] at hne
      show a.tmps[d]? = (a.tmps.setIfInBounds d' v)[d]?
      rw [Array.getElem?_setIfInBounds_ne (fun e => hne (by rw [e]))]

/-- of two operations of the head only one writes a slot -/
def Region.soleB (ops : Array Oper) (n : Nat) : Bool :=
  (List.range n).all fun i => (List.range n).all fun j => i == j || match (ops[i]?).bind (·.dst), (ops[j]?).bind (·.dst) with
    | some d, some e => d != e
    | _, _ => true
theorem Region.sole_spec {n i j : Nat} {oi oj : Oper} {d : Tmp} (h : Region.soleB ops n = true) (hi : i < n) (hj : j < n) (hne : i ≠ j) (hoi : ops[i]? = some oi) (hoj : ops[j]? = some oj) (hd : oi.dst = some d) : oj.dst ≠ some d := by
  intro he
  have h1 := List.all_eq_true.1 (List.all_eq_true.1 h i (List.mem_range.2 hi)) j (List.mem_range.2 hj)
  simp [hoi, hoj, hd, he, hne] at h1

theorem fam_step {w0 : World} {n g : Nat} {aEnd : Act} {f i : Nat} {oi : Oper} {listed : Array Bool} {a : Act} (hsole : Region.soleB ops n = true) (hoi : ops[i]? = some oi) (hi : i ∈ Region.ready md ops listed)
    (h : Fam P md ops w0 n g aEnd (f + 1) listed a) :
    ∃ a', Fam P md ops w0 n g aEnd f (listed.setIfInBounds i true) a' ∧ ∀ W, Below w0.heap.size w0 W → ∃ v, YieldsIn P ops (Cl W) oi v a ∧ a.put oi.dst v = a' := by
  have hstep : ∀ W, Below w0.heap.size w0 W → i < n ∧ ∃ v, YieldsIn P ops (Cl W) oi v a ∧ wpHeadQ P md ops (Cl W) n (fun listed' a' => Region.seqB md ops g n listed' = true ∧ a' = aEnd) f (listed.setIfInBounds i true) (a.put oi.dst v) :=
    fun W hW => by
      obtain ⟨hin, hq⟩ := (h W hW).2 i hi
      exact ⟨hin, yieldsIn_of_qOp hoi hq⟩
  have hun := (mem_ready.1 hi).1
  obtain ⟨hin, v0, _, h0⟩ := hstep w0 (Below.refl _ _)
  have same : ∀ W (hW : Below w0.heap.size w0 W) v, wpHeadQ P md ops (Cl W) n (fun listed' a' => Region.seqB md ops g n listed' = true ∧ a' = aEnd) f (listed.setIfInBounds i true) (a.put oi.dst v) → a.put oi.dst v = a.put oi.dst v0 := by
    intro W _ v hv
    cases hd : oi.dst with
    | none => rfl
    | some d =>
      have hw : ∀ j oj, ops[j]? = some oj → j < n → (listed.setIfInBounds i true).getD j true = false → oj.dst ≠ some d := fun j oj hj hjn hl => by
        by_cases e : i = j
        · subst e
          have : i < listed.size := by
            rcases Nat.lt_or_ge i listed.size with h' | h'
            · exact h'
            · simp [Array.getElem?_eq_none h'] at hun
          simp [this] at hl
        · exact Region.sole_spec hsole hin hjn e hoi hj hd
      have e1 := slot_kept f _ _ hw hv
      have e2 := slot_kept f _ _ hw h0
      rw [hd] at e1 e2
      have e3 : (a.tmps.setIfInBounds d v)[d]? = (a.tmps.setIfInBounds d v0)[d]? := e1.trans e2.symm
      show ({ a with tmps := a.tmps.setIfInBounds d v } : Act) = { a with tmps := a.tmps.setIfInBounds d v0 }
      congr 1
      apply Array.ext_getElem?
      intro k
      by_cases hk : d = k
      · subst hk; exact e3
      · rw [Array.getElem?_setIfInBounds_ne hk, Array.getElem?_setIfInBounds_ne hk]
  refine ⟨a.put oi.dst v0, fun W hW => ?_, fun W hW => ?_⟩
  · obtain ⟨_, v, _, hv⟩ := hstep W hW
    rw [← same W hW v hv]; exact hv
  · obtain ⟨_, v, hy, hv⟩ := hstep W hW
    exact ⟨v, hy, same W hW v hv⟩

/-- what is asked of each new variable's operation -/
structure AlOk (P : Program) (md : Region.Mode) (ops : Array Oper) (n : Nat) (al : List Al) (x : Al) (o : Oper) : Prop where
  at_ : ops[x.idx]? = some o
  lt : x.idx < n
  dst : o.dst = some x.d
  guard : o.guard = none
  alone : ∀ e ∈ o.after, Region.binds md e = false
  run : ∀ (a : Act) (w : World), (execOp a.eval o).run P w = .ok (.value (.pointer (some ⟨w.heap.size, 0, none⟩))) (w.alloc (.cells x.zs.toArray x.t))
  apart : ∀ j oj, ops[j]? = some oj → j < n → (∀ y ∈ al, y.idx ≠ j) → o.apart ops oj = true

theorem putAl_exec {n : Nat} {al : List Al} {oj : Oper} {j : Nat} (hoj : ops[j]? = some oj) (hjn : j < n) (hsel : ∀ cs b, oj.op ≠ .select cs b) (hno : ∀ y ∈ al, y.idx ≠ j) (listed : Array Bool) (bs : Nat → Nat) :
    ∀ (al' : List Al) (a : Act), (∀ x ∈ al', ∃ o, AlOk P md ops n al x o) →
      execOp (putAl listed bs al' a).eval oj = execOp a.eval oj ∧ Region.wanted oj (yielded ops (putAl listed bs al' a).tmps) = Region.wanted oj (yielded ops a.tmps)
  | [], _, _ => ⟨rfl, rfl⟩
  | x :: al', a, h => by
    obtain ⟨o, ho⟩ := h x List.mem_cons_self
    obtain ⟨h1, _, _⟩ := Oper.apart_spec (ho.apart j oj hoj hjn hno)
    have ih := putAl_exec hoj hjn hsel hno listed bs al' (if listed.getD x.idx false = true then a.put (some x.d) (.pointer (some ⟨bs x.idx, 0, none⟩)) else a) (fun y hy => h y (List.mem_cons_of_mem _ hy))
    simp only [putAl]
    rw [ih.1, ih.2]
    split
    · exact ⟨execOp_put oj hsel a (some x.d) _ (fun d hd => h1 d (by rw [ho.dst]; exact hd)), wanted_put oj a (some x.d) _ (fun d hd => h1 d (by rw [ho.dst]; exact hd))⟩
    · exact ⟨rfl, rfl⟩

theorem wpAny_allocs {w0 : World} {n g : Nat} {aEnd : Act} {al : List Al} {Q : Exit → Act → World → Prop} (hsel : Region.noSelect ops = true) (hn : n < ops.size) (hs : Region.sinkB md ops n = true) (hc : Region.chainB md ops n = true) (hsole : Region.soleB ops n = true)
    (hal : ∀ x ∈ al, ∃ o, AlOk P md ops n al x o) (hni : (al.map Al.idx).Nodup) (hnd : (al.map Al.d).Nodup)
    (hT : ∀ (listed : Array Bool) (bs : Nat → Nat) (w : World), Region.seqB md ops g n listed = true → Below w0.heap.size w0 w → (∀ x ∈ al, w0.heap.size ≤ bs x.idx ∧ Own w (bs x.idx) x.zs x.t) →
      (∀ x ∈ al, ∀ y ∈ al, x.idx ≠ y.idx → bs x.idx ≠ bs y.idx) → wpAny P md ops Q g listed (putAll bs al aEnd) w) :
    ∀ (m f : Nat) (listed : Array Bool) (aS : Act) (bs : Nat → Nat) (w : World), m = f + left al listed → HeadInv md ops n listed → Fam P md ops w0 n g aEnd f (star al listed) aS → Below w0.heap.size w0 w →
      (∀ x ∈ al, listed.getD x.idx false = true → w0.heap.size ≤ bs x.idx ∧ Own w (bs x.idx) x.zs x.t) →
      (∀ x ∈ al, ∀ y ∈ al, listed.getD x.idx false = true → listed.getD y.idx false = true → x.idx ≠ y.idx → bs x.idx ≠ bs y.idx) →
      wpAny P md ops Q (m + g) listed (putAl listed bs al aS) w := by
  intro m
  induction m with
  | zero =>
    intro f listed aS bs w hm inv hF hb hown hdis
    obtain ⟨rfl, hl⟩ : f = 0 ∧ left al listed = 0 := by omega
    have hall := left_zero hl
    rw [star_id al listed hall] at hF
    obtain ⟨h1, h2⟩ := hF w0 (Below.refl _ _)
    rw [Nat.zero_add, putAl_all bs al listed aS hall, h2]
    exact hT listed bs w h1 hb (fun x hx => hown x hx (hall x hx)) (fun x hx y hy => hdis x hx y hy (hall x hx) (hall y hy))
  | succ m ih =>
    intro f listed aS bs w hm inv hF hb hown hdis
    rw [show m + 1 + g = (m + g) + 1 by omega]
    have hready : Region.ready md ops listed ≠ [] ∧ ∀ i ∈ Region.ready md ops listed, i < n := by
      by_cases hl : left al listed = 0
      · obtain ⟨f', rfl⟩ : ∃ f', f = f' + 1 := ⟨f - 1, by omega⟩
        rw [star_id al listed (left_zero hl)] at hF
        obtain ⟨h1, h2⟩ := hF w0 (Below.refl _ _)
        exact ⟨h1, fun i hi => (h2 i hi).1⟩
      · obtain ⟨x, hx, hxl⟩ := left_pos hl
        obtain ⟨o, ho⟩ := hal x hx
        have hxs : x.idx < listed.size := by rw [inv.size]; have := ho.lt; omega
        have hmem : x.idx ∈ Region.ready md ops listed := mem_ready.2 ⟨getD_in hxs hxl, o, ho.at_, fun e he hbd => by rw [ho.alone e he] at hbd; cases hbd⟩
        refine ⟨fun h => (by rw [h] at hmem; cases hmem), fun i hi => ?_⟩
        rcases Nat.lt_or_ge i n with h | h
        · exact h
        · exact absurd hi (tail_waits hs hc hn inv _ x.idx rfl ho.lt (getD_in hxs hxl) i h)
    refine ⟨fun h => absurd h hready.1, fun i hi => ?_⟩
    have hin := hready.2 i hi
    obtain ⟨hun, oi, hoi, hdeps⟩ := mem_ready.1 hi
    have hil : i < listed.size := by rw [inv.size]; omega
    by_cases hia : ∃ x ∈ al, x.idx = i
    · obtain ⟨x, hx, rfl⟩ := hia
      obtain ⟨o, ho⟩ := hal x hx
      obtain rfl : oi = o := Option.some.inj (hoi.symm.trans ho.at_)
      have hlf : listed.getD x.idx false = false := getD_both hun
      unfold wpOp
      simp only [hoi]
      rw [if_pos (by unfold Region.wanted; rw [ho.guard])]
      refine .inl ?_
      unfold Oper.wp
      rw [ho.run]
      show wpAny P md ops Q (m + g) (listed.setIfInBounds x.idx true) ((putAl listed bs al aS).put oi.dst (.pointer (some ⟨w.heap.size, 0, none⟩))) (w.alloc (.cells x.zs.toArray x.t))
      rw [ho.dst, ← putAl_new bs w.heap.size al listed aS x hx hni hnd hil hlf]
      refine ih f _ aS _ _ ?_ (inv.set hi hin) (by rw [star_set hx hil]; exact hF) (hb.alloc hb.size _) ?_ ?_
      · have := left_set al listed x hx hni hil hlf; omega
      · intro y hy hyl
        by_cases e : y.idx = x.idx
        · have : y = x := by
            exact idx_inj al hni hy hx e
          subst this
          rw [if_pos rfl]
          exact ⟨hb.size, Own.new _ _ _⟩
        · rw [getD_set_ne false (Ne.symm e)] at hyl
          rw [if_neg e]
          obtain ⟨h1, h2⟩ := hown y hy hyl
          exact ⟨h1, h2.alloc _⟩
      · intro y hy z hz hyl hzl hne
        by_cases ey : y.idx = x.idx
        · have ez : z.idx ≠ x.idx := fun e => hne (ey.trans e.symm)
          rw [getD_set_ne false (Ne.symm ez)] at hzl
          rw [if_pos ey, if_neg ez]
          have := (hown z hz hzl).2.lt
          omega
        · rw [getD_set_ne false (Ne.symm ey)] at hyl
          by_cases ez : z.idx = x.idx
          · rw [if_neg ey, if_pos ez]
            have := (hown y hy hyl).2.lt
            omega
          · rw [getD_set_ne false (Ne.symm ez)] at hzl
            rw [if_neg ey, if_neg ez]
            exact hdis y hy z hz hyl hzl hne
    · have hno : ∀ x ∈ al, x.idx ≠ i := fun x hx e => hia ⟨x, hx, e⟩
      have hi' : i ∈ Region.ready md ops (star al listed) := mem_ready.2 ⟨by rw [star_ne true al listed hno]; exact hun, oi, hoi, fun e he hbd => star_mono al listed (hdeps e he hbd)⟩
      obtain ⟨f', rfl⟩ : ∃ f', f = f' + 1 := by
        cases f with
        | zero =>
          obtain ⟨h1, _⟩ := hF w0 (Below.refl _ _)
          have := seqB_ready h1 i hi'
          omega
        | succ f' => exact ⟨f', rfl⟩
      obtain ⟨a', hF', hstep⟩ := fam_step hsole hoi hi' hF
      obtain ⟨v, hy, hput⟩ := hstep w hb
      have hse : ∀ cs b, oi.op ≠ .select cs b := fun cs b => Region.noSelect_spec hsel i oi cs b hoi
      obtain ⟨e1, e2⟩ := putAl_exec (P := P) (md := md) hoi hin hse hno listed bs al aS hal
      have hy' := hy.of_same e1 e2
      have hdn : ∀ x ∈ al, oi.dst ≠ some x.d := fun x hx => by
        obtain ⟨o, ho⟩ := hal x hx
        exact (Oper.apart_spec (ho.apart i oi hoi hin hno)).2.1 x.d ho.dst
      refine wpOp_of_qOp (C := Cl w) (K := fun a'' => a'' = (putAl listed bs al aS).put oi.dst v) (Cl.self w) ?_ (hy'.qOp hoi rfl)
      rintro a'' w' hw' rfl
      rw [← putAl_put listed bs oi.dst v al aS hdn, hput]
      have hlist : ∀ x ∈ al, (listed.setIfInBounds i true).getD x.idx false = listed.getD x.idx false := fun x hx => getD_set_ne false (Ne.symm (hno x hx))
      have hpe : putAl (listed.setIfInBounds i true) bs al a' = putAl listed bs al a' := by
        have := putAl_other bs i (bs i) al listed a' hno
        rw [show (fun j => if j = i then bs i else bs j) = bs from funext fun j => by split <;> simp_all] at this
        exact this
      rw [← hpe]
      refine ih f' _ a' bs w' ?_ (inv.set hi hin) (by rw [star_set_comm]; exact hF') (below_next hb hb.size hw'.below) ?_ ?_
      · rw [left_set_other al listed hno]; omega
      · intro x hx hxl
        rw [hlist x hx] at hxl
        obtain ⟨h1, h2⟩ := hown x hx hxl
        exact ⟨h1, h2.all hw'.below⟩
      · intro x hx y hy hxl hyl
        rw [hlist x hx] at hxl
        rw [hlist y hy] at hyl
        exact hdis x hx y hy hxl hyl

/-- the closed look at the new variables' operations -/
def Region.alB (md : Region.Mode) (ops : Array Oper) (n : Nat) (al : List Al) : Bool :=
  al.all fun x => match ops[x.idx]? with
    | some o => decide (x.idx < n) && o.dst == some x.d && o.guard.isNone && o.after.all (fun e => !Region.binds md e) &&
      (List.range n).all (fun j => al.any (fun y => y.idx == j) || match ops[j]? with | some oj => o.apart ops oj | none => true)
    | none => false
/-- the closed look at the whole region: q quiet operations, the new variables, then from n on a tail in one order -/
def Region.allocsB (md : Region.Mode) (ops : Array Oper) (q n : Nat) (al : List Al) : Bool :=
  Region.noSelect ops && decide (n < ops.size) && Region.sinkB md ops n && Region.chainB md ops n && Region.soleB ops n && Region.alB md ops n al && decide ((al.map Al.idx).Nodup) && decide ((al.map Al.d).Nodup) &&
    decide (q + al.length = n) && Region.lexAl md ops (ops.size - n) n q 0 (star al (Array.replicate ops.size false))

theorem alOk_of {n : Nat} {al : List Al} (h : Region.alB md ops n al = true) (hrun : ∀ x ∈ al, ∀ o, ops[x.idx]? = some o → ∀ (a : Act) (w : World), (execOp a.eval o).run P w = .ok (.value (.pointer (some ⟨w.heap.size, 0, none⟩))) (w.alloc (.cells x.zs.toArray x.t))) :
    ∀ x ∈ al, ∃ o, AlOk P md ops n al x o := by
  intro x hx
  have h1 := List.all_eq_true.1 h x hx
  cases ho : ops[x.idx]? with
  | none => simp [ho] at h1
  | some o =>
    simp only [ho, Bool.and_eq_true, decide_eq_true_eq, beq_iff_eq] at h1
    obtain ⟨⟨⟨⟨h2, h3⟩, h4⟩, h5⟩, h6⟩ := h1
    refine ⟨o, ho, h2, h3, by simpa using h4, fun e he => ?_, hrun x hx o ho, fun j oj hj hjn hno => ?_⟩
    · have := Array.all_eq_true_iff_forall_mem.1 h5 e he
      simpa using this
    · have := List.all_eq_true.1 h6 j (List.mem_range.2 hjn)
      simp only [hj, Bool.or_eq_true] at this
      rcases this with h7 | h7
      · obtain ⟨y, hy, e⟩ := List.any_eq_true.1 h7
        exact absurd (by simpa using e) (hno y hy)
      · exact h7

theorem star_inv {n : Nat} {al : List Al} (hal : ∀ x ∈ al, ∃ o, ops[x.idx]? = some o ∧ x.idx < n ∧ ∀ e ∈ o.after, Region.binds md e = false) : ∀ {listed : Array Bool}, HeadInv md ops n listed → HeadInv md ops n (star al listed) := by
  induction al with
  | nil => intro listed h; exact h
  | cons x al ih =>
    intro listed inv
    obtain ⟨o, ho, hlt, hal1⟩ := hal x List.mem_cons_self
    by_cases hl : listed.getD x.idx false = true
    · show HeadInv md ops n (star al (listed.setIfInBounds x.idx true))
      rw [set_same hl]
      exact ih (fun y hy => hal y (List.mem_cons_of_mem _ hy)) inv
    · have hxs : x.idx < listed.size := by rw [inv.size]; exact (Array.getElem?_eq_some_iff.1 ho).1
      have hr : x.idx ∈ Region.ready md ops listed := mem_ready.2 ⟨getD_in hxs (by simpa using hl), o, ho, fun e he hb => by rw [hal1 e he] at hb; cases hb⟩
      exact ih (fun y hy => hal y (List.mem_cons_of_mem _ hy)) (inv.set hr hlt)

/-- A REGION THAT DRAWS ITS ORDER: q quiet operations (reads, calls that make memory), new variables, then stores in one order. Whatever the order, the new variables lie in blocks of their own that hold zeros, and the rest of the frame is the quiet walk's. -/
theorem wp_region_allocs {id : Nat} {Q : Exit → Act → World → Prop} {a : Act} {w : World} {l : List Oper} (q n : Nat) (al : List Al) (hm : P.follows .mixedOrders = true) (hB : Region.allocsB .any l.toArray q n al = true)
    (hrun : ∀ x ∈ al, ∀ o, l.toArray[x.idx]? = some o → ∀ (a : Act) (w : World), (execOp a.eval o).run P w = .ok (.value (.pointer (some ⟨w.heap.size, 0, none⟩))) (w.alloc (.cells x.zs.toArray x.t)))
    (aEnd : Act)
    (hq : ∀ W, Below w.heap.size w W → wpQuiet P l.toArray (fun w' => ∃ p : Regrown, w' = grow (redrawn W p.d) p.os) (fun a' => a' = aEnd) (l.take q) a)
    (ht : ∀ (bs : Nat → Nat) (W : World), Below w.heap.size w W → (∀ x ∈ al, w.heap.size ≤ bs x.idx ∧ Own W (bs x.idx) x.zs x.t) → (∀ x ∈ al, ∀ y ∈ al, x.idx ≠ y.idx → bs x.idx ≠ bs y.idx) →
      wpList P l.toArray Q (l.drop n) (putAll bs al aEnd) W) : (Code.region id l.toArray true).wp P Q a w := by
  simp only [Region.allocsB, Bool.and_eq_true, decide_eq_true_eq] at hB
  obtain ⟨⟨⟨⟨⟨⟨⟨⟨⟨hsel, hn⟩, hs⟩, hc⟩, hsole⟩, halB⟩, hni⟩, hnd⟩, hqn⟩, hlex⟩ := hB
  have hal := alOk_of (P := P) halB hrun
  have htl : (l.take q).length = q := List.length_take_of_le (by have : n < l.length := by simpa using hn
                                                                 omega)
  have hdl : (l.drop n).length = l.toArray.size - n := by simp
  have inv0 := headInv_none l.toArray .any n
  have inv1 := star_inv (al := al) (fun x hx => by obtain ⟨o, ho⟩ := hal x hx; exact ⟨o, ho.at_, ho.lt, ho.alone⟩) inv0
  have hb0 : Below w.heap.size w w.drew := (Below.refl _ _).drew
  have hF : Fam P .any l.toArray w.drew n (l.toArray.size - n) aEnd q (star al (Array.replicate l.toArray.size false)) a := by
    intro W hW
    have := wpHeadQ_lexAl (P := P) (C := Cl W) (md := .any) (g := l.toArray.size - n) (Lq := fun a' => a' = aEnd) hsel hs hc hn (l.take q) 0 _ a (fun j hj => by
      have hj' : j < q := by rw [htl] at hj; exact hj
      simp [hj']) inv1 (by rw [htl]; exact hlex) (hq W (below_all hb0 hW))
    rw [htl] at this
    exact this
  refine wp_region_any hm ?_
  have hleft : left al (Array.replicate l.toArray.size false) = al.length := by
    unfold left
    rw [List.countP_eq_length]
    intro x _
    rw [getD_replicate_false]; rfl
  have H := wpAny_allocs (P := P) (md := .any) (Q := Q) (g := l.toArray.size - n) (w0 := w.drew) (aEnd := aEnd) hsel hn hs hc hsole hal hni hnd (fun listed bs W h1 h2 h3 h4 => by
    have := wpAny_of_seq (P := P) (md := .any) (Q' := Q) (l.drop n) n listed (putAll bs al aEnd) W (fun j => by simp [List.getElem?_drop]) (by rw [hdl]; exact h1) (ht bs W (below_all hb0 h2) h3 h4)
    rwa [hdl] at this) (q + al.length) q _ a (fun _ => 0) w.drew (by rw [hleft]) inv0 hF (Below.refl _ _) (fun x _ hx => by rw [getD_replicate_false] at hx; cases hx) (fun x _ y _ hx => by rw [getD_replicate_false] at hx; cases hx)
  rw [putAl_none _ al _ a (fun x _ => getD_replicate_false _ _), hqn, show n + (l.toArray.size - n) = l.toArray.size by omega] at H
  exact H
end
end Go.Proofs.LawFrame
