/- The walk of LabelRoundTrip, with its region that draws its order. -/
import Derived.Test.YtfohhokdcobhjaaDoorRg
import Derived.Test.YtfohhokdcobhjaaDoorOw
import Derived.Test.YtfohhokdcobhjaaDoorYe
import Derived.Test.YtfohhokdcobhjaaDoorOc

/- OF NO PROGRAM: a region that draws its order, by an invariant over the operations that are done: every ready operation keeps it, and where all are done it gives the rest. Conditions: the program follows every order. -/
namespace Go.Proofs.LawFrame
open Go.Sort Go.RowKit

variable {P : Program} {ops : Array Oper} {Q : Exit → Act → World → Prop} {md : Region.Mode}

theorem ready_spec {listed : Array Bool} {i : Nat} (h : i ∈ Region.ready md ops listed) :
    i < ops.size ∧ listed.getD i true = false ∧ ∀ o, ops[i]? = some o → ∀ e ∈ o.after, Region.binds md e = true → listed.getD e.on false = true := by
  unfold Region.ready at h
  obtain ⟨h1, h2⟩ := List.mem_filter.1 h
  simp only [List.mem_range] at h1
  simp only [Bool.and_eq_true, Bool.not_eq_true'] at h2
  refine ⟨h1, h2.1, fun o ho e he hb => ?_⟩
  have h3 := h2.2
  rw [ho] at h3
  simp only [Option.map_some, Option.getD_some, Array.all_eq_true_iff_forall_mem] at h3
  have h4 := h3 e he
  rw [hb] at h4
  simpa using h4

theorem count_set {listed : Array Bool} {i : Nat} (h : listed.getD i true = false) : listed.toList.count false = (listed.setIfInBounds i true).toList.count false + 1 := by
  have hi : i < listed.size := by
    rcases Nat.lt_or_ge i listed.size with h' | h'
    · exact h'
    · simp [Array.getElem?_eq_none h'] at h
  have hv : listed.toList[i]'(by simpa using hi) = false := by simpa [hi] using h
  rw [Array.toList_setIfInBounds, List.count_set (by simpa using hi), hv]
  have hp : 0 < listed.toList.count false := List.count_pos_iff.2 (hv ▸ List.getElem_mem _)
  generalize listed.toList.count false = n at *
  rw [if_pos (by decide), if_neg (by decide)]
  omega

theorem ready_nil {listed : Array Bool} (h : listed.toList.count false = 0) : Region.ready md ops listed = [] := by
  cases hr : Region.ready md ops listed with
  | nil => rfl
  | cons x xs =>
    have hx := (ready_spec (show x ∈ Region.ready md ops listed by rw [hr]; exact List.mem_cons_self)).2.1
    have := count_set hx
    omega

theorem wpAny_inv (I : Array Bool → Act → World → Prop)
    (hI : ∀ listed a w, listed.size = ops.size → I listed a w → ∀ i ∈ Region.ready md ops listed, wpOp P ops Q i (I (listed.setIfInBounds i true)) a w)
    (hE : ∀ listed a w, listed.size = ops.size → I listed a w → Region.ready md ops listed = [] → Q .normal a w) :
    ∀ (fuel : Nat) (listed : Array Bool) (a : Act) (w : World), listed.size = ops.size → listed.toList.count false ≤ fuel → I listed a w → wpAny P md ops Q fuel listed a w
  | 0, listed, a, w, hs, hc, h => by
    have hr : Region.ready md ops listed = [] := ready_nil (by omega)
    exact ⟨hr, hE listed a w hs h hr⟩
  | fuel + 1, listed, a, w, hs, hc, h => by
    refine ⟨hE listed a w hs h, fun i hi => ?_⟩
    refine wpOp_mono (fun a' w' h' => ?_) (hI listed a w hs h i hi)
    have := count_set (ready_spec hi).2.1
    exact wpAny_inv I hI hE fuel _ a' w' (by simpa using hs) (by omega) h'

theorem wp_region_inv {id : Nat} {a : Act} {w : World} (hm : P.follows .mixedOrders = true) (I : Array Bool → Act → World → Prop)
    (h0 : I (Array.replicate ops.size false) a { w with drawn := w.drawn + 1 })
    (hI : ∀ listed a w, listed.size = ops.size → I listed a w → ∀ i ∈ Region.ready .any ops listed, wpOp P ops Q i (I (listed.setIfInBounds i true)) a w)
    (hE : ∀ listed a w, listed.size = ops.size → I listed a w → Region.ready .any ops listed = [] → Q .normal a w) :
    (Code.region id ops true).wp P Q a w :=
  wp_region_any hm (wpAny_inv I hI hE _ _ _ _ (by simp) (by simp) h0)

theorem ready_all (hlow : ∀ (i : Nat) (o : Oper), ops[i]? = some o → ∀ e ∈ o.after, e.on < i) {listed : Array Bool} (hs : listed.size = ops.size) (hr : Region.ready md ops listed = []) (i : Nat) (hi : i < ops.size) : listed.getD i false = true := by
  induction i using Nat.strongRecOn with
  | ind i ih =>
    cases hc : listed.getD i true with
    | true => simpa [hs, hi] using hc
    | false =>
      have hm : i ∈ Region.ready md ops listed := by
        unfold Region.ready
        refine List.mem_filter.2 ⟨List.mem_range.2 hi, ?_⟩
        have ho : ops[i]? = some ops[i] := by simp [hi]
        rw [ho, hc]
        simp only [Option.map_some, Option.getD_some, Bool.not_false, Bool.true_and, Array.all_eq_true_iff_forall_mem]
        intro e he
        have h1 := hlow i _ ho e he
        rw [ih e.on h1 (by omega)]
        simp
      rw [hr] at hm
      cases hm

/-- what a slot holds -/
def slot (a : Act) (t : Nat) : Value := a.tmps[t]?.getD undef

/-- the frame but for the n slots from s on, and what is known of those whose operation is done -/
structure Done (s n : Nat) (C : Nat → World → Value → Prop) (a0 : Act) (W0 : World) (listed : Array Bool) (a : Act) (w : World) : Prop where
  defers : a.defers = a0.defers
  size : a.tmps.size = a0.tmps.size
  keep : ∀ t, (t < s ∨ s + n ≤ t) → a.tmps[t]? = a0.tmps[t]?
  world : Below W0.heap.size W0 w
  holds : ∀ i, i < n → listed.getD i false = true → C i w (slot a (s + i))

theorem Done.zero {s n : Nat} {C : Nat → World → Value → Prop} {a0 : Act} {W0 w : World} {m : Nat} (h : Below W0.heap.size W0 w) : Done s n C a0 W0 (Array.replicate m false) a0 w :=
  ⟨rfl, rfl, fun _ _ => rfl, h, fun i _ hl => by
    rcases Nat.lt_or_ge i m with h' | h'
    · simp [h'] at hl
    · simp [Array.getElem?_eq_none (show (Array.replicate m false).size ≤ i by simpa using h')] at hl⟩

theorem Done.step {s n : Nat} {C : Nat → World → Value → Prop} {a0 a : Act} {W0 w w' : World} {listed : Array Bool} (hC : ∀ i w w' v, C i w v → Below w.heap.size w w' → C i w' v) (h : Done s n C a0 W0 listed a w)
    {i : Nat} {v : Value} (hi : i < n) (hsz : s + n ≤ a0.tmps.size) (hw : Below w.heap.size w w') (hv : C i w' v) : Done s n C a0 W0 (listed.setIfInBounds i true) { tmps := a.tmps.setIfInBounds (s + i) v, defers := a.defers } w' := by
  refine ⟨h.defers, by simpa using h.size, fun t ht => ?_, below_all h.world hw, fun j hj hl => ?_⟩
  · rw [← h.keep t ht]
    exact Array.getElem?_setIfInBounds_ne (by omega)
  · by_cases hij : j = i
    · subst hij
      have : s + j < a.tmps.size := by rw [h.size]; omega
      simpa [slot, this] using hv
    · have h1 : (a.tmps.setIfInBounds (s + i) v)[s + j]? = a.tmps[s + j]? := Array.getElem?_setIfInBounds_ne (by omega)
      unfold slot
      rw [show (({ tmps := a.tmps.setIfInBounds (s + i) v, defers := a.defers } : Act).tmps) = a.tmps.setIfInBounds (s + i) v from rfl, h1]
      refine hC j w w' _ (h.holds j hj ?_) hw
      rw [getD_set_ne false (fun e => hij e.symm)] at hl
      exact hl
end Go.Proofs.LawFrame

/- Region 23 of the walk of LabelRoundTrip: two slices of one requirement are built and matched, in any order. -/
namespace Go.Proofs.YtfohhokdcobhjaaDoor
open Go.RowKit Go.Sort Go.Proofs.LawFrame

def C23 (k o x k2 o2 x2 vl : Value) (M M2 : Bool) : Nat → World → Value → Prop
  | 0, _, v => v = .agg #[k, o, x]
  | 1, w, v => ∃ b, v = .slice (some ⟨b, 0, none⟩) 1 1 ∧ Own w b [k, o, x] 43
  | 2, _, v => v = vl
  | 3, _, v => v = .bool M
  | 4, _, v => v = .agg #[k2, o2, x2]
  | 5, w, v => ∃ b, v = .slice (some ⟨b, 0, none⟩) 1 1 ∧ Own w b [k2, o2, x2] 43
  | 6, _, v => v = vl
  | 7, _, v => v = .bool M2
  | 8, _, v => v = .bool (M == M2)
  | _, _, _ => True

theorem C23.one {k o x k2 o2 x2 vl : Value} {M M2 : Bool} {w : World} {v : Value} (h : C23 k o x k2 o2 x2 vl M M2 1 w v) : ∃ b, v = .slice (some ⟨b, 0, none⟩) 1 1 ∧ Own w b [k, o, x] 43 := h
theorem C23.five {k o x k2 o2 x2 vl : Value} {M M2 : Bool} {w : World} {v : Value} (h : C23 k o x k2 o2 x2 vl M M2 5 w v) : ∃ b, v = .slice (some ⟨b, 0, none⟩) 1 1 ∧ Own w b [k2, o2, x2] 43 := h
theorem C23.mono {k o x k2 o2 x2 vl : Value} {M M2 : Bool} (i : Nat) (w w' : World) (v : Value) (h : C23 k o x k2 o2 x2 vl M M2 i w v) (hb : Below w.heap.size w w') : C23 k o x k2 o2 x2 vl M M2 i w' v := by
  match i with
  | 0 => exact h
  | 1 => obtain ⟨b, h1, h2⟩ := h; exact ⟨b, h1, h2.all hb⟩
  | 2 => exact h
  | 3 => exact h
  | 4 => exact h
  | 5 => obtain ⟨b, h1, h2⟩ := h; exact ⟨b, h1, h2.all hb⟩
  | 6 => exact h
  | 7 => exact h
  | 8 => exact h
  | _ + 9 => trivial

set_option maxHeartbeats 4000000 in
theorem region23 {ops : Array Oper} {Q : Exit → Act → World → Prop} {id : Nat} {a0 : Act} {W0 : World}
    {p0 : String} {f0 : Array Edge} (g0 : ops[0]? = some { dst := some 62, op := .load 43 (.tmp 10), type := 43, pos := p0, after := f0, guard := none })
    {p1 : String} {f1 : Array Edge} (g1 : ops[1]? = some { dst := some 63, op := .buildSlice 23 1 #[(0, .tmp 62)], type := 23, pos := p1, after := f1, guard := none })
    {p2 : String} {f2 : Array Edge} (g2 : ops[2]? = some { dst := some 64, op := .move (.tmp 1), type := 22, pos := p2, after := f2, guard := none })
    {p3 : String} {f3 : Array Edge} (g3 : ops[3]? = some { dst := some 65, op := .call { callee := .value (.func 22), args := #[.tmp 63, .tmp 64], argTypes := #[23, 22] }, type := 4, pos := p3, after := f3, guard := none })
    {p4 : String} {f4 : Array Edge} (g4 : ops[4]? = some { dst := some 66, op := .load 43 (.tmp 11), type := 43, pos := p4, after := f4, guard := none })
    {p5 : String} {f5 : Array Edge} (g5 : ops[5]? = some { dst := some 67, op := .buildSlice 23 1 #[(0, .tmp 66)], type := 23, pos := p5, after := f5, guard := none })
    {p6 : String} {f6 : Array Edge} (g6 : ops[6]? = some { dst := some 68, op := .move (.tmp 1), type := 22, pos := p6, after := f6, guard := none })
    {p7 : String} {f7 : Array Edge} (g7 : ops[7]? = some { dst := some 69, op := .call { callee := .value (.func 22), args := #[.tmp 67, .tmp 68], argTypes := #[23, 22] }, type := 4, pos := p7, after := f7, guard := none })
    {p8 : String} {f8 : Array Edge} (g8 : ops[8]? = some { dst := some 70, op := .binOp .eql 4 (.tmp 65) (.tmp 69) 4, type := 4, pos := p8, after := f8, guard := none })
    (d10 : (⟨0, .data⟩ : Edge) ∈ f1)
    (d31 : (⟨1, .data⟩ : Edge) ∈ f3)
    (d32 : (⟨2, .data⟩ : Edge) ∈ f3)
    (d54 : (⟨4, .data⟩ : Edge) ∈ f5)
    (d75 : (⟨5, .data⟩ : Edge) ∈ f7)
    (d76 : (⟨6, .data⟩ : Edge) ∈ f7)
    (d83 : (⟨3, .data⟩ : Edge) ∈ f8)
    (d87 : (⟨7, .data⟩ : Edge) ∈ f8)
    (hn : ops.size = 9) (hlow : ∀ (i : Nat) (o : Oper), ops[i]? = some o → ∀ e ∈ o.after, e.on < i)
    {k o x k2 o2 x2 vl : Value} {M M2 : Bool} {b1 b2 : Nat} (hs : a0.tmps.size = 73)
    (t1 : a0.tmps[1]? = some vl) (t10 : a0.tmps[10]? = some (.pointer (some ⟨b1, 0, none⟩))) (t11 : a0.tmps[11]? = some (.pointer (some ⟨b2, 0, none⟩)))
    (o1 : Own W0 b1 [k, o, x] 43) (o2' : Own W0 b2 [k2, o2, x2] 43)
    (c1 : ∀ w b, Below W0.heap.size W0 w → Own w b [k, o, x] 43 → Calls Tryd.prog 22 #[.slice (some ⟨b, 0, none⟩) 1 1, vl] w fun e w' => e = .returned (.bool M) ∧ Below w.heap.size w w')
    (c2 : ∀ w b, Below W0.heap.size W0 w → Own w b [k2, o2, x2] 43 → Calls Tryd.prog 22 #[.slice (some ⟨b, 0, none⟩) 1 1, vl] w fun e w' => e = .returned (.bool M2) ∧ Below w.heap.size w w')
    (hQ : ∀ a w, a.defers = a0.defers → a.tmps.size = 73 → (∀ t, (t < 62 ∨ 71 ≤ t) → a.tmps[t]? = a0.tmps[t]?) → a.tmps[70]? = some (.bool (M == M2)) → Below W0.heap.size W0 w → Q .normal a w) :
    (Code.region id ops true).wp Tryd.prog Q a0 W0 := by
  refine wp_region_inv (by rfl) (Done 62 9 (C23 k o x k2 o2 x2 vl M M2) a0 W0) (Done.zero ?_) ?_ ?_
  · have := below_regrown W0 (W0.drawn + 1) #[]
    rw [grow_empty] at this
    exact this
  · intro listed a w hl h i hi
    obtain ⟨hi1, hi2, hi3⟩ := ready_spec hi
    have T1 : a.tmps[1]?.getD undef = vl := by rw [h.keep 1 (by omega), t1]; rfl
    have T10 : a.tmps[10]?.getD undef = .pointer (some ⟨b1, 0, none⟩) := by rw [h.keep 10 (by omega), t10]; rfl
    have T11 : a.tmps[11]?.getD undef = .pointer (some ⟨b2, 0, none⟩) := by rw [h.keep 11 (by omega), t11]; rfl
    have hsz : 62 + 9 ≤ a0.tmps.size := by omega
    have hS : ∀ (w' : World) (v : Value), Below w.heap.size w w' → C23 k o x k2 o2 x2 vl M M2 i w' v → i < 9 → Done 62 9 (C23 k o x k2 o2 x2 vl M M2) a0 W0 (listed.setIfInBounds i true) { tmps := a.tmps.setIfInBounds (62 + i) v, defers := a.defers } w' := fun w' v hw hv hi9 => h.step C23.mono hi9 hsz hw hv
    have hcase : i = 0 ∨ i = 1 ∨ i = 2 ∨ i = 3 ∨ i = 4 ∨ i = 5 ∨ i = 6 ∨ i = 7 ∨ i = 8 := by omega
    have hH := h.holds
    have hW := h.world
    have hself : Below w.heap.size w w := Below.refl _ w
    rcases hcase with rfl | rfl | rfl | rfl | rfl | rfl | rfl | rfl | rfl
    · skip
      unfold wpOp
      rw [g0]
      simp only [show ∀ tm, Region.wanted ({ dst := some 62, op := .load 43 (.tmp 10), type := 43, pos := p0, after := f0, guard := none } : Oper) tm = true from fun _ => rfl, if_true]
      refine Or.inl ?_
      obtain ⟨x0, x1, x2'⟩ := (o1.all hW).three
      clear hH h hi3
      go_wp2
      exact hS w _ hself rfl (by omega)
    · skip
      unfold wpOp
      rw [g1]
      simp only [show ∀ tm, Region.wanted ({ dst := some 63, op := .buildSlice 23 1 #[(0, .tmp 62)], type := 23, pos := p1, after := f1, guard := none } : Oper) tm = true from fun _ => rfl, if_true]
      refine Or.inl ?_
      have e1 := hH 0 (by omega) (hi3 _ g1 _ d10 rfl)
      have T : a.tmps[62]?.getD undef = _ := e1
      clear hH h hi3 e1
      go_wp2
      exact hS _ _ (below_alloc w _) ⟨w.heap.size, rfl, Own.new w _ 43⟩ (by omega)
    · skip
      unfold wpOp
      rw [g2]
      simp only [show ∀ tm, Region.wanted ({ dst := some 64, op := .move (.tmp 1), type := 22, pos := p2, after := f2, guard := none } : Oper) tm = true from fun _ => rfl, if_true]
      refine Or.inl ?_
      clear hH h hi3
      go_wp2
      exact hS w _ hself rfl (by omega)
    · skip
      have e1 := hH 1 (by omega) (hi3 _ g3 _ d31 rfl)
      have e2 := hH 2 (by omega) (hi3 _ g3 _ d32 rfl)
      obtain ⟨b, T0, ob⟩ := C23.one e1
      have T : a.tmps[63]?.getD undef = .slice (some ⟨b, 0, none⟩) 1 1 := T0
      have T' : a.tmps[64]?.getD undef = vl := e2
      have cc := Lib.hid (c1 w b hW ob)
      unfold wpOp
      rw [g3]
      simp only [show ∀ tm, Region.wanted ({ dst := some 65, op := .call { callee := .value (.func 22), args := #[.tmp 63, .tmp 64], argTypes := #[23, 22] }, type := 4, pos := p3, after := f3, guard := none } : Oper) tm = true from fun _ => rfl, if_true]
      refine Or.inl ?_
      clear hH h hi3 e1 e2 T0
      go_wp2_with fail
      refine cc.out.mono ?_
      rintro e w' ⟨rfl, bw⟩
      exact hS w' _ bw rfl (by omega)
    · skip
      unfold wpOp
      rw [g4]
      simp only [show ∀ tm, Region.wanted ({ dst := some 66, op := .load 43 (.tmp 11), type := 43, pos := p4, after := f4, guard := none } : Oper) tm = true from fun _ => rfl, if_true]
      refine Or.inl ?_
      obtain ⟨x0, x1, x2'⟩ := (o2'.all hW).three
      clear hH h hi3
      go_wp2
      exact hS w _ hself rfl (by omega)
    · skip
      unfold wpOp
      rw [g5]
      simp only [show ∀ tm, Region.wanted ({ dst := some 67, op := .buildSlice 23 1 #[(0, .tmp 66)], type := 23, pos := p5, after := f5, guard := none } : Oper) tm = true from fun _ => rfl, if_true]
      refine Or.inl ?_
      have e1 := hH 4 (by omega) (hi3 _ g5 _ d54 rfl)
      have T : a.tmps[66]?.getD undef = _ := e1
      clear hH h hi3 e1
      go_wp2
      exact hS _ _ (below_alloc w _) ⟨w.heap.size, rfl, Own.new w _ 43⟩ (by omega)
    · skip
      unfold wpOp
      rw [g6]
      simp only [show ∀ tm, Region.wanted ({ dst := some 68, op := .move (.tmp 1), type := 22, pos := p6, after := f6, guard := none } : Oper) tm = true from fun _ => rfl, if_true]
      refine Or.inl ?_
      clear hH h hi3
      go_wp2
      exact hS w _ hself rfl (by omega)
    · skip
      have e1 := hH 5 (by omega) (hi3 _ g7 _ d75 rfl)
      have e2 := hH 6 (by omega) (hi3 _ g7 _ d76 rfl)
      obtain ⟨b, T0, ob⟩ := C23.five e1
      have T : a.tmps[67]?.getD undef = .slice (some ⟨b, 0, none⟩) 1 1 := T0
      have T' : a.tmps[68]?.getD undef = vl := e2
      have cc := Lib.hid (c2 w b hW ob)
      unfold wpOp
      rw [g7]
      simp only [show ∀ tm, Region.wanted ({ dst := some 69, op := .call { callee := .value (.func 22), args := #[.tmp 67, .tmp 68], argTypes := #[23, 22] }, type := 4, pos := p7, after := f7, guard := none } : Oper) tm = true from fun _ => rfl, if_true]
      refine Or.inl ?_
      clear hH h hi3 e1 e2 T0
      go_wp2_with fail
      refine cc.out.mono ?_
      rintro e w' ⟨rfl, bw⟩
      exact hS w' _ bw rfl (by omega)
    · skip
      unfold wpOp
      rw [g8]
      simp only [show ∀ tm, Region.wanted ({ dst := some 70, op := .binOp .eql 4 (.tmp 65) (.tmp 69) 4, type := 4, pos := p8, after := f8, guard := none } : Oper) tm = true from fun _ => rfl, if_true]
      refine Or.inl ?_
      have e1 := hH 3 (by omega) (hi3 _ g8 _ d83 rfl)
      have e2 := hH 7 (by omega) (hi3 _ g8 _ d87 rfl)
      have T : a.tmps[65]?.getD undef = .bool M := e1
      have T' : a.tmps[69]?.getD undef = .bool M2 := e2
      clear hH h hi3 e1 e2
      go_wp2
      exact hS w _ hself rfl (by omega)
  · intro listed a w hl h hr
    have hd := h.holds 8 (by omega) (ready_all hlow hl hr 8 (by omega))
    refine hQ a w h.defers (h.size.trans hs) (fun t ht => h.keep t (by omega)) ?_ h.world
    have hlt : 70 < a.tmps.size := by rw [h.size, hs]; decide
    have hd' : a.tmps[70]?.getD undef = .bool (M == M2) := hd
    rw [Array.getElem?_eq_getElem hlt] at hd' ⊢
    exact congrArg some hd'
end Go.Proofs.YtfohhokdcobhjaaDoor

/- The walk of LabelRoundTrip. -/
namespace Go.Proofs.YtfohhokdcobhjaaDoor
open Go.RowKit Go.Sort Go.Proofs.LawFrame

theorem print_le (s : List Req) : (printS s).length ≤ 20000 := by
  unfold printS
  split
  · simp
  · split
    · simp
    · omega
theorem reqs_one {w : World} {b : Nat} {r : Req} {c : RC} (ho : Own w b (RC.cells c) 43) (hr : RIs w c r) : Reqs w (.slice (some ⟨b, 0, none⟩) 1 1) [r] := by
  refine ⟨[c], rfl, ⟨⟨some ⟨b, 0, none⟩, 1, rfl, Nat.le_refl _, by unfold maxLen; omega, fun _ => ⟨b, 0, rfl, ho.lt, fun j x hx => ?_⟩⟩⟩, fun k c' r' h1 h2 => ?_⟩
  · have h := ho.cell (i := j) (v := x) (by simpa using hx)
    rw [Nat.zero_add]
    exact h
  · cases k with
    | zero =>
      simp only [List.getElem?_cons_zero, Option.some.injEq] at h1 h2
      subst h1 h2
      exact hr
    | succ k => simp at h1

set_option maxHeartbeats 2000000 in
theorem frame23 {a0 a : Act} {B : Bool} (hd : a.defers = a0.defers) (hs0 : a0.tmps.size = 73) (hsz : a.tmps.size = 73) (hk : ∀ t, (t < 62 ∨ 71 ≤ t) → a.tmps[t]? = a0.tmps[t]?) (h70 : a.tmps[70]? = some (.bool B)) :
    ∃ y0 y1 y2 y3 y4 y5 y6 y7, a = { tmps := ((((((((a0.tmps.setIfInBounds 62 y0).setIfInBounds 63 y1).setIfInBounds 64 y2).setIfInBounds 65 y3).setIfInBounds 66 y4).setIfInBounds 67 y5).setIfInBounds 68 y6).setIfInBounds 69 y7).setIfInBounds 70 (.bool B), defers := a0.defers } := by
  obtain ⟨y0, e62⟩ : ∃ y, a.tmps[62]? = some y := ⟨_, Array.getElem?_eq_getElem (by omega)⟩
  obtain ⟨y1, e63⟩ : ∃ y, a.tmps[63]? = some y := ⟨_, Array.getElem?_eq_getElem (by omega)⟩
  obtain ⟨y2, e64⟩ : ∃ y, a.tmps[64]? = some y := ⟨_, Array.getElem?_eq_getElem (by omega)⟩
  obtain ⟨y3, e65⟩ : ∃ y, a.tmps[65]? = some y := ⟨_, Array.getElem?_eq_getElem (by omega)⟩
  obtain ⟨y4, e66⟩ : ∃ y, a.tmps[66]? = some y := ⟨_, Array.getElem?_eq_getElem (by omega)⟩
  obtain ⟨y5, e67⟩ : ∃ y, a.tmps[67]? = some y := ⟨_, Array.getElem?_eq_getElem (by omega)⟩
  obtain ⟨y6, e68⟩ : ∃ y, a.tmps[68]? = some y := ⟨_, Array.getElem?_eq_getElem (by omega)⟩
  obtain ⟨y7, e69⟩ : ∃ y, a.tmps[69]? = some y := ⟨_, Array.getElem?_eq_getElem (by omega)⟩
  refine ⟨y0, y1, y2, y3, y4, y5, y6, y7, ?_⟩
  have ht : a.tmps = ((((((((a0.tmps.setIfInBounds 62 y0).setIfInBounds 63 y1).setIfInBounds 64 y2).setIfInBounds 65 y3).setIfInBounds 66 y4).setIfInBounds 67 y5).setIfInBounds 68 y6).setIfInBounds 69 y7).setIfInBounds 70 (.bool B) := by
    apply Array.ext_getElem?
    intro t
    by_cases hr : t < 62 ∨ 71 ≤ t
    · rw [hk t hr, Array.getElem?_setIfInBounds_ne (by omega), Array.getElem?_setIfInBounds_ne (by omega), Array.getElem?_setIfInBounds_ne (by omega), Array.getElem?_setIfInBounds_ne (by omega), Array.getElem?_setIfInBounds_ne (by omega), Array.getElem?_setIfInBounds_ne (by omega), Array.getElem?_setIfInBounds_ne (by omega), Array.getElem?_setIfInBounds_ne (by omega), Array.getElem?_setIfInBounds_ne (by omega)]
    · have hc : t = 62 ∨ t = 63 ∨ t = 64 ∨ t = 65 ∨ t = 66 ∨ t = 67 ∨ t = 68 ∨ t = 69 ∨ t = 70 := by omega
      rcases hc with rfl | rfl | rfl | rfl | rfl | rfl | rfl | rfl | rfl
      · rw [e62, Array.getElem?_setIfInBounds_ne (by omega), Array.getElem?_setIfInBounds_ne (by omega), Array.getElem?_setIfInBounds_ne (by omega), Array.getElem?_setIfInBounds_ne (by omega), Array.getElem?_setIfInBounds_ne (by omega), Array.getElem?_setIfInBounds_ne (by omega), Array.getElem?_setIfInBounds_ne (by omega), Array.getElem?_setIfInBounds_ne (by omega), Array.getElem?_setIfInBounds_self_of_lt (by first | omega | (simp only [Array.size_setIfInBounds]; omega))]
      · rw [e63, Array.getElem?_setIfInBounds_ne (by omega), Array.getElem?_setIfInBounds_ne (by omega), Array.getElem?_setIfInBounds_ne (by omega), Array.getElem?_setIfInBounds_ne (by omega), Array.getElem?_setIfInBounds_ne (by omega), Array.getElem?_setIfInBounds_ne (by omega), Array.getElem?_setIfInBounds_ne (by omega), Array.getElem?_setIfInBounds_self_of_lt (by first | omega | (simp only [Array.size_setIfInBounds]; omega))]
      · rw [e64, Array.getElem?_setIfInBounds_ne (by omega), Array.getElem?_setIfInBounds_ne (by omega), Array.getElem?_setIfInBounds_ne (by omega), Array.getElem?_setIfInBounds_ne (by omega), Array.getElem?_setIfInBounds_ne (by omega), Array.getElem?_setIfInBounds_ne (by omega), Array.getElem?_setIfInBounds_self_of_lt (by first | omega | (simp only [Array.size_setIfInBounds]; omega))]
      · rw [e65, Array.getElem?_setIfInBounds_ne (by omega), Array.getElem?_setIfInBounds_ne (by omega), Array.getElem?_setIfInBounds_ne (by omega), Array.getElem?_setIfInBounds_ne (by omega), Array.getElem?_setIfInBounds_ne (by omega), Array.getElem?_setIfInBounds_self_of_lt (by first | omega | (simp only [Array.size_setIfInBounds]; omega))]
      · rw [e66, Array.getElem?_setIfInBounds_ne (by omega), Array.getElem?_setIfInBounds_ne (by omega), Array.getElem?_setIfInBounds_ne (by omega), Array.getElem?_setIfInBounds_ne (by omega), Array.getElem?_setIfInBounds_self_of_lt (by first | omega | (simp only [Array.size_setIfInBounds]; omega))]
      · rw [e67, Array.getElem?_setIfInBounds_ne (by omega), Array.getElem?_setIfInBounds_ne (by omega), Array.getElem?_setIfInBounds_ne (by omega), Array.getElem?_setIfInBounds_self_of_lt (by first | omega | (simp only [Array.size_setIfInBounds]; omega))]
      · rw [e68, Array.getElem?_setIfInBounds_ne (by omega), Array.getElem?_setIfInBounds_ne (by omega), Array.getElem?_setIfInBounds_self_of_lt (by first | omega | (simp only [Array.size_setIfInBounds]; omega))]
      · rw [e69, Array.getElem?_setIfInBounds_ne (by omega), Array.getElem?_setIfInBounds_self_of_lt (by first | omega | (simp only [Array.size_setIfInBounds]; omega))]
      · rw [h70, Array.getElem?_setIfInBounds_self_of_lt (by first | omega | (simp only [Array.size_setIfInBounds]; omega))]
  obtain ⟨tm, df⟩ := a
  exact congr (congrArg Act.mk ht) hd

theorem matches_one (r : Req) (l : List Lab) : matchesS [r] l = holdsR r l := by unfold matchesS; simp

theorem neg12 (k : Str) (vs : List Str) (l : List Lab) : (matchesS [⟨k, 1, vs⟩] l == matchesS [⟨k, 2, vs⟩] l) = false := by
  rw [matches_one, matches_one, holdsR_1, holdsR_2]; cases getB l k <;> cases hasS vs (getV l k) <;> rfl
theorem neg21 (k : Str) (vs : List Str) (l : List Lab) : (matchesS [⟨k, 2, vs⟩] l == matchesS [⟨k, 1, vs⟩] l) = false := by
  rw [matches_one, matches_one, holdsR_1, holdsR_2]; cases getB l k <;> cases hasS vs (getV l k) <;> rfl
theorem neg34 (k : Str) (vs : List Str) (l : List Lab) : (matchesS [⟨k, 3, vs⟩] l == matchesS [⟨k, 4, vs⟩] l) = false := by
  rw [matches_one, matches_one, holdsR_3, holdsR_4]; cases getB l k <;> rfl
theorem neg43 (k : Str) (vs : List Str) (l : List Lab) : (matchesS [⟨k, 4, vs⟩] l == matchesS [⟨k, 3, vs⟩] l) = false := by
  rw [matches_one, matches_one, holdsR_3, holdsR_4]; cases getB l k <;> rfl
theorem low_of {ops : Array Oper} (h : (ops.toList.zipIdx.all fun p => p.1.after.toList.all fun e => decide (e.on < p.2)) = true) (i : Nat) (o : Oper) (hio : ops[i]? = some o) (e : Edge) (he : e ∈ o.after) : e.on < i := by
  have h1 := List.all_eq_true.1 h (o, i) (List.mem_zipIdx_iff_getElem?.2 (by simpa using hio))
  have h2 := List.all_eq_true.1 h1 e (Array.mem_toList_iff.2 he)
  simpa using h2

end Go.Proofs.YtfohhokdcobhjaaDoor

/- The walk of LabelRoundTrip. -/
namespace Go.Proofs.YtfohhokdcobhjaaDoor
open Go.RowKit Go.Sort Go.Proofs.LawFrame

set_option maxRecDepth 4000 in
set_option maxHeartbeats 3000000 in
theorem roundTrip_walk (v vl : Value) (l : List Lab) (s : List Req) (w : World) (hs : Reqs w v s) (hl : Labs w vl l) :
    Calls Tryd.prog 8 #[v, vl] w fun e w' => e = .returned (.bool true) ∧ Below w.heap.size w w' := by
  have C1 := Lib.hid (small_any vl v l s w hl hs)
  obtain ⟨ao, cap, rfl, hlc, hcap⟩ := hs.slice
  unfold maxLen at hcap
  cases hS : smallB l s
  · rw [hS] at C1
    go_enter Tryd.func8, Tryd.ntmps8
    go_wp2_with fail
    refine C1.out.mono ?_
    rintro e W1 ⟨rfl, b1⟩
    go_wp2_with fail
    refine (lives_any W1).mono ?_
    rintro e X1 ⟨rfl, x1⟩
    go_wp2
    go_ret
    exact ⟨rfl, below_all b1 x1⟩
  have hbd := (small_s hS).2
  rw [hS] at C1
  clear hS
  go_enter Tryd.func8, Tryd.ntmps8
  go_wp2_with fail
  refine C1.out.mono ?_
  rintro e W1 ⟨rfl, b1⟩
  have hs1 := hs.all b1
  go_wp2_with fail
  refine (print_any _ s W1 hs1 hbd).mono ?_
  rintro e W2 ⟨rfl, b2⟩
  have b12 := below_all b1 b2
  clear C1 b1 b2 hs1
  by_cases hE : printE s = 0
  · have HP := Lib.hid (parse_print hE)
    have CP := Lib.hid (parse_any (printS s) W2 (by have := print_le s; omega))
    rw [HP.out.1, HP.out.2] at CP
    clear HP
    generalize printS s = ST at *
    generalize printE s = EE at *
    subst hE
    go_wp2_with fail
    refine CP.out.mono ?_
    rintro e W3 ⟨sv, rfl, hsv, b3⟩
    have b13 := below_all b12 b3
    go_wp2_with fail
    refine (sameSelector_any sv _ s W3 hsv (hs.all b13)).mono ?_
    rintro e W4 ⟨rfl, b4⟩
    have bw := below_all b13 b4
    clear CP b12 b13 b3 b4 hsv
    go_wp2_with fail
    go_loopg [39] s.length (fun g i wr => ∃ k : Nat, k ≤ s.length ∧ g = s.length - k ∧ i = .int .i64 k ∧ Below w.heap.size w wr)
    case atStart => exact ⟨0, Nat.zero_le _, rfl, rfl, bw⟩
    case round =>
      obtain ⟨k, hk, hg, rfl, hb⟩ := hrel
      have HG := Lib.hid hg
      clear hg bw
      by_cases hlt : k < s.length
      · have hx := get_some hlt
        generalize s[k] = x at hx
        obtain ⟨b, off, c, rfl, hi, c0, c1, c2⟩ := hs.at hb hx
        clear hx
        by_cases h1 : x.op = 1
        · go_upto_region 23 with fail
          have oA : Own ((wr.alloc (.cells #[sV x.key, .int .i64 1, .slice c.ao c.n c.cap] 43)).alloc (.cells #[sV x.key, .int .i64 2, .slice c.ao c.n c.cap] 43)) wr.heap.size [sV x.key, .int .i64 1, .slice c.ao c.n c.cap] 43 := (Own.new wr [sV x.key, .int .i64 1, .slice c.ao c.n c.cap] 43).alloc _
          have oB : Own ((wr.alloc (.cells #[sV x.key, .int .i64 1, .slice c.ao c.n c.cap] 43)).alloc (.cells #[sV x.key, .int .i64 2, .slice c.ao c.n c.cap] 43)) (wr.heap.size + 1) [sV x.key, .int .i64 2, .slice c.ao c.n c.cap] 43 := by
            have h := Own.new (wr.alloc (.cells #[sV x.key, .int .i64 1, .slice c.ao c.n c.cap] 43)) [sV x.key, .int .i64 2, .slice c.ao c.n c.cap] 43
            rw [size_alloc] at h
            exact h
          have hbR : Below wr.heap.size wr ((wr.alloc (.cells #[sV x.key, .int .i64 1, .slice c.ao c.n c.cap] 43)).alloc (.cells #[sV x.key, .int .i64 2, .slice c.ao c.n c.cap] 43)) := below_all (below_alloc wr _) (below_alloc _ _)
          change Code.wp Tryd.prog _ _ _ ((wr.alloc (.cells #[sV x.key, .int .i64 1, .slice c.ao c.n c.cap] 43)).alloc (.cells #[sV x.key, .int .i64 2, .slice c.ao c.n c.cap] 43))
          generalize ((wr.alloc (.cells #[sV x.key, .int .i64 1, .slice c.ao c.n c.cap] 43)).alloc (.cells #[sV x.key, .int .i64 2, .slice c.ao c.n c.cap] 43)) = WR at *
          have hMM : (matchesS [⟨x.key, 1, x.vals⟩] l == matchesS [⟨x.key, 2, x.vals⟩] l) = false := neg12 x.key x.vals l
          refine region23 (M := matchesS [⟨x.key, 1, x.vals⟩] l) (M2 := matchesS [⟨x.key, 2, x.vals⟩] l) rfl rfl rfl rfl rfl rfl rfl rfl rfl (by simp) (by simp) (by simp) (by simp) (by simp) (by simp) (by simp) (by simp) rfl ?_ rfl rfl rfl rfl oA oB ?_ ?_ ?_
          · exact low_of rfl
          · intro w' b' hw ob
            exact matches_any _ _ _ l w' (reqs_one (c := ⟨x.key, 1, c.ao, c.n, c.cap⟩) ob ⟨rfl, rfl, (hi.vals.all (below_all hbR hw))⟩) (hl.all (below_all hb (below_all hbR hw)))
          · intro w' b' hw ob
            exact matches_any _ _ _ l w' (reqs_one (c := ⟨x.key, 2, c.ao, c.n, c.cap⟩) ob ⟨rfl, rfl, (hi.vals.all (below_all hbR hw))⟩) (hl.all (below_all hb (below_all hbR hw)))
          · intro a' w' hd hz hkp h70 hbw
            obtain ⟨y0, y1, y2, y3, y4, y5, y6, y7, rfl⟩ := frame23 hd rfl hz hkp h70
            have hbE := below_all hb (below_all hbR hbw)
            rw [hMM]
            clear hkp h70 hd hz hMM
            simp only [List.setIfInBounds_toArray, List.set_cons_succ, List.set_cons_zero]
            go_wp2
            go_roundg (s.length - (k + 1))
            case measure => have := HG.out; omega
            case rel => exact ⟨k + 1, by omega, rfl, by go_num, hbE⟩
        by_cases h2 : x.op = 2
        · go_upto_region 23 with fail
          have oA : Own ((wr.alloc (.cells #[sV x.key, .int .i64 2, .slice c.ao c.n c.cap] 43)).alloc (.cells #[sV x.key, .int .i64 1, .slice c.ao c.n c.cap] 43)) wr.heap.size [sV x.key, .int .i64 2, .slice c.ao c.n c.cap] 43 := (Own.new wr [sV x.key, .int .i64 2, .slice c.ao c.n c.cap] 43).alloc _
          have oB : Own ((wr.alloc (.cells #[sV x.key, .int .i64 2, .slice c.ao c.n c.cap] 43)).alloc (.cells #[sV x.key, .int .i64 1, .slice c.ao c.n c.cap] 43)) (wr.heap.size + 1) [sV x.key, .int .i64 1, .slice c.ao c.n c.cap] 43 := by
            have h := Own.new (wr.alloc (.cells #[sV x.key, .int .i64 2, .slice c.ao c.n c.cap] 43)) [sV x.key, .int .i64 1, .slice c.ao c.n c.cap] 43
            rw [size_alloc] at h
            exact h
          have hbR : Below wr.heap.size wr ((wr.alloc (.cells #[sV x.key, .int .i64 2, .slice c.ao c.n c.cap] 43)).alloc (.cells #[sV x.key, .int .i64 1, .slice c.ao c.n c.cap] 43)) := below_all (below_alloc wr _) (below_alloc _ _)
          change Code.wp Tryd.prog _ _ _ ((wr.alloc (.cells #[sV x.key, .int .i64 2, .slice c.ao c.n c.cap] 43)).alloc (.cells #[sV x.key, .int .i64 1, .slice c.ao c.n c.cap] 43))
          generalize ((wr.alloc (.cells #[sV x.key, .int .i64 2, .slice c.ao c.n c.cap] 43)).alloc (.cells #[sV x.key, .int .i64 1, .slice c.ao c.n c.cap] 43)) = WR at *
          have hMM : (matchesS [⟨x.key, 2, x.vals⟩] l == matchesS [⟨x.key, 1, x.vals⟩] l) = false := neg21 x.key x.vals l
          refine region23 (M := matchesS [⟨x.key, 2, x.vals⟩] l) (M2 := matchesS [⟨x.key, 1, x.vals⟩] l) rfl rfl rfl rfl rfl rfl rfl rfl rfl (by simp) (by simp) (by simp) (by simp) (by simp) (by simp) (by simp) (by simp) rfl ?_ rfl rfl rfl rfl oA oB ?_ ?_ ?_
          · exact low_of rfl
          · intro w' b' hw ob
            exact matches_any _ _ _ l w' (reqs_one (c := ⟨x.key, 2, c.ao, c.n, c.cap⟩) ob ⟨rfl, rfl, (hi.vals.all (below_all hbR hw))⟩) (hl.all (below_all hb (below_all hbR hw)))
          · intro w' b' hw ob
            exact matches_any _ _ _ l w' (reqs_one (c := ⟨x.key, 1, c.ao, c.n, c.cap⟩) ob ⟨rfl, rfl, (hi.vals.all (below_all hbR hw))⟩) (hl.all (below_all hb (below_all hbR hw)))
          · intro a' w' hd hz hkp h70 hbw
            obtain ⟨y0, y1, y2, y3, y4, y5, y6, y7, rfl⟩ := frame23 hd rfl hz hkp h70
            have hbE := below_all hb (below_all hbR hbw)
            rw [hMM]
            clear hkp h70 hd hz hMM
            simp only [List.setIfInBounds_toArray, List.set_cons_succ, List.set_cons_zero]
            go_wp2
            go_roundg (s.length - (k + 1))
            case measure => have := HG.out; omega
            case rel => exact ⟨k + 1, by omega, rfl, by go_num, hbE⟩
        by_cases h3 : x.op = 3
        · go_upto_region 23 with fail
          have oA : Own ((wr.alloc (.cells #[sV x.key, .int .i64 3, .slice c.ao c.n c.cap] 43)).alloc (.cells #[sV x.key, .int .i64 4, .slice c.ao c.n c.cap] 43)) wr.heap.size [sV x.key, .int .i64 3, .slice c.ao c.n c.cap] 43 := (Own.new wr [sV x.key, .int .i64 3, .slice c.ao c.n c.cap] 43).alloc _
          have oB : Own ((wr.alloc (.cells #[sV x.key, .int .i64 3, .slice c.ao c.n c.cap] 43)).alloc (.cells #[sV x.key, .int .i64 4, .slice c.ao c.n c.cap] 43)) (wr.heap.size + 1) [sV x.key, .int .i64 4, .slice c.ao c.n c.cap] 43 := by
            have h := Own.new (wr.alloc (.cells #[sV x.key, .int .i64 3, .slice c.ao c.n c.cap] 43)) [sV x.key, .int .i64 4, .slice c.ao c.n c.cap] 43
            rw [size_alloc] at h
            exact h
          have hbR : Below wr.heap.size wr ((wr.alloc (.cells #[sV x.key, .int .i64 3, .slice c.ao c.n c.cap] 43)).alloc (.cells #[sV x.key, .int .i64 4, .slice c.ao c.n c.cap] 43)) := below_all (below_alloc wr _) (below_alloc _ _)
          change Code.wp Tryd.prog _ _ _ ((wr.alloc (.cells #[sV x.key, .int .i64 3, .slice c.ao c.n c.cap] 43)).alloc (.cells #[sV x.key, .int .i64 4, .slice c.ao c.n c.cap] 43))
          generalize ((wr.alloc (.cells #[sV x.key, .int .i64 3, .slice c.ao c.n c.cap] 43)).alloc (.cells #[sV x.key, .int .i64 4, .slice c.ao c.n c.cap] 43)) = WR at *
          have hMM : (matchesS [⟨x.key, 3, x.vals⟩] l == matchesS [⟨x.key, 4, x.vals⟩] l) = false := neg34 x.key x.vals l
          refine region23 (M := matchesS [⟨x.key, 3, x.vals⟩] l) (M2 := matchesS [⟨x.key, 4, x.vals⟩] l) rfl rfl rfl rfl rfl rfl rfl rfl rfl (by simp) (by simp) (by simp) (by simp) (by simp) (by simp) (by simp) (by simp) rfl ?_ rfl rfl rfl rfl oA oB ?_ ?_ ?_
          · exact low_of rfl
          · intro w' b' hw ob
            exact matches_any _ _ _ l w' (reqs_one (c := ⟨x.key, 3, c.ao, c.n, c.cap⟩) ob ⟨rfl, rfl, (hi.vals.all (below_all hbR hw))⟩) (hl.all (below_all hb (below_all hbR hw)))
          · intro w' b' hw ob
            exact matches_any _ _ _ l w' (reqs_one (c := ⟨x.key, 4, c.ao, c.n, c.cap⟩) ob ⟨rfl, rfl, (hi.vals.all (below_all hbR hw))⟩) (hl.all (below_all hb (below_all hbR hw)))
          · intro a' w' hd hz hkp h70 hbw
            obtain ⟨y0, y1, y2, y3, y4, y5, y6, y7, rfl⟩ := frame23 hd rfl hz hkp h70
            have hbE := below_all hb (below_all hbR hbw)
            rw [hMM]
            clear hkp h70 hd hz hMM
            simp only [List.setIfInBounds_toArray, List.set_cons_succ, List.set_cons_zero]
            go_wp2
            go_roundg (s.length - (k + 1))
            case measure => have := HG.out; omega
            case rel => exact ⟨k + 1, by omega, rfl, by go_num, hbE⟩
        by_cases h4 : x.op = 4
        · go_upto_region 23 with fail
          have oA : Own ((wr.alloc (.cells #[sV x.key, .int .i64 4, .slice c.ao c.n c.cap] 43)).alloc (.cells #[sV x.key, .int .i64 3, .slice c.ao c.n c.cap] 43)) wr.heap.size [sV x.key, .int .i64 4, .slice c.ao c.n c.cap] 43 := (Own.new wr [sV x.key, .int .i64 4, .slice c.ao c.n c.cap] 43).alloc _
          have oB : Own ((wr.alloc (.cells #[sV x.key, .int .i64 4, .slice c.ao c.n c.cap] 43)).alloc (.cells #[sV x.key, .int .i64 3, .slice c.ao c.n c.cap] 43)) (wr.heap.size + 1) [sV x.key, .int .i64 3, .slice c.ao c.n c.cap] 43 := by
            have h := Own.new (wr.alloc (.cells #[sV x.key, .int .i64 4, .slice c.ao c.n c.cap] 43)) [sV x.key, .int .i64 3, .slice c.ao c.n c.cap] 43
            rw [size_alloc] at h
            exact h
          have hbR : Below wr.heap.size wr ((wr.alloc (.cells #[sV x.key, .int .i64 4, .slice c.ao c.n c.cap] 43)).alloc (.cells #[sV x.key, .int .i64 3, .slice c.ao c.n c.cap] 43)) := below_all (below_alloc wr _) (below_alloc _ _)
          change Code.wp Tryd.prog _ _ _ ((wr.alloc (.cells #[sV x.key, .int .i64 4, .slice c.ao c.n c.cap] 43)).alloc (.cells #[sV x.key, .int .i64 3, .slice c.ao c.n c.cap] 43))
          generalize ((wr.alloc (.cells #[sV x.key, .int .i64 4, .slice c.ao c.n c.cap] 43)).alloc (.cells #[sV x.key, .int .i64 3, .slice c.ao c.n c.cap] 43)) = WR at *
          have hMM : (matchesS [⟨x.key, 4, x.vals⟩] l == matchesS [⟨x.key, 3, x.vals⟩] l) = false := neg43 x.key x.vals l
          refine region23 (M := matchesS [⟨x.key, 4, x.vals⟩] l) (M2 := matchesS [⟨x.key, 3, x.vals⟩] l) rfl rfl rfl rfl rfl rfl rfl rfl rfl (by simp) (by simp) (by simp) (by simp) (by simp) (by simp) (by simp) (by simp) rfl ?_ rfl rfl rfl rfl oA oB ?_ ?_ ?_
          · exact low_of rfl
          · intro w' b' hw ob
            exact matches_any _ _ _ l w' (reqs_one (c := ⟨x.key, 4, c.ao, c.n, c.cap⟩) ob ⟨rfl, rfl, (hi.vals.all (below_all hbR hw))⟩) (hl.all (below_all hb (below_all hbR hw)))
          · intro w' b' hw ob
            exact matches_any _ _ _ l w' (reqs_one (c := ⟨x.key, 3, c.ao, c.n, c.cap⟩) ob ⟨rfl, rfl, (hi.vals.all (below_all hbR hw))⟩) (hl.all (below_all hb (below_all hbR hw)))
          · intro a' w' hd hz hkp h70 hbw
            obtain ⟨y0, y1, y2, y3, y4, y5, y6, y7, rfl⟩ := frame23 hd rfl hz hkp h70
            have hbE := below_all hb (below_all hbR hbw)
            rw [hMM]
            clear hkp h70 hd hz hMM
            simp only [List.setIfInBounds_toArray, List.set_cons_succ, List.set_cons_zero]
            go_wp2
            go_roundg (s.length - (k + 1))
            case measure => have := HG.out; omega
            case rel => exact ⟨k + 1, by omega, rfl, by go_num, hbE⟩
        have r1 : (x.op == 1) = false := by simpa using h1
        have r2 : (x.op == 2) = false := by simpa using h2
        have r3 : (x.op == 3) = false := by simpa using h3
        have r4 : (x.op == 4) = false := by simpa using h4
        go_wp2_with fail
        have oC : Own (((wr.alloc (.cells #[sV x.key, .int .i64 x.op, .slice c.ao c.n c.cap] 43)).alloc (.cells #[sV x.key, .int .i64 x.op, .slice c.ao c.n c.cap] 43)).alloc (.cells #[sV x.key, .int .i64 x.op, .slice c.ao c.n c.cap] 43)) (wr.heap.size + 1 + 1) [sV x.key, .int .i64 x.op, .slice c.ao c.n c.cap] 43 := by
          have h := Own.new ((wr.alloc (.cells #[sV x.key, .int .i64 x.op, .slice c.ao c.n c.cap] 43)).alloc (.cells #[sV x.key, .int .i64 x.op, .slice c.ao c.n c.cap] 43)) [sV x.key, .int .i64 x.op, .slice c.ao c.n c.cap] 43
          rw [size_alloc, size_alloc] at h
          exact h
        have hbR : Below wr.heap.size wr (((wr.alloc (.cells #[sV x.key, .int .i64 x.op, .slice c.ao c.n c.cap] 43)).alloc (.cells #[sV x.key, .int .i64 x.op, .slice c.ao c.n c.cap] 43)).alloc (.cells #[sV x.key, .int .i64 x.op, .slice c.ao c.n c.cap] 43)) := below_all (below_all (below_alloc wr _) (below_alloc _ _)) (below_alloc _ _)
        have hbE := below_all hb hbR
        have CM := Lib.hid (matches_any _ _ [⟨x.key, x.op, x.vals⟩] l _ (reqs_one (c := ⟨x.key, x.op, c.ao, c.n, c.cap⟩) oC ⟨rfl, rfl, hi.vals.all hbR⟩) (hl.all hbE))
        rw [matches_one, holdsR_no _ _ _ h1 h2 h3 h4] at CM
        refine CM.out.mono ?_
        rintro e w' ⟨rfl, hbw⟩
        have hbF := below_all hbE hbw
        clear CM
        go_wp2
        go_roundg (s.length - (k + 1))
        case measure => have := HG.out; omega
        case rel => exact ⟨k + 1, by omega, rfl, by go_num, hbF⟩
      · obtain rfl : k = s.length := by omega
        go_wp2_with fail
        refine (lives_any _).mono ?_
        rintro e X1 ⟨rfl, x1⟩
        go_wp2
        go_ret
        exact ⟨rfl, below_all hb x1⟩
  · have q1 : (printE s == 0) = false := by simpa using hE
    have bw := b12
    generalize printS s = ST at *
    generalize printE s = EE at *
    go_wp2_with fail
    go_loopg [39] s.length (fun g i wr => ∃ k : Nat, k ≤ s.length ∧ g = s.length - k ∧ i = .int .i64 k ∧ Below w.heap.size w wr)
    case atStart => exact ⟨0, Nat.zero_le _, rfl, rfl, bw⟩
    case round =>
      obtain ⟨k, hk, hg, rfl, hb⟩ := hrel
      have HG := Lib.hid hg
      clear hg bw
      by_cases hlt : k < s.length
      · have hx := get_some hlt
        generalize s[k] = x at hx
        obtain ⟨b, off, c, rfl, hi, c0, c1, c2⟩ := hs.at hb hx
        clear hx
        by_cases h1 : x.op = 1
        · go_upto_region 23 with fail
          have oA : Own ((wr.alloc (.cells #[sV x.key, .int .i64 1, .slice c.ao c.n c.cap] 43)).alloc (.cells #[sV x.key, .int .i64 2, .slice c.ao c.n c.cap] 43)) wr.heap.size [sV x.key, .int .i64 1, .slice c.ao c.n c.cap] 43 := (Own.new wr [sV x.key, .int .i64 1, .slice c.ao c.n c.cap] 43).alloc _
          have oB : Own ((wr.alloc (.cells #[sV x.key, .int .i64 1, .slice c.ao c.n c.cap] 43)).alloc (.cells #[sV x.key, .int .i64 2, .slice c.ao c.n c.cap] 43)) (wr.heap.size + 1) [sV x.key, .int .i64 2, .slice c.ao c.n c.cap] 43 := by
            have h := Own.new (wr.alloc (.cells #[sV x.key, .int .i64 1, .slice c.ao c.n c.cap] 43)) [sV x.key, .int .i64 2, .slice c.ao c.n c.cap] 43
            rw [size_alloc] at h
            exact h
          have hbR : Below wr.heap.size wr ((wr.alloc (.cells #[sV x.key, .int .i64 1, .slice c.ao c.n c.cap] 43)).alloc (.cells #[sV x.key, .int .i64 2, .slice c.ao c.n c.cap] 43)) := below_all (below_alloc wr _) (below_alloc _ _)
          change Code.wp Tryd.prog _ _ _ ((wr.alloc (.cells #[sV x.key, .int .i64 1, .slice c.ao c.n c.cap] 43)).alloc (.cells #[sV x.key, .int .i64 2, .slice c.ao c.n c.cap] 43))
          generalize ((wr.alloc (.cells #[sV x.key, .int .i64 1, .slice c.ao c.n c.cap] 43)).alloc (.cells #[sV x.key, .int .i64 2, .slice c.ao c.n c.cap] 43)) = WR at *
          have hMM : (matchesS [⟨x.key, 1, x.vals⟩] l == matchesS [⟨x.key, 2, x.vals⟩] l) = false := neg12 x.key x.vals l
          refine region23 (M := matchesS [⟨x.key, 1, x.vals⟩] l) (M2 := matchesS [⟨x.key, 2, x.vals⟩] l) rfl rfl rfl rfl rfl rfl rfl rfl rfl (by simp) (by simp) (by simp) (by simp) (by simp) (by simp) (by simp) (by simp) rfl ?_ rfl rfl rfl rfl oA oB ?_ ?_ ?_
          · exact low_of rfl
          · intro w' b' hw ob
            exact matches_any _ _ _ l w' (reqs_one (c := ⟨x.key, 1, c.ao, c.n, c.cap⟩) ob ⟨rfl, rfl, (hi.vals.all (below_all hbR hw))⟩) (hl.all (below_all hb (below_all hbR hw)))
          · intro w' b' hw ob
            exact matches_any _ _ _ l w' (reqs_one (c := ⟨x.key, 2, c.ao, c.n, c.cap⟩) ob ⟨rfl, rfl, (hi.vals.all (below_all hbR hw))⟩) (hl.all (below_all hb (below_all hbR hw)))
          · intro a' w' hd hz hkp h70 hbw
            obtain ⟨y0, y1, y2, y3, y4, y5, y6, y7, rfl⟩ := frame23 hd rfl hz hkp h70
            have hbE := below_all hb (below_all hbR hbw)
            rw [hMM]
            clear hkp h70 hd hz hMM
            simp only [List.setIfInBounds_toArray, List.set_cons_succ, List.set_cons_zero]
            go_wp2
            go_roundg (s.length - (k + 1))
            case measure => have := HG.out; omega
            case rel => exact ⟨k + 1, by omega, rfl, by go_num, hbE⟩
        by_cases h2 : x.op = 2
        · go_upto_region 23 with fail
          have oA : Own ((wr.alloc (.cells #[sV x.key, .int .i64 2, .slice c.ao c.n c.cap] 43)).alloc (.cells #[sV x.key, .int .i64 1, .slice c.ao c.n c.cap] 43)) wr.heap.size [sV x.key, .int .i64 2, .slice c.ao c.n c.cap] 43 := (Own.new wr [sV x.key, .int .i64 2, .slice c.ao c.n c.cap] 43).alloc _
          have oB : Own ((wr.alloc (.cells #[sV x.key, .int .i64 2, .slice c.ao c.n c.cap] 43)).alloc (.cells #[sV x.key, .int .i64 1, .slice c.ao c.n c.cap] 43)) (wr.heap.size + 1) [sV x.key, .int .i64 1, .slice c.ao c.n c.cap] 43 := by
            have h := Own.new (wr.alloc (.cells #[sV x.key, .int .i64 2, .slice c.ao c.n c.cap] 43)) [sV x.key, .int .i64 1, .slice c.ao c.n c.cap] 43
            rw [size_alloc] at h
            exact h
          have hbR : Below wr.heap.size wr ((wr.alloc (.cells #[sV x.key, .int .i64 2, .slice c.ao c.n c.cap] 43)).alloc (.cells #[sV x.key, .int .i64 1, .slice c.ao c.n c.cap] 43)) := below_all (below_alloc wr _) (below_alloc _ _)
          change Code.wp Tryd.prog _ _ _ ((wr.alloc (.cells #[sV x.key, .int .i64 2, .slice c.ao c.n c.cap] 43)).alloc (.cells #[sV x.key, .int .i64 1, .slice c.ao c.n c.cap] 43))
          generalize ((wr.alloc (.cells #[sV x.key, .int .i64 2, .slice c.ao c.n c.cap] 43)).alloc (.cells #[sV x.key, .int .i64 1, .slice c.ao c.n c.cap] 43)) = WR at *
          have hMM : (matchesS [⟨x.key, 2, x.vals⟩] l == matchesS [⟨x.key, 1, x.vals⟩] l) = false := neg21 x.key x.vals l
          refine region23 (M := matchesS [⟨x.key, 2, x.vals⟩] l) (M2 := matchesS [⟨x.key, 1, x.vals⟩] l) rfl rfl rfl rfl rfl rfl rfl rfl rfl (by simp) (by simp) (by simp) (by simp) (by simp) (by simp) (by simp) (by simp) rfl ?_ rfl rfl rfl rfl oA oB ?_ ?_ ?_
          · exact low_of rfl
          · intro w' b' hw ob
            exact matches_any _ _ _ l w' (reqs_one (c := ⟨x.key, 2, c.ao, c.n, c.cap⟩) ob ⟨rfl, rfl, (hi.vals.all (below_all hbR hw))⟩) (hl.all (below_all hb (below_all hbR hw)))
          · intro w' b' hw ob
            exact matches_any _ _ _ l w' (reqs_one (c := ⟨x.key, 1, c.ao, c.n, c.cap⟩) ob ⟨rfl, rfl, (hi.vals.all (below_all hbR hw))⟩) (hl.all (below_all hb (below_all hbR hw)))
          · intro a' w' hd hz hkp h70 hbw
            obtain ⟨y0, y1, y2, y3, y4, y5, y6, y7, rfl⟩ := frame23 hd rfl hz hkp h70
            have hbE := below_all hb (below_all hbR hbw)
            rw [hMM]
            clear hkp h70 hd hz hMM
            simp only [List.setIfInBounds_toArray, List.set_cons_succ, List.set_cons_zero]
            go_wp2
            go_roundg (s.length - (k + 1))
            case measure => have := HG.out; omega
            case rel => exact ⟨k + 1, by omega, rfl, by go_num, hbE⟩
        by_cases h3 : x.op = 3
        · go_upto_region 23 with fail
          have oA : Own ((wr.alloc (.cells #[sV x.key, .int .i64 3, .slice c.ao c.n c.cap] 43)).alloc (.cells #[sV x.key, .int .i64 4, .slice c.ao c.n c.cap] 43)) wr.heap.size [sV x.key, .int .i64 3, .slice c.ao c.n c.cap] 43 := (Own.new wr [sV x.key, .int .i64 3, .slice c.ao c.n c.cap] 43).alloc _
          have oB : Own ((wr.alloc (.cells #[sV x.key, .int .i64 3, .slice c.ao c.n c.cap] 43)).alloc (.cells #[sV x.key, .int .i64 4, .slice c.ao c.n c.cap] 43)) (wr.heap.size + 1) [sV x.key, .int .i64 4, .slice c.ao c.n c.cap] 43 := by
            have h := Own.new (wr.alloc (.cells #[sV x.key, .int .i64 3, .slice c.ao c.n c.cap] 43)) [sV x.key, .int .i64 4, .slice c.ao c.n c.cap] 43
            rw [size_alloc] at h
            exact h
          have hbR : Below wr.heap.size wr ((wr.alloc (.cells #[sV x.key, .int .i64 3, .slice c.ao c.n c.cap] 43)).alloc (.cells #[sV x.key, .int .i64 4, .slice c.ao c.n c.cap] 43)) := below_all (below_alloc wr _) (below_alloc _ _)
          change Code.wp Tryd.prog _ _ _ ((wr.alloc (.cells #[sV x.key, .int .i64 3, .slice c.ao c.n c.cap] 43)).alloc (.cells #[sV x.key, .int .i64 4, .slice c.ao c.n c.cap] 43))
          generalize ((wr.alloc (.cells #[sV x.key, .int .i64 3, .slice c.ao c.n c.cap] 43)).alloc (.cells #[sV x.key, .int .i64 4, .slice c.ao c.n c.cap] 43)) = WR at *
          have hMM : (matchesS [⟨x.key, 3, x.vals⟩] l == matchesS [⟨x.key, 4, x.vals⟩] l) = false := neg34 x.key x.vals l
          refine region23 (M := matchesS [⟨x.key, 3, x.vals⟩] l) (M2 := matchesS [⟨x.key, 4, x.vals⟩] l) rfl rfl rfl rfl rfl rfl rfl rfl rfl (by simp) (by simp) (by simp) (by simp) (by simp) (by simp) (by simp) (by simp) rfl ?_ rfl rfl rfl rfl oA oB ?_ ?_ ?_
          · exact low_of rfl
          · intro w' b' hw ob
            exact matches_any _ _ _ l w' (reqs_one (c := ⟨x.key, 3, c.ao, c.n, c.cap⟩) ob ⟨rfl, rfl, (hi.vals.all (below_all hbR hw))⟩) (hl.all (below_all hb (below_all hbR hw)))
          · intro w' b' hw ob
            exact matches_any _ _ _ l w' (reqs_one (c := ⟨x.key, 4, c.ao, c.n, c.cap⟩) ob ⟨rfl, rfl, (hi.vals.all (below_all hbR hw))⟩) (hl.all (below_all hb (below_all hbR hw)))
          · intro a' w' hd hz hkp h70 hbw
            obtain ⟨y0, y1, y2, y3, y4, y5, y6, y7, rfl⟩ := frame23 hd rfl hz hkp h70
            have hbE := below_all hb (below_all hbR hbw)
            rw [hMM]
            clear hkp h70 hd hz hMM
            simp only [List.setIfInBounds_toArray, List.set_cons_succ, List.set_cons_zero]
            go_wp2
            go_roundg (s.length - (k + 1))
            case measure => have := HG.out; omega
            case rel => exact ⟨k + 1, by omega, rfl, by go_num, hbE⟩
        by_cases h4 : x.op = 4
        · go_upto_region 23 with fail
          have oA : Own ((wr.alloc (.cells #[sV x.key, .int .i64 4, .slice c.ao c.n c.cap] 43)).alloc (.cells #[sV x.key, .int .i64 3, .slice c.ao c.n c.cap] 43)) wr.heap.size [sV x.key, .int .i64 4, .slice c.ao c.n c.cap] 43 := (Own.new wr [sV x.key, .int .i64 4, .slice c.ao c.n c.cap] 43).alloc _
          have oB : Own ((wr.alloc (.cells #[sV x.key, .int .i64 4, .slice c.ao c.n c.cap] 43)).alloc (.cells #[sV x.key, .int .i64 3, .slice c.ao c.n c.cap] 43)) (wr.heap.size + 1) [sV x.key, .int .i64 3, .slice c.ao c.n c.cap] 43 := by
            have h := Own.new (wr.alloc (.cells #[sV x.key, .int .i64 4, .slice c.ao c.n c.cap] 43)) [sV x.key, .int .i64 3, .slice c.ao c.n c.cap] 43
            rw [size_alloc] at h
            exact h
          have hbR : Below wr.heap.size wr ((wr.alloc (.cells #[sV x.key, .int .i64 4, .slice c.ao c.n c.cap] 43)).alloc (.cells #[sV x.key, .int .i64 3, .slice c.ao c.n c.cap] 43)) := below_all (below_alloc wr _) (below_alloc _ _)
          change Code.wp Tryd.prog _ _ _ ((wr.alloc (.cells #[sV x.key, .int .i64 4, .slice c.ao c.n c.cap] 43)).alloc (.cells #[sV x.key, .int .i64 3, .slice c.ao c.n c.cap] 43))
          generalize ((wr.alloc (.cells #[sV x.key, .int .i64 4, .slice c.ao c.n c.cap] 43)).alloc (.cells #[sV x.key, .int .i64 3, .slice c.ao c.n c.cap] 43)) = WR at *
          have hMM : (matchesS [⟨x.key, 4, x.vals⟩] l == matchesS [⟨x.key, 3, x.vals⟩] l) = false := neg43 x.key x.vals l
          refine region23 (M := matchesS [⟨x.key, 4, x.vals⟩] l) (M2 := matchesS [⟨x.key, 3, x.vals⟩] l) rfl rfl rfl rfl rfl rfl rfl rfl rfl (by simp) (by simp) (by simp) (by simp) (by simp) (by simp) (by simp) (by simp) rfl ?_ rfl rfl rfl rfl oA oB ?_ ?_ ?_
          · exact low_of rfl
          · intro w' b' hw ob
            exact matches_any _ _ _ l w' (reqs_one (c := ⟨x.key, 4, c.ao, c.n, c.cap⟩) ob ⟨rfl, rfl, (hi.vals.all (below_all hbR hw))⟩) (hl.all (below_all hb (below_all hbR hw)))
          · intro w' b' hw ob
            exact matches_any _ _ _ l w' (reqs_one (c := ⟨x.key, 3, c.ao, c.n, c.cap⟩) ob ⟨rfl, rfl, (hi.vals.all (below_all hbR hw))⟩) (hl.all (below_all hb (below_all hbR hw)))
          · intro a' w' hd hz hkp h70 hbw
            obtain ⟨y0, y1, y2, y3, y4, y5, y6, y7, rfl⟩ := frame23 hd rfl hz hkp h70
            have hbE := below_all hb (below_all hbR hbw)
            rw [hMM]
            clear hkp h70 hd hz hMM
            simp only [List.setIfInBounds_toArray, List.set_cons_succ, List.set_cons_zero]
            go_wp2
            go_roundg (s.length - (k + 1))
            case measure => have := HG.out; omega
            case rel => exact ⟨k + 1, by omega, rfl, by go_num, hbE⟩
        have r1 : (x.op == 1) = false := by simpa using h1
        have r2 : (x.op == 2) = false := by simpa using h2
        have r3 : (x.op == 3) = false := by simpa using h3
        have r4 : (x.op == 4) = false := by simpa using h4
        go_wp2_with fail
        have oC : Own (((wr.alloc (.cells #[sV x.key, .int .i64 x.op, .slice c.ao c.n c.cap] 43)).alloc (.cells #[sV x.key, .int .i64 x.op, .slice c.ao c.n c.cap] 43)).alloc (.cells #[sV x.key, .int .i64 x.op, .slice c.ao c.n c.cap] 43)) (wr.heap.size + 1 + 1) [sV x.key, .int .i64 x.op, .slice c.ao c.n c.cap] 43 := by
          have h := Own.new ((wr.alloc (.cells #[sV x.key, .int .i64 x.op, .slice c.ao c.n c.cap] 43)).alloc (.cells #[sV x.key, .int .i64 x.op, .slice c.ao c.n c.cap] 43)) [sV x.key, .int .i64 x.op, .slice c.ao c.n c.cap] 43
          rw [size_alloc, size_alloc] at h
          exact h
        have hbR : Below wr.heap.size wr (((wr.alloc (.cells #[sV x.key, .int .i64 x.op, .slice c.ao c.n c.cap] 43)).alloc (.cells #[sV x.key, .int .i64 x.op, .slice c.ao c.n c.cap] 43)).alloc (.cells #[sV x.key, .int .i64 x.op, .slice c.ao c.n c.cap] 43)) := below_all (below_all (below_alloc wr _) (below_alloc _ _)) (below_alloc _ _)
        have hbE := below_all hb hbR
        have CM := Lib.hid (matches_any _ _ [⟨x.key, x.op, x.vals⟩] l _ (reqs_one (c := ⟨x.key, x.op, c.ao, c.n, c.cap⟩) oC ⟨rfl, rfl, hi.vals.all hbR⟩) (hl.all hbE))
        rw [matches_one, holdsR_no _ _ _ h1 h2 h3 h4] at CM
        refine CM.out.mono ?_
        rintro e w' ⟨rfl, hbw⟩
        have hbF := below_all hbE hbw
        clear CM
        go_wp2
        go_roundg (s.length - (k + 1))
        case measure => have := HG.out; omega
        case rel => exact ⟨k + 1, by omega, rfl, by go_num, hbF⟩
      · obtain rfl : k = s.length := by omega
        go_wp2_with fail
        refine (lives_any _).mono ?_
        rintro e X1 ⟨rfl, x1⟩
        go_wp2
        go_ret
        exact ⟨rfl, below_all hb x1⟩
end Go.Proofs.YtfohhokdcobhjaaDoor
