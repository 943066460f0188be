/- Value trees in memory of their own, each part apart from the others; copies are such. -/
import Derived.Test.YtinenbgdkchghaaCaJ
set_option linter.unusedSimpArgs false
set_option linter.unusedVariables false
namespace Go.Proofs.Ytinenbgdkchghaa
open Go.RowKit Go.Sort Go.Proofs.LawFrame

/-- a row that fills its block b, or none -/
structure RowB (w : World) (b : Nat) (ty : TypeId) (v : Value) (n : Nat) (xs : List Value) : Prop where
  out : (n = 0 ∧ v = .slice none 0 0) ∨ (0 < n ∧ v = .slice (some ⟨b, 0, none⟩) n n ∧ n ≤ maxLen ∧ Own w b xs ty)
theorem RowB.keep {w w' : World} {b : Nat} {ty : TypeId} {v : Value} {n : Nat} {xs : List Value} (h : RowB w b ty v n xs) (hk : 0 < n → w'.heap[b]? = w.heap[b]?) : RowB w' b ty v n xs := by
  rcases h.out with h | ⟨h0, h1, h2, h3⟩
  · exact ⟨Or.inl h⟩
  · exact ⟨Or.inr ⟨h0, h1, h2, (hk h0).trans h3⟩⟩
theorem RowB.flat {w : World} {b : Nat} {ty : TypeId} {v : Value} {n : Nat} {xs : List Value} (h : RowB w b ty v n xs) : Flat w v n xs := by
  rcases h.out with ⟨rfl, rfl⟩ | ⟨h0, h1, h2, h3⟩
  · exact Flat.nil w none 0 (Nat.zero_le _) xs
  · exact ⟨_, _, h1, Nat.le_refl _, h2, fun _ => ⟨b, 0, rfl, h3.lt, fun j x hx => by rw [Nat.zero_add]; exact h3.cell hx⟩⟩
theorem RowB.slice {w : World} {b : Nat} {ty : TypeId} {v : Value} {n : Nat} {xs : List Value} (h : RowB w b ty v n xs) : ∃ a m c, v = .slice a m c := by
  rcases h.out with ⟨-, h⟩ | ⟨-, h, -⟩ <;> exact ⟨_, _, _, h⟩
theorem chain_le {P : Nat → Nat} {n : Nat} (h : ∀ i, i < n → P i ≤ P (i + 1)) {i : Nat} : ∀ {j : Nat}, i ≤ j → j ≤ n → P i ≤ P j
  | 0, h1, _ => by obtain rfl : i = 0 := by omega
                   exact Nat.le_refl _
  | j + 1, h1, h2 => by
    by_cases e : i = j + 1
    · subst e; exact Nat.le_refl _
    · exact Nat.le_trans (chain_le h (i := i) (j := j) (by omega) (by omega)) (h j (by omega))

/-- these cells are that tree, whose memory lies in the blocks from lo to hi, each part's apart from the others' -/
inductive IsS (w : World) : Nat → Nat → VC → T → Prop
  | mk {lo hi : Nat} {c : VC} {l : List T} {f : List (Str × T)} (cs : List VC) (fs : List FC) (bl bf : Nat) (P Q : Nat → Nat)
      (h1 : lo ≤ P 0) (h2 : 0 < l.length → lo ≤ bl ∧ bl < P 0) (h3 : ∀ i, i < l.length → P i ≤ P (i + 1)) (h4 : P l.length ≤ Q 0) (h5 : 0 < f.length → P l.length ≤ bf ∧ bf < Q 0)
      (h6 : ∀ i, i < f.length → Q i ≤ Q (i + 1)) (h7 : Q f.length ≤ hi)
      (hl1 : cs.length = l.length) (hl2 : RowB w bl 25 (.slice c.la c.ln c.lc) l.length (cs.flatMap VC.cells))
      (hl3 : ∀ (i : Nat) (x : VC) (t : T), cs[i]? = some x → l[i]? = some t → IsS w (P i) (P (i + 1)) x t)
      (hf1 : fs.length = f.length) (hf2 : RowB w bf 33 (.slice c.fa c.fn c.fc) f.length (fs.flatMap FC.cells))
      (hf3 : ∀ (i : Nat) (x : FC) (p : Str × T), fs[i]? = some x → f[i]? = some p → x.x = p.1)
      (hf4 : ∀ (i : Nat) (x : FC) (p : Str × T), fs[i]? = some x → f[i]? = some p → IsS w (Q i) (Q (i + 1)) x.v p.2) : IsS w lo hi c (.mk c.k c.n c.s l f)
theorem IsS.keep {w w' : World} {lo hi : Nat} {c : VC} {t : T} (h : IsS w lo hi c t) : (∀ b, lo ≤ b → b < hi → w'.heap[b]? = w.heap[b]?) → IsS w' lo hi c t := by
  induction h with
  | mk cs fs bl bf P Q h1 h2 h3 h4 h5 h6 h7 hl1 hl2 hl3 hf1 hf2 hf3 hf4 ih1 ih2 =>
    rename_i lo hi c l f
    intro hk
    have hP := fun i (hi : i ≤ l.length) => chain_le h3 hi (Nat.le_refl _)
    have hQ := fun i (hi : i ≤ f.length) => chain_le h6 hi (Nat.le_refl _)
    have hP0 := fun i (hi : i ≤ l.length) => chain_le h3 (Nat.zero_le i) hi
    have hQ0 := fun i (hi : i ≤ f.length) => chain_le h6 (Nat.zero_le i) hi
    have e1 := hP 0 (Nat.zero_le _)
    have e2 := hQ 0 (Nat.zero_le _)
    refine .mk cs fs bl bf P Q h1 h2 h3 h4 h5 h6 h7 hl1 (hl2.keep (fun hn => hk bl (h2 hn).1 (by have := (h2 hn).2; omega))) (fun i x t hx ht => ih1 i x t hx ht (fun b hb1 hb2 => ?_)) hf1 (hf2.keep (fun hn => hk bf (by have := (h5 hn).1; omega) (by have := (h5 hn).2; omega))) hf3 (fun i x t hx ht => ih2 i x t hx ht (fun b hb1 hb2 => ?_))
    · have hi := (List.getElem?_eq_some_iff.1 ht).1
      have := hP (i + 1) (by omega); have := hP0 i (by omega)
      exact hk b (by omega) (by omega)
    · have hi := (List.getElem?_eq_some_iff.1 ht).1
      have := hQ (i + 1) (by omega); have := hQ0 i (by omega)
      exact hk b (by omega) (by omega)
theorem IsS.mono {w : World} {lo hi lo' hi' : Nat} {c : VC} {t : T} (h : IsS w lo hi c t) (h1' : lo' ≤ lo) (h2' : hi ≤ hi') : IsS w lo' hi' c t := by
  cases h with
  | mk cs fs bl bf P Q h1 h2 h3 h4 h5 h6 h7 hl1 hl2 hl3 hf1 hf2 hf3 hf4 =>
    exact .mk cs fs bl bf P Q (by omega) (fun hn => ⟨by have := (h2 hn).1; omega, (h2 hn).2⟩) h3 h4 h5 h6 (by omega) hl1 hl2 hl3 hf1 hf2 hf3 hf4
theorem IsS.is {w : World} {lo hi : Nat} {c : VC} {t : T} (h : IsS w lo hi c t) : Is w c t := by
  induction h with
  | mk cs fs bl bf P Q h1 h2 h3 h4 h5 h6 h7 hl1 hl2 hl3 hf1 hf2 hf3 hf4 ih1 ih2 => exact .mk cs fs hl1 hl2.flat ih1 hf1 hf2.flat hf3 ih2
theorem IsS.all {w w' : World} {lo hi : Nat} {c : VC} {t : T} (h : IsS w lo hi c t) (hb : Below w.heap.size w w') (hh : hi ≤ w.heap.size) : IsS w' lo hi c t := h.keep (fun b _ h2 => hb.block b (by omega))
theorem IsS.set {w : World} {lo hi : Nat} {c : VC} {t : T} (h : IsS w lo hi c t) {b : Nat} (hb : b < lo ∨ hi ≤ b) (i : Nat) (v : Value) : IsS (w.setCell ⟨b, i, none⟩ v) lo hi c t := h.keep (fun b' h1 h2 => Below.heap_setCell _ _ _ _ (by show b' ≠ b; omega))
theorem setCell_size (w : World) (a : Addr) (v : Value) : (w.setCell a v).heap.size = w.heap.size := by unfold World.setCell; simp

def stitch (P : Nat → Nat) (k hi i : Nat) : Nat := if i ≤ k then P i else hi
theorem stitch_le {P : Nat → Nat} {k hi i : Nat} (h : i ≤ k) : stitch P k hi i = P i := if_pos h
theorem stitch_gt {P : Nat → Nat} {k hi i : Nat} (h : k < i) : stitch P k hi i = hi := if_neg (by omega)

structure NewLS (lo hi : Nat) (w : World) (v : Value) (l : List (T)) : Prop where
  out : ∃ (b : Nat) (cs : List VC) (P : Nat → Nat), lo ≤ P 0 ∧ (0 < l.length → lo ≤ b ∧ b < P 0) ∧ (∀ i, i < l.length → P i ≤ P (i + 1)) ∧ P l.length ≤ hi ∧ cs.length = l.length ∧ RowB w b 25 v l.length (cs.flatMap VC.cells) ∧
    ∀ (i : Nat) (x : VC) (t : T), cs[i]? = some x → l[i]? = some t → IsS w (P i) (P (i + 1)) x t
theorem NewLS.nil (lo : Nat) (w : World) (v : Value) (hv : v = .slice none 0 0) : NewLS lo lo w v [] := ⟨0, [], fun _ => lo, Nat.le_refl _, fun h => absurd h (by simp), fun i h => absurd h (by simp), Nat.le_refl _, rfl, ⟨Or.inl ⟨rfl, hv⟩⟩, fun i x t hx => by simp at hx⟩
theorem NewLS.keep {lo hi : Nat} {w w' : World} {v : Value} {l : List (T)} (h : NewLS lo hi w v l) (hk : ∀ b, lo ≤ b → b < hi → w'.heap[b]? = w.heap[b]?) : NewLS lo hi w' v l := by
  obtain ⟨b, cs, P, h1, h2, h3, h4, h5, h6, h7⟩ := h.out
  have hP := fun i (hi : i ≤ l.length) => chain_le h3 hi (Nat.le_refl _)
  have hP0 := fun i (hi : i ≤ l.length) => chain_le h3 (Nat.zero_le i) hi
  have e1 := hP 0 (Nat.zero_le _)
  refine ⟨b, cs, P, h1, h2, h3, h4, h5, h6.keep (fun hn => hk b (h2 hn).1 (by have := (h2 hn).2; omega)), fun i x t hx ht => (h7 i x t hx ht).keep (fun b hb1 hb2 => ?_)⟩
  have hi := (List.getElem?_eq_some_iff.1 ht).1
  have := hP (i + 1) (by omega); have := hP0 i (by omega)
  exact hk b (by omega) (by omega)
theorem NewLS.all {lo hi : Nat} {w w' : World} {v : Value} {l : List (T)} (h : NewLS lo hi w v l) (hb : Below w.heap.size w w') (hh : hi ≤ w.heap.size) : NewLS lo hi w' v l := h.keep (fun b _ h2 => hb.block b (by omega))
theorem NewLS.set {lo hi : Nat} {w : World} {v : Value} {l : List (T)} (h : NewLS lo hi w v l) {b : Nat} (hb : b < lo) (i : Nat) (x : Value) : NewLS lo hi (w.setCell ⟨b, i, none⟩ x) v l := h.keep (fun b' h1 h2 => Below.heap_setCell _ _ _ _ (by show b' ≠ b; omega))
theorem NewLS.slice {lo hi : Nat} {w : World} {v : Value} {l : List (T)} (h : NewLS lo hi w v l) : ∃ a n c, v = .slice a n c := by
  obtain ⟨b, cs, P, h1, h2, h3, h4, h5, h6, h7⟩ := h.out
  exact h6.slice
/-- the first k copies -/
structure PieceL (w : World) (lo k : Nat) (cs : List VC) (l : List (T)) : Prop where
  out : ∃ P : Nat → Nat, lo ≤ P 0 ∧ (∀ i, i < k → P i ≤ P (i + 1)) ∧ P k ≤ w.heap.size ∧ ∀ (i : Nat) (x : VC) (t : T), i < k → cs[i]? = some x → l[i]? = some t → IsS w (P i) (P (i + 1)) x t
theorem PieceL.zero {w : World} {lo : Nat} (h : lo ≤ w.heap.size) (cs : List VC) (l : List (T)) : PieceL w lo 0 cs l := ⟨fun _ => lo, Nat.le_refl _, fun i h => absurd h (by omega), h, fun i x t h => absurd h (by omega)⟩
theorem PieceL.next {wr w2 : World} {lo k : Nat} {cs : List VC} {l : List (T)} {x : T} {c' : VC} {vlo hi : Nat} (h : PieceL wr lo k cs l) (hb : Below wr.heap.size wr w2) (hcs : cs.length = l.length) (hx : l[k]? = some x) (hN : IsS w2 vlo hi c' x)
    (hlo : wr.heap.size ≤ vlo) (hv : vlo ≤ hi) (hhi : hi ≤ w2.heap.size) : PieceL w2 lo (k + 1) (cs.set k c') l := by
  obtain ⟨P, h1, h2, h3, h4⟩ := h.out
  have hk := (List.getElem?_eq_some_iff.1 hx).1
  refine ⟨stitch P k hi, by rw [stitch_le (Nat.zero_le _)]; exact h1, fun i hi => ?_, by rw [stitch_gt (Nat.lt_succ_self _)]; exact hhi, fun i y t hi hy ht => ?_⟩
  · by_cases e : i < k
    · rw [stitch_le (by omega), stitch_le (by omega)]; exact h2 i e
    · obtain rfl : i = k := by omega
      rw [stitch_le (Nat.le_refl _), stitch_gt (Nat.lt_succ_self _)]; omega
  · by_cases e : i = k
    · subst e
      rw [hx] at ht; cases ht
      rw [List.getElem?_set_self (by omega)] at hy; cases hy
      rw [stitch_le (Nat.le_refl _), stitch_gt (Nat.lt_succ_self _)]
      exact hN.mono (by omega) (Nat.le_refl _)
    · rw [List.getElem?_set_ne (fun h => e h.symm)] at hy
      rw [stitch_le (by omega), stitch_le (by omega)]
      have h5 := chain_le h2 (i := i + 1) (j := k) (by omega) (Nat.le_refl _)
      exact (h4 i y t (by omega) hy ht).all hb (by omega)
theorem PieceL.set {w : World} {lo k : Nat} {cs : List VC} {l : List (T)} (h : PieceL w lo k cs l) {b : Nat} (hb : b < lo) (i : Nat) (v : Value) : PieceL (w.setCell ⟨b, i, none⟩ v) lo k cs l := by
  obtain ⟨P, h1, h2, h3, h4⟩ := h.out
  refine ⟨P, h1, h2, by rw [setCell_size]; exact h3, fun i y t hi hy ht => (h4 i y t hi hy ht).set ?_ _ _⟩
  have := chain_le h2 (Nat.zero_le i) (by omega)
  omega
theorem PieceL.done {w : World} {b : Nat} {cs : List VC} {l : List (T)} (h : PieceL w (b + 1) l.length cs l) (hcs : cs.length = l.length) (o : Own w b (cs.flatMap VC.cells) 25) (hm : l.length ≤ maxLen) (h0 : 0 < l.length) :
    ∃ hi, b ≤ hi ∧ hi ≤ w.heap.size ∧ NewLS b hi w (.slice (some ⟨b, 0, none⟩) l.length l.length) l := by
  obtain ⟨P, h1, h2, h3, h4⟩ := h.out
  have := chain_le h2 (Nat.zero_le l.length) (Nat.le_refl _)
  exact ⟨P l.length, by omega, h3, b, cs, P, by omega, fun _ => ⟨Nat.le_refl _, by omega⟩, h2, Nat.le_refl _, hcs, ⟨Or.inr ⟨h0, rfl, hm, o⟩⟩, fun i x t hx ht => h4 i x t (List.getElem?_eq_some_iff.1 ht).1 hx ht⟩
/-- a field of its own memory -/
structure FieldS (w : World) (lo hi : Nat) (x : FC) (p : Str × T) : Prop where
  nm : x.x = p.1
  va : IsS w lo hi x.v p.2
theorem FieldS.keep {w w' : World} {lo hi : Nat} {c : FC} {t : Str × T} (h : FieldS w lo hi c t) (hk : ∀ b, lo ≤ b → b < hi → w'.heap[b]? = w.heap[b]?) : FieldS w' lo hi c t := ⟨h.nm, h.va.keep hk⟩
theorem FieldS.mono {w : World} {lo hi lo' hi' : Nat} {c : FC} {t : Str × T} (h : FieldS w lo hi c t) (h1' : lo' ≤ lo) (h2' : hi ≤ hi') : FieldS w lo' hi' c t := ⟨h.nm, h.va.mono h1' h2'⟩
theorem FieldS.all {w w' : World} {lo hi : Nat} {c : FC} {t : Str × T} (h : FieldS w lo hi c t) (hb : Below w.heap.size w w') (hh : hi ≤ w.heap.size) : FieldS w' lo hi c t := ⟨h.nm, h.va.all hb hh⟩
theorem FieldS.set {w : World} {lo hi : Nat} {c : FC} {t : Str × T} (h : FieldS w lo hi c t) {b : Nat} (hb : b < lo ∨ hi ≤ b) (i : Nat) (v : Value) : FieldS (w.setCell ⟨b, i, none⟩ v) lo hi c t := ⟨h.nm, h.va.set hb i v⟩
structure NewFS (lo hi : Nat) (w : World) (v : Value) (l : List (Str × T)) : Prop where
  out : ∃ (b : Nat) (cs : List FC) (P : Nat → Nat), lo ≤ P 0 ∧ (0 < l.length → lo ≤ b ∧ b < P 0) ∧ (∀ i, i < l.length → P i ≤ P (i + 1)) ∧ P l.length ≤ hi ∧ cs.length = l.length ∧ RowB w b 33 v l.length (cs.flatMap FC.cells) ∧
    ∀ (i : Nat) (x : FC) (t : Str × T), cs[i]? = some x → l[i]? = some t → FieldS w (P i) (P (i + 1)) x t
theorem NewFS.nil (lo : Nat) (w : World) (v : Value) (hv : v = .slice none 0 0) : NewFS lo lo w v [] := ⟨0, [], fun _ => lo, Nat.le_refl _, fun h => absurd h (by simp), fun i h => absurd h (by simp), Nat.le_refl _, rfl, ⟨Or.inl ⟨rfl, hv⟩⟩, fun i x t hx => by simp at hx⟩
theorem NewFS.keep {lo hi : Nat} {w w' : World} {v : Value} {l : List (Str × T)} (h : NewFS lo hi w v l) (hk : ∀ b, lo ≤ b → b < hi → w'.heap[b]? = w.heap[b]?) : NewFS lo hi w' v l := by
  obtain ⟨b, cs, P, h1, h2, h3, h4, h5, h6, h7⟩ := h.out
  have hP := fun i (hi : i ≤ l.length) => chain_le h3 hi (Nat.le_refl _)
  have hP0 := fun i (hi : i ≤ l.length) => chain_le h3 (Nat.zero_le i) hi
  have e1 := hP 0 (Nat.zero_le _)
  refine ⟨b, cs, P, h1, h2, h3, h4, h5, h6.keep (fun hn => hk b (h2 hn).1 (by have := (h2 hn).2; omega)), fun i x t hx ht => (h7 i x t hx ht).keep (fun b hb1 hb2 => ?_)⟩
  have hi := (List.getElem?_eq_some_iff.1 ht).1
  have := hP (i + 1) (by omega); have := hP0 i (by omega)
  exact hk b (by omega) (by omega)
theorem NewFS.all {lo hi : Nat} {w w' : World} {v : Value} {l : List (Str × T)} (h : NewFS lo hi w v l) (hb : Below w.heap.size w w') (hh : hi ≤ w.heap.size) : NewFS lo hi w' v l := h.keep (fun b _ h2 => hb.block b (by omega))
theorem NewFS.set {lo hi : Nat} {w : World} {v : Value} {l : List (Str × T)} (h : NewFS lo hi w v l) {b : Nat} (hb : b < lo) (i : Nat) (x : Value) : NewFS lo hi (w.setCell ⟨b, i, none⟩ x) v l := h.keep (fun b' h1 h2 => Below.heap_setCell _ _ _ _ (by show b' ≠ b; omega))
theorem NewFS.slice {lo hi : Nat} {w : World} {v : Value} {l : List (Str × T)} (h : NewFS lo hi w v l) : ∃ a n c, v = .slice a n c := by
  obtain ⟨b, cs, P, h1, h2, h3, h4, h5, h6, h7⟩ := h.out
  exact h6.slice
/-- the first k copies -/
structure PieceF (w : World) (lo k : Nat) (cs : List FC) (l : List (Str × T)) : Prop where
  out : ∃ P : Nat → Nat, lo ≤ P 0 ∧ (∀ i, i < k → P i ≤ P (i + 1)) ∧ P k ≤ w.heap.size ∧ ∀ (i : Nat) (x : FC) (t : Str × T), i < k → cs[i]? = some x → l[i]? = some t → FieldS w (P i) (P (i + 1)) x t
theorem PieceF.zero {w : World} {lo : Nat} (h : lo ≤ w.heap.size) (cs : List FC) (l : List (Str × T)) : PieceF w lo 0 cs l := ⟨fun _ => lo, Nat.le_refl _, fun i h => absurd h (by omega), h, fun i x t h => absurd h (by omega)⟩
theorem PieceF.next {wr w2 : World} {lo k : Nat} {cs : List FC} {l : List (Str × T)} {x : Str × T} {c' : FC} {vlo hi : Nat} (h : PieceF wr lo k cs l) (hb : Below wr.heap.size wr w2) (hcs : cs.length = l.length) (hx : l[k]? = some x) (hN : FieldS w2 vlo hi c' x)
    (hlo : wr.heap.size ≤ vlo) (hv : vlo ≤ hi) (hhi : hi ≤ w2.heap.size) : PieceF w2 lo (k + 1) (cs.set k c') l := by
  obtain ⟨P, h1, h2, h3, h4⟩ := h.out
  have hk := (List.getElem?_eq_some_iff.1 hx).1
  refine ⟨stitch P k hi, by rw [stitch_le (Nat.zero_le _)]; exact h1, fun i hi => ?_, by rw [stitch_gt (Nat.lt_succ_self _)]; exact hhi, fun i y t hi hy ht => ?_⟩
  · by_cases e : i < k
    · rw [stitch_le (by omega), stitch_le (by omega)]; exact h2 i e
    · obtain rfl : i = k := by omega
      rw [stitch_le (Nat.le_refl _), stitch_gt (Nat.lt_succ_self _)]; omega
  · by_cases e : i = k
    · subst e
      rw [hx] at ht; cases ht
      rw [List.getElem?_set_self (by omega)] at hy; cases hy
      rw [stitch_le (Nat.le_refl _), stitch_gt (Nat.lt_succ_self _)]
      exact hN.mono (by omega) (Nat.le_refl _)
    · rw [List.getElem?_set_ne (fun h => e h.symm)] at hy
      rw [stitch_le (by omega), stitch_le (by omega)]
      have h5 := chain_le h2 (i := i + 1) (j := k) (by omega) (Nat.le_refl _)
      exact (h4 i y t (by omega) hy ht).all hb (by omega)
theorem PieceF.set {w : World} {lo k : Nat} {cs : List FC} {l : List (Str × T)} (h : PieceF w lo k cs l) {b : Nat} (hb : b < lo) (i : Nat) (v : Value) : PieceF (w.setCell ⟨b, i, none⟩ v) lo k cs l := by
  obtain ⟨P, h1, h2, h3, h4⟩ := h.out
  refine ⟨P, h1, h2, by rw [setCell_size]; exact h3, fun i y t hi hy ht => (h4 i y t hi hy ht).set ?_ _ _⟩
  have := chain_le h2 (Nat.zero_le i) (by omega)
  omega
theorem PieceF.done {w : World} {b : Nat} {cs : List FC} {l : List (Str × T)} (h : PieceF w (b + 1) l.length cs l) (hcs : cs.length = l.length) (o : Own w b (cs.flatMap FC.cells) 33) (hm : l.length ≤ maxLen) (h0 : 0 < l.length) :
    ∃ hi, b ≤ hi ∧ hi ≤ w.heap.size ∧ NewFS b hi w (.slice (some ⟨b, 0, none⟩) l.length l.length) l := by
  obtain ⟨P, h1, h2, h3, h4⟩ := h.out
  have := chain_le h2 (Nat.zero_le l.length) (Nat.le_refl _)
  exact ⟨P l.length, by omega, h3, b, cs, P, by omega, fun _ => ⟨Nat.le_refl _, by omega⟩, h2, Nat.le_refl _, hcs, ⟨Or.inr ⟨h0, rfl, hm, o⟩⟩, fun i x t hx ht => h4 i x t (List.getElem?_eq_some_iff.1 ht).1 hx ht⟩
theorem IsS.new {w : World} {lo lo1 hi1 lo2 hi2 : Nat} {c : VC} {l : List T} {f : List (Str × T)} (h1 : NewLS lo1 hi1 w (.slice c.la c.ln c.lc) l) (h2 : NewFS lo2 hi2 w (.slice c.fa c.fn c.fc) f) (hlo : lo ≤ lo1) (hm : hi1 ≤ lo2) :
    IsS w lo hi2 c (.mk c.k c.n c.s l f) := by
  obtain ⟨bl, cs, P, a1, a2, a3, a4, a5, a6, a7⟩ := h1.out
  obtain ⟨bf, fs, Q, b1, b2, b3, b4, b5, b6, b7⟩ := h2.out
  exact .mk cs fs bl bf P Q (by omega) (fun hn => ⟨by have := (a2 hn).1; omega, (a2 hn).2⟩) a3 (by omega) (fun hn => ⟨by have := (b2 hn).1; omega, (b2 hn).2⟩) b3 b4 a5 a6 a7 b5 b6 (fun i x p hx hp => (b7 i x p hx hp).nm) (fun i x p hx hp => (b7 i x p hx hp).va)

set_option maxHeartbeats 4000000 in
set_option maxRecDepth 20000 in
theorem copyListS_of (l : List T) (H : ∀ (i : Nat) (x : T), l[i]? = some x → ∀ (c : VC) (w : World), Is w c x →
      Calls Try.prog 53 #[c.val] w fun e w' => ∃ (c' : VC) (hi : Nat), e = .returned c'.val ∧ Below w.heap.size w w' ∧ w.heap.size ≤ hi ∧ hi ≤ w'.heap.size ∧ IsS w' w.heap.size hi c' x)
    (v : Value) (w : World) (hv : Vals w v l) (hn : l.length ≤ 4000) :
    Calls Try.prog 47 #[v] w fun e w' => ∃ (v' : Value) (hi : Nat), e = .returned v' ∧ Below w.heap.size w w' ∧ w.heap.size ≤ hi ∧ hi ≤ w'.heap.size ∧ NewLS w.heap.size hi w' v' l := by
  obtain ⟨ao, cap, rfl, hlc, hlm⟩ := hv.form
  unfold maxLen at hlm
  by_cases h0 : l.length = 0
  · have HE : Hid (l = []) := Lib.hid (by simpa using h0)
    have hz : ((l.length : Int) == 0) = true := by rw [h0]; rfl
    clear h0 H
    go_enter Try.func47, Try.ntmps47
    go_wp2
    go_ret
    rw [HE.out]; exact ⟨_, _, rfl, Below.refl _ _, Nat.le_refl _, Nat.le_refl _, NewLS.nil _ _ _ rfl⟩
  · have hz : ((l.length : Int) == 0) = false := by rw [beq_eq_false_iff_ne]; omega
    obtain ⟨i0, hi0, hz0, hs0, hb0⟩ : ∃ i, Try.prog.info? 25 = some i ∧ i.zero = some (.agg #[.int .i64 0, .int .i64 0, .string ⟨#[]⟩, .slice none 0 0, .slice none 0 0]) ∧ i.size = 5 ∧ i.bytes = 80 := by
      have := info25
      cases h : Try.prog.info? 25 with
      | none => rw [h] at this; simp at this
      | some i => rw [h] at this; simp at this; exact ⟨i, rfl, this.1, this.2.1, this.2.2⟩
    have hmk : ∀ w : World, (Instr.makeSlice 22 (.int .i64 (l.length : Int)) (.int .i64 (l.length : Int))).run Try.prog w = .ok (.slice (some ⟨w.heap.size, 0, none⟩) l.length l.length) (w.alloc (.cells ((List.replicate l.length VC0).flatMap VC.cells).toArray 25)) := fun w => by
      have := run_make (P := Try.prog) w 22 25 i0 (.agg #[.int .i64 0, .int .i64 0, .string ⟨#[]⟩, .slice none 0 0, .slice none 0 0]) Try.underlying22 hi0 hz0 .i64 .i64 (l.length : Int) (l.length : Int) (by omega) (Int.le_refl _) (by rw [hb0]; omega) (by omega)
      rw [this, hs0]
      have e := made_row VC.cells (m := 5) (fun _ => rfl) VC0 (Value.cells (.agg #[.int .i64 0, .int .i64 0, .string ⟨#[]⟩, .slice none 0 0, .slice none 0 0])) rfl l.length
      simp only [Int.toNat_natCast]
      rw [← e]
    go_enter Try.func47, Try.ntmps47
    go_wp2
    have o0 : Own (w.alloc (.cells ((List.replicate l.length VC0).flatMap VC.cells).toArray 25)) w.heap.size ((List.replicate l.length VC0).flatMap VC.cells) 25 := Own.new _ _ _
    have hw0 : Below w.heap.size w (w.alloc (.cells ((List.replicate l.length VC0).flatMap VC.cells).toArray 25)) := (Below.refl _ _).alloc (Nat.le_refl _) _
    generalize w.alloc (.cells ((List.replicate l.length VC0).flatMap VC.cells).toArray 25) = W at *
    have R0 := Lib.hid (And.intro hw0 o0)
    clear hw0 o0 hmk
    go_loopg [14] l.length (fun g i wr => ∃ (k : Nat) (cs : List VC), k ≤ l.length ∧ g = l.length - k ∧ i = .int .i64 k ∧ cs.length = l.length ∧ Below w.heap.size w wr ∧ Own wr w.heap.size (cs.flatMap VC.cells) 25 ∧ Hid (PieceL wr (w.heap.size + 1) k cs l))
    case atStart =>
      obtain ⟨hw0, o0⟩ := R0.out
      exact ⟨0, List.replicate l.length VC0, Nat.zero_le _, rfl, rfl, by simp, hw0, o0, Lib.hid (PieceL.zero (by have := o0.lt; omega) _ _)⟩
    case round =>
      obtain ⟨k, cs, hk, hg, rfl, hcs, hb, o0, HA⟩ := hrel
      have HG := Lib.hid hg
      clear hg R0
      by_cases hlt : k < l.length
      · have hx := List.getElem?_eq_getElem hlt
        generalize l[k] = x at hx
        obtain ⟨b, off, c, rfl, hbl, hI, q0, q1, q2, q3, q4⟩ := hv.at hb hx
        have hbb := hb.alloc hb.size (.cells #[.int .i64 c.k, .int .i64 c.n, sV c.s, .slice c.la c.ln c.lc, .slice c.fa c.fn c.fc] 25)
        have oo := o0.alloc (.cells #[.int .i64 c.k, .int .i64 c.n, sV c.s, .slice c.la c.ln c.lc, .slice c.fa c.fn c.fc] 25)
        have hII := hI.all ((Below.refl wr.heap.size wr).alloc (Nat.le_refl _) (.cells #[.int .i64 c.k, .int .i64 c.n, sV c.s, .slice c.la c.ln c.lc, .slice c.fa c.fn c.fc] 25))
        have hbx := (Below.refl wr.heap.size wr).alloc (Nat.le_refl _) (.cells #[.int .i64 c.k, .int .i64 c.n, sV c.s, .slice c.la c.ln c.lc, .slice c.fa c.fn c.fc] 25)
        have hwl := o0.lt
        have IH := Lib.hid (H k x hx)
        have HX := Lib.hid hx
        clear hI hb o0 hx H
        have IC := Lib.hid (IH.out c _ hII)
        go_wp2_with fail
        refine IC.out.mono ?_
        rintro e w2 ⟨c', hi, rfl, hb2, hlo, hhi, hN⟩
        have HN := Lib.hid (And.intro hlo (And.intro hhi hN))
        clear hN hlo hhi hII IH IC q0 q1 q2 q3 q4
        have o2 := oo.all hb2
        have hbe := below_all hbb hb2
        have hbxe := below_all hbx hb2
        clear oo hb2 hbb hbx
        obtain ⟨z0, e0⟩ : ∃ z, w2.cell? ⟨w.heap.size, k * 5, none⟩ = some z := ⟨_, o2.cell (List.getElem?_eq_getElem (by rw [flat_length VC.cells (m := 5) (fun _ => rfl), hcs]; omega))⟩
        have f0 := o2.frozen (k * 5)
        obtain ⟨z1, e1⟩ : ∃ z, w2.cell? ⟨w.heap.size, k * 5 + 1, none⟩ = some z := ⟨_, o2.cell (List.getElem?_eq_getElem (by rw [flat_length VC.cells (m := 5) (fun _ => rfl), hcs]; omega))⟩
        have f1 := o2.frozen (k * 5 + 1)
        obtain ⟨z2, e2⟩ : ∃ z, w2.cell? ⟨w.heap.size, k * 5 + 2, none⟩ = some z := ⟨_, o2.cell (List.getElem?_eq_getElem (by rw [flat_length VC.cells (m := 5) (fun _ => rfl), hcs]; omega))⟩
        have f2 := o2.frozen (k * 5 + 2)
        obtain ⟨z3, e3⟩ : ∃ z, w2.cell? ⟨w.heap.size, k * 5 + 3, none⟩ = some z := ⟨_, o2.cell (List.getElem?_eq_getElem (by rw [flat_length VC.cells (m := 5) (fun _ => rfl), hcs]; omega))⟩
        have f3 := o2.frozen (k * 5 + 3)
        obtain ⟨z4, e4⟩ : ∃ z, w2.cell? ⟨w.heap.size, k * 5 + 4, none⟩ = some z := ⟨_, o2.cell (List.getElem?_eq_getElem (by rw [flat_length VC.cells (m := 5) (fun _ => rfl), hcs]; omega))⟩
        have f4 := o2.frozen (k * 5 + 4)
        have HO := Lib.hid o2
        have HBE := Lib.hid (And.intro hbe hbxe)
        clear o2 hbe hbxe
        go_wp2
        have os := Own.setV HO.out (k := k) (by omega) c'
        have hlt2 : w.heap.size < wr.heap.size := hwl
        go_roundg (l.length - (k + 1))
        case measure => have := HG.out; omega
        case rel =>
          refine ⟨k + 1, cs.set k c', by omega, rfl, by go_num, by rw [List.length_set]; exact hcs, ?_, os, Lib.hid ?_⟩
          · exact below_set (below_set (below_set (below_set (below_set HBE.out.1 (Nat.le_refl _) _) (Nat.le_refl _) _) (Nat.le_refl _) _) (Nat.le_refl _) _) (Nat.le_refl _) _
          · have hp := HA.out.next HBE.out.2 hcs HX.out HN.out.2.2 (by rw [size_alloc]; omega) HN.out.1 HN.out.2.1
            exact ((((hp.set (by omega) _ _).set (by omega) _ _).set (by omega) _ _).set (by omega) _ _).set (by omega) _ _
      · obtain rfl : k = l.length := by omega
        go_wp2
        go_ret
        obtain ⟨hi, h1, h2, h3⟩ := HA.out.done hcs o0 (by unfold maxLen; omega) (by omega)
        exact ⟨_, hi, rfl, hb, h1, h2, h3⟩
set_option maxHeartbeats 4000000 in
set_option maxRecDepth 20000 in
theorem copyFieldsS_of (l : List (Str × T)) (H : ∀ (i : Nat) (p : Str × T), l[i]? = some p → ∀ (c : VC) (w : World), Is w c p.2 →
      Calls Try.prog 53 #[c.val] w fun e w' => ∃ (c' : VC) (hi : Nat), e = .returned c'.val ∧ Below w.heap.size w w' ∧ w.heap.size ≤ hi ∧ hi ≤ w'.heap.size ∧ IsS w' w.heap.size hi c' p.2)
    (v : Value) (w : World) (hv : Flds w v l) (hn : l.length ≤ 4000) :
    Calls Try.prog 59 #[v] w fun e w' => ∃ (v' : Value) (hi : Nat), e = .returned v' ∧ Below w.heap.size w w' ∧ w.heap.size ≤ hi ∧ hi ≤ w'.heap.size ∧ NewFS w.heap.size hi w' v' l := by
  obtain ⟨ao, cap, rfl, hlc, hlm⟩ := hv.form
  unfold maxLen at hlm
  by_cases h0 : l.length = 0
  · have HE : Hid (l = []) := Lib.hid (by simpa using h0)
    have hz : ((l.length : Int) == 0) = true := by rw [h0]; rfl
    clear h0 H
    go_enter Try.func59, Try.ntmps59
    go_wp2
    go_ret
    rw [HE.out]; exact ⟨_, _, rfl, Below.refl _ _, Nat.le_refl _, Nat.le_refl _, NewFS.nil _ _ _ rfl⟩
  have hz : ((l.length : Int) == 0) = false := by rw [beq_eq_false_iff_ne]; omega
  obtain ⟨i0, hi0, hz0, hs0, hb0⟩ := info_parts info35
  have hmk : ∀ w : World, (Instr.makeSlice 23 (.int .i64 (l.length : Int)) (.int .i64 (l.length : Int))).run Try.prog w = .ok (.slice (some ⟨w.heap.size, 0, none⟩) l.length l.length) (w.alloc (.cells ((List.replicate l.length FC0).flatMap FC.cells).toArray 33)) := fun w => by
    have := run_make (P := Try.prog) w 23 33 i0 _ Try.underlying23 hi0 hz0 .i64 .i64 (l.length : Int) (l.length : Int) (by omega) (Int.le_refl _) (by rw [hb0]; omega) (by omega)
    rw [this, hs0]
    have e := made_row FC.cells (m := 6) (fun _ => rfl) FC0 (Value.cells (.agg #[.string ⟨#[]⟩, .int .i64 0, .int .i64 0, .string ⟨#[]⟩, .slice none 0 0, .slice none 0 0])) rfl l.length
    simp only [Int.toNat_natCast]
    rw [← e]
  go_enter Try.func59, Try.ntmps59
  go_wp2
  have o0 : Own (w.alloc (.cells ((List.replicate l.length FC0).flatMap FC.cells).toArray 33)) w.heap.size ((List.replicate l.length FC0).flatMap FC.cells) 33 := Own.new _ _ _
  have hw0 : Below w.heap.size w (w.alloc (.cells ((List.replicate l.length FC0).flatMap FC.cells).toArray 33)) := (Below.refl _ _).alloc (Nat.le_refl _) _
  generalize w.alloc (.cells ((List.replicate l.length FC0).flatMap FC.cells).toArray 33) = W at *
  have R0 := Lib.hid (And.intro hw0 o0)
  clear hw0 o0 hmk
  go_loopg [14] l.length (fun g i wr => ∃ (k : Nat) (cs : List FC), k ≤ l.length ∧ g = l.length - k ∧ i = .int .i64 k ∧ cs.length = l.length ∧ Below w.heap.size w wr ∧ Own wr w.heap.size (cs.flatMap FC.cells) 33 ∧ Hid (PieceF wr (w.heap.size + 1) k cs l))
  case atStart =>
    obtain ⟨hw0, o0⟩ := R0.out
    exact ⟨0, List.replicate l.length FC0, Nat.zero_le _, rfl, rfl, by simp, hw0, o0, Lib.hid (PieceF.zero (by have := o0.lt; omega) _ _)⟩
  case round =>
    obtain ⟨k, cs, hk, hg, rfl, hcs, hb, o0, HA⟩ := hrel
    have HG := Lib.hid hg
    clear hg R0
    by_cases hlt : k < l.length
    case neg =>
      obtain rfl : k = l.length := by omega
      go_wp2
      go_ret
      obtain ⟨hi, h1, h2, h3⟩ := HA.out.done hcs o0 (by unfold maxLen; omega) (by omega)
      exact ⟨_, hi, rfl, hb, h1, h2, h3⟩
    have hx := List.getElem?_eq_getElem hlt
    generalize l[k] = p at hx
    obtain ⟨b, off, c, rfl, hbl, hI, q, q0, q1, q2, q3, q4⟩ := hv.at hb hx
    have hbb := hb.alloc hb.size (.cells #[sV p.1, .int .i64 c.k, .int .i64 c.n, sV c.s, .slice c.la c.ln c.lc, .slice c.fa c.fn c.fc] 33)
    have oo := o0.alloc (.cells #[sV p.1, .int .i64 c.k, .int .i64 c.n, sV c.s, .slice c.la c.ln c.lc, .slice c.fa c.fn c.fc] 33)
    have hbx := (Below.refl wr.heap.size wr).alloc (Nat.le_refl _) (.cells #[sV p.1, .int .i64 c.k, .int .i64 c.n, sV c.s, .slice c.la c.ln c.lc, .slice c.fa c.fn c.fc] 33)
    have hII := hI.all hbx
    have oN : Own (wr.alloc (.cells #[sV p.1, .int .i64 c.k, .int .i64 c.n, sV c.s, .slice c.la c.ln c.lc, .slice c.fa c.fn c.fc] 33)) wr.heap.size [sV p.1, .int .i64 c.k, .int .i64 c.n, sV c.s, .slice c.la c.ln c.lc, .slice c.fa c.fn c.fc] 33 := Own.new _ _ _
    have hwl := o0.lt
    have IH := Lib.hid (H k p hx)
    have HX := Lib.hid hx
    clear hI hb o0 hx H
    go_upto_region 7 with (fail)
    clear q q0 q1 q2 q3 q4
    have hVl := oN.lt
    have hVs : (wr.alloc (.cells #[sV p.1, .int .i64 c.k, .int .i64 c.n, sV c.s, .slice c.la c.ln c.lc, .slice c.fa c.fn c.fc] 33)).heap.size = wr.heap.size + 1 := size_alloc _ _
    generalize wr.alloc (.cells #[sV p.1, .int .i64 c.k, .int .i64 c.n, sV c.s, .slice c.la c.ln c.lc, .slice c.fa c.fn c.fc] 33) = V at *
    have z0 := cell_regrown (oN.cell (i := 0) rfl)
    have z1 := cell_regrown (oN.cell (i := 1) rfl)
    have z2 := cell_regrown (oN.cell (i := 2) rfl)
    have z3 := cell_regrown (oN.cell (i := 3) rfl)
    have z4 := cell_regrown (oN.cell (i := 4) rfl)
    have z5 := cell_regrown (oN.cell (i := 5) rfl)
    refine wp_region_multi 9 (fun i => i == 6) (fun _ _ u w' => ∃ (c' : VC) (hi : Nat), u = c'.val ∧ V.heap.size ≤ hi ∧ hi ≤ w'.heap.size ∧ IsS w' V.heap.size hi c' p.2) (fun _ u => ∃ c' : VC, u = c'.val) (by kernel_rfl) (by kernel_rfl) (fun _ _ _ w1 w2 ⟨c', hi, h1, h2, h3, h4⟩ hb => ⟨c', hi, h1, h2, Nat.le_trans h3 hb.size, h4.all hb h3⟩) (fun _ => ⟨VC0.val, VC0, rfl⟩) ?_
    simp only [List.take_succ_cons, List.take_zero, List.drop_succ_cons, List.drop_zero]
    refine wpM_stretch 6 rfl rfl rfl rfl ?_
    simp only [List.take_succ_cons, List.take_zero, List.drop_succ_cons, List.drop_zero]
    repeat (first | go_big_quiet_step (fail) | quiet_step (fail))
    refine wpQuiet_nil ?_
    refine wpM_dem rfl rfl rfl ?_ ?_
    · rintro _ ⟨pp, rfl⟩
      go_simp
      simp only [demUpon]
      refine ⟨trivial, (IH.out c _ (hII.all (below_regrown V pp.d pp.os))).mono ?_⟩
      rintro e w2 ⟨c', hi, rfl, hb2, hlo, hhi, hN⟩
      have hsz := (below_regrown V pp.d pp.os).size
      exact ⟨_, rfl, ⟨c', rfl⟩, hb2, c', rfl, hi, by omega, hhi, hN.mono (by omega) (Nat.le_refl _)⟩
    · rintro _ ⟨c', rfl⟩
      refine wpM_stretch 2 rfl rfl rfl rfl ?_
      simp only [List.take_succ_cons, List.take_zero, List.drop_succ_cons, List.drop_zero]
      repeat (first | go_big_quiet_step (fail) | quiet_step (fail))
      refine wpQuiet_nil ?_
      refine wpM_end ?_
      rintro U hb2 ⟨-, c2, hi, he2, hlo, hhi, hN⟩
      obtain rfl := VC.val_inj he2
      have o2 := oo.all hb2
      have HN := Lib.hid (And.intro hlo (And.intro hhi hN))
      have HBE := Lib.hid (And.intro (below_all hbb hb2) (below_all hbx hb2))
      clear oo hb2 hbb hbx hN hlo hhi he2 z0 z1 z2 z3 z4 z5 oN hII IH
      obtain ⟨z0, e0⟩ : ∃ z, U.cell? ⟨w.heap.size, k * 6, none⟩ = some z := ⟨_, o2.cell (List.getElem?_eq_getElem (by rw [flat_length FC.cells (m := 6) (fun _ => rfl), hcs]; omega))⟩
      have f0 := o2.frozen (k * 6)
      obtain ⟨z1, e1⟩ : ∃ z, U.cell? ⟨w.heap.size, k * 6 + 1, none⟩ = some z := ⟨_, o2.cell (List.getElem?_eq_getElem (by rw [flat_length FC.cells (m := 6) (fun _ => rfl), hcs]; omega))⟩
      have f1 := o2.frozen (k * 6 + 1)
      obtain ⟨z2, e2⟩ : ∃ z, U.cell? ⟨w.heap.size, k * 6 + 2, none⟩ = some z := ⟨_, o2.cell (List.getElem?_eq_getElem (by rw [flat_length FC.cells (m := 6) (fun _ => rfl), hcs]; omega))⟩
      have f2 := o2.frozen (k * 6 + 2)
      obtain ⟨z3, e3⟩ : ∃ z, U.cell? ⟨w.heap.size, k * 6 + 3, none⟩ = some z := ⟨_, o2.cell (List.getElem?_eq_getElem (by rw [flat_length FC.cells (m := 6) (fun _ => rfl), hcs]; omega))⟩
      have f3 := o2.frozen (k * 6 + 3)
      obtain ⟨z4, e4⟩ : ∃ z, U.cell? ⟨w.heap.size, k * 6 + 4, none⟩ = some z := ⟨_, o2.cell (List.getElem?_eq_getElem (by rw [flat_length FC.cells (m := 6) (fun _ => rfl), hcs]; omega))⟩
      have f4 := o2.frozen (k * 6 + 4)
      obtain ⟨z5, e5⟩ : ∃ z, U.cell? ⟨w.heap.size, k * 6 + 5, none⟩ = some z := ⟨_, o2.cell (List.getElem?_eq_getElem (by rw [flat_length FC.cells (m := 6) (fun _ => rfl), hcs]; omega))⟩
      have f5 := o2.frozen (k * 6 + 5)
      have HO := Lib.hid o2
      clear o2
      go_wp2
      have os := Own.setF HO.out (k := k) (by omega) ⟨p.1, c'⟩
      go_roundg (l.length - (k + 1))
      case measure => have := HG.out; omega
      case rel =>
        refine ⟨k + 1, cs.set k ⟨p.1, c'⟩, by omega, rfl, by go_num, by rw [List.length_set]; exact hcs, (below_set (below_set (below_set (below_set (below_set (below_set HBE.out.1 (Nat.le_refl _) _) (Nat.le_refl _) _) (Nat.le_refl _) _) (Nat.le_refl _) _) (Nat.le_refl _) _) (Nat.le_refl _) _), os, Lib.hid ?_⟩
        have hp := HA.out.next HBE.out.2 hcs HX.out (c' := ⟨p.1, c'⟩) ⟨rfl, HN.out.2.2⟩ (by omega) HN.out.1 HN.out.2.1
        exact (((((hp.set (by omega) _ _).set (by omega) _ _).set (by omega) _ _).set (by omega) _ _).set (by omega) _ _).set (by omega) _ _
set_option maxHeartbeats 4000000 in
set_option maxRecDepth 20000 in
theorem copyValueS_any : ∀ (M : Nat) (t : T), SizeOf.sizeOf t ≤ M → t.size ≤ 4000 → ∀ (c : VC) (w : World), Is w c t →
    Calls Try.prog 53 #[c.val] w fun e w' => ∃ (c' : VC) (hi : Nat), e = .returned c'.val ∧ Below w.heap.size w w' ∧ w.heap.size ≤ hi ∧ hi ≤ w'.heap.size ∧ IsS w' w.heap.size hi c' t := by
  intro M
  induction M with
  | zero => intro t h; cases t; simp at h
  | succ M ih =>
    rintro ⟨k0, n0, s0, l, f⟩ hM hsz ⟨k, n, s, la, ln, lc, fa, fn, fc⟩ w hI
    obtain ⟨h1, h2, h3⟩ := hI.same
    simp only at h1 h2 h3
    subst h1 h2 h3
    have hv := hI.vals
    have hf := hI.flds
    simp only at hv hf
    obtain ⟨hll, hfl⟩ := size_lens (M := 4000) hsz
    have hw0 : Below w.heap.size w ((w.alloc (.cells #[.int .i64 k, .int .i64 n, sV s, .slice la ln lc, .slice fa fn fc] 25)).alloc (.cells #[.int .i64 0, .int .i64 0, .string ⟨#[]⟩, .slice none 0 0, .slice none 0 0] 25)) := ((Below.refl _ _).alloc (Nat.le_refl _) _).alloc (by simp) _
    have oB : Own ((w.alloc (.cells #[.int .i64 k, .int .i64 n, sV s, .slice la ln lc, .slice fa fn fc] 25)).alloc (.cells #[.int .i64 0, .int .i64 0, .string ⟨#[]⟩, .slice none 0 0, .slice none 0 0] 25)) w.heap.size [.int .i64 k, .int .i64 n, sV s, .slice la ln lc, .slice fa fn fc] 25 := (Own.new _ _ _).alloc _
    have oR : Own ((w.alloc (.cells #[.int .i64 k, .int .i64 n, sV s, .slice la ln lc, .slice fa fn fc] 25)).alloc (.cells #[.int .i64 0, .int .i64 0, .string ⟨#[]⟩, .slice none 0 0, .slice none 0 0] 25)) (w.heap.size + 1) [.int .i64 0, .int .i64 0, .string ⟨#[]⟩, .slice none 0 0, .slice none 0 0] 25 := Own.new_at (by rw [size_alloc]) _ _
    have hs0 : ((w.alloc (.cells #[.int .i64 k, .int .i64 n, sV s, .slice la ln lc, .slice fa fn fc] 25)).alloc (.cells #[.int .i64 0, .int .i64 0, .string ⟨#[]⟩, .slice none 0 0, .slice none 0 0] 25)).heap.size = w.heap.size + 2 := by rw [size_alloc, size_alloc]
    have CL := Lib.hid (copyListS_of l (fun i x hx c w h => ih x (by have := sizeOf_l (k := k) (n := n) (s := s) (f := f) (List.mem_of_getElem? hx); omega) (by have := size_in_l (k := k) (n := n) (s := s) (f := f) (List.mem_of_getElem? hx); omega) c w h) _ ((w.alloc (.cells #[.int .i64 k, .int .i64 n, sV s, .slice la ln lc, .slice fa fn fc] 25)).alloc (.cells #[.int .i64 0, .int .i64 0, .string ⟨#[]⟩, .slice none 0 0, .slice none 0 0] 25)) (hv.all hw0) hll)
    have CF := Lib.hid (fun w' (h : Flds w' (.slice fa fn fc) f) => copyFieldsS_of f (fun i p hx c w h => ih p.2 (by have := sizeOf_f (k := k) (n := n) (s := s) (l := l) (List.mem_of_getElem? hx); omega) (by have := size_in_f (k := k) (n := n) (s := s) (l := l) (List.mem_of_getElem? hx); omega) c w h) _ w' h hfl)
    go_enter Try.func53, Try.ntmps53
    go_wp2_with fail
    generalize ((w.alloc (.cells #[.int .i64 k, .int .i64 n, sV s, .slice la ln lc, .slice fa fn fc] 25)).alloc (.cells #[.int .i64 0, .int .i64 0, .string ⟨#[]⟩, .slice none 0 0, .slice none 0 0] 25)) = W at *
    refine CL.out.mono ?_
    rintro e w1 ⟨v', hiL, rfl, hb1, hlL, hhL, hL⟩
    obtain ⟨la2, ln2, lc2, rfl⟩ := hL.slice
    have oB1 := oB.all hb1
    have oR1 := oR.all hb1
    have hb01 := below_all hw0 hb1
    have hz1 := oR1.lt
    clear CL oB oR hw0
    have c3 := oB1.cell (i := 3) rfl
    have c4 := oB1.cell (i := 4) rfl
    have f3 := oB1.frozen 3
    have oB2 := oB1.set 3 (.slice la2 ln2 lc2)
    have oR2 := oR1.set_ne (b' := w.heap.size) (by omega) 3 (.slice la2 ln2 lc2)
    have hb2 := below_set hb01 (Nat.le_refl w.heap.size) (i := 3) (.slice la2 ln2 lc2)
    have hL2 := hL.set (b := w.heap.size) (by omega) 3 (.slice la2 ln2 lc2)
    have HH := Lib.hid (And.intro oB2 (And.intro oR2 (And.intro hb2 hL2)))
    have hs2 : (w1.setCell ⟨w.heap.size, 3, none⟩ (.slice la2 ln2 lc2)).heap.size = w1.heap.size := by unfold World.setCell; simp
    clear oB1 oR1 hb01 hL oB2 oR2 hb2 hL2 hb1
    go_upto_region 2 with (fail)
    clear c3 c4 f3
    generalize w1.setCell ⟨w.heap.size, 3, none⟩ (.slice la2 ln2 lc2) = w2 at *
    obtain ⟨oB2, oR2, hb2, hL2⟩ := HH.out
    have CC := Lib.hid (CF.out w2 (hf.all hb2))
    have c4 := oB2.cell (i := 4) rfl
    clear HH CF
    go_wp2_with fail
    refine CC.out.mono ?_
    rintro e w3 ⟨v', hiF, rfl, hb3, hlF, hhF, hF⟩
    obtain ⟨fa2, fn2, fc2, rfl⟩ := hF.slice
    have oB3 := oB2.all hb3
    have oR3 := oR2.all hb3
    have hb03 := below_all hb2 hb3
    have hL3 := hL2.all hb3 (by omega)
    clear CC oB2 oR2 hb2 hL2 c4
    have c4 := oB3.cell (i := 4) rfl
    have f4 := oB3.frozen 4
    have oB4 := oB3.set 4 (.slice fa2 fn2 fc2)
    have oR4 := oR3.set_ne (b' := w.heap.size) (by omega) 4 (.slice fa2 fn2 fc2)
    have hb4 := below_set hb03 (Nat.le_refl w.heap.size) (i := 4) (.slice fa2 fn2 fc2)
    have hs4 : (w3.setCell ⟨w.heap.size, 4, none⟩ (.slice fa2 fn2 fc2)).heap.size = w3.heap.size := by unfold World.setCell; simp
    have hL4 := hL3.set (b := w.heap.size) (by omega) 4 (.slice fa2 fn2 fc2)
    have hF4 := hF.set (b := w.heap.size) (by omega) 4 (.slice fa2 fn2 fc2)
    have HH := Lib.hid (And.intro oB4 (And.intro oR4 (And.intro hb4 (And.intro hL4 hF4))))
    clear oB3 oR3 hb03 hL3 hF oB4 oR4 hb4 hL4 hF4 hb3
    go_upto_region 3 with (fail)
    clear c4 f4
    rw [← hs4] at hhF
    clear hs4
    generalize hq : w3.setCell ⟨w.heap.size, 4, none⟩ (.slice fa2 fn2 fc2) = w4 at *
    clear hq
    clear w3
    generalize w4 = w3 at *
    obtain ⟨oB3, oR3, hb3, hL3, hF3⟩ := HH.out
    clear HH
    have b0 := oB3.cell (i := 0) rfl
    have b1 := oB3.cell (i := 1) rfl
    have b2 := oB3.cell (i := 2) rfl
    have b3 := oB3.cell (i := 3) rfl
    have b4 := oB3.cell (i := 4) rfl
    have r0 := oR3.cell (i := 0) rfl
    have r1 := oR3.cell (i := 1) rfl
    have r2 := oR3.cell (i := 2) rfl
    have r3 := oR3.cell (i := 3) rfl
    have r4 := oR3.cell (i := 4) rfl
    have f0 := oR3.frozen 0
    have f1 := oR3.frozen 1
    have f2 := oR3.frozen 2
    have f3 := oR3.frozen 3
    have f4 := oR3.frozen 4
    have oS := (((((oR3.set 0 (.int .i64 k)).set 1 (.int .i64 n)).set 2 (sV s)).set 3 (.slice la2 ln2 lc2)).set 4 (.slice fa2 fn2 fc2))
    have hbS := (below_set (below_set (below_set (below_set (below_set hb3 (by omega : w.heap.size ≤ w.heap.size + 1) (i := 0) (.int .i64 k)) (by omega : w.heap.size ≤ w.heap.size + 1) (i := 1) (.int .i64 n)) (by omega : w.heap.size ≤ w.heap.size + 1) (i := 2) (sV s)) (by omega : w.heap.size ≤ w.heap.size + 1) (i := 3) (.slice la2 ln2 lc2)) (by omega : w.heap.size ≤ w.heap.size + 1) (i := 4) (.slice fa2 fn2 fc2))
    have hLS := (((((hL3.set (b := w.heap.size + 1) (by omega) 0 (.int .i64 k)).set (b := w.heap.size + 1) (by omega) 1 (.int .i64 n)).set (b := w.heap.size + 1) (by omega) 2 (sV s)).set (b := w.heap.size + 1) (by omega) 3 (.slice la2 ln2 lc2)).set (b := w.heap.size + 1) (by omega) 4 (.slice fa2 fn2 fc2))
    have hFS := (((((hF3.set (b := w.heap.size + 1) (by omega) 0 (.int .i64 k)).set (b := w.heap.size + 1) (by omega) 1 (.int .i64 n)).set (b := w.heap.size + 1) (by omega) 2 (sV s)).set (b := w.heap.size + 1) (by omega) 3 (.slice la2 ln2 lc2)).set (b := w.heap.size + 1) (by omega) 4 (.slice fa2 fn2 fc2))
    have hsS : (((((w3.setCell ⟨w.heap.size + 1, 0, none⟩ (.int .i64 k)).setCell ⟨w.heap.size + 1, 1, none⟩ (.int .i64 n)).setCell ⟨w.heap.size + 1, 2, none⟩ (sV s)).setCell ⟨w.heap.size + 1, 3, none⟩ (.slice la2 ln2 lc2)).setCell ⟨w.heap.size + 1, 4, none⟩ (.slice fa2 fn2 fc2)).heap.size = w3.heap.size := by unfold World.setCell; simp
    rw [← hsS] at hhF
    have HS := Lib.hid (And.intro (And.intro hhF (And.intro hlL (And.intro hhL (And.intro hlF (And.intro hs2 hs0))))) (And.intro oS (And.intro hbS (And.intro hLS hFS))))
    clear hhF hsS hlL hhL hlF hs2 hs0 oS hbS hLS hFS oB3 oR3 hb3 hL3 hF3
    go_wp2
    clear b0 b1 b2 b3 b4 r0 r1 r2 r3 r4 f0 f1 f2 f3 f4
    change bodyPost Try.prog Try.f53 _ _ _ (((((w3.setCell ⟨w.heap.size + 1, 0, none⟩ (.int .i64 k)).setCell ⟨w.heap.size + 1, 1, none⟩ (.int .i64 n)).setCell ⟨w.heap.size + 1, 2, none⟩ (sV s)).setCell ⟨w.heap.size + 1, 3, none⟩ (.slice la2 ln2 lc2)).setCell ⟨w.heap.size + 1, 4, none⟩ (.slice fa2 fn2 fc2))
    generalize (((((w3.setCell ⟨w.heap.size + 1, 0, none⟩ (.int .i64 k)).setCell ⟨w.heap.size + 1, 1, none⟩ (.int .i64 n)).setCell ⟨w.heap.size + 1, 2, none⟩ (sV s)).setCell ⟨w.heap.size + 1, 3, none⟩ (.slice la2 ln2 lc2)).setCell ⟨w.heap.size + 1, 4, none⟩ (.slice fa2 fn2 fc2)) = U at *
    obtain ⟨⟨hhF, hlL, hhL, hlF, hs2, hs0⟩, oS, hbS, hLS, hFS⟩ := HS.out
    have c0 : U.cell? ⟨w.heap.size + 1, 0, none⟩ = some (.int .i64 k) := oS.cell rfl
    have c1 : U.cell? ⟨w.heap.size + 1, 1, none⟩ = some (.int .i64 n) := oS.cell rfl
    have c2 : U.cell? ⟨w.heap.size + 1, 2, none⟩ = some (sV s) := oS.cell rfl
    have c3 : U.cell? ⟨w.heap.size + 1, 3, none⟩ = some (.slice la2 ln2 lc2) := oS.cell rfl
    have c4 : U.cell? ⟨w.heap.size + 1, 4, none⟩ = some (.slice fa2 fn2 fc2) := oS.cell rfl
    exact bodyPost_ret (v := .agg #[.int .i64 k, .int .i64 n, sV s, .slice la2 ln2 lc2, .slice fa2 fn2 fc2]) (by simp [results, Try.results53, go_sem, c0, c1, c2, c3, c4]) rfl ⟨⟨k, n, s, la2, ln2, lc2, fa2, fn2, fc2⟩, hiF, rfl, hbS, by omega, hhF, IsS.new (c := ⟨k, n, s, la2, ln2, lc2, fa2, fn2, fc2⟩) hLS hFS (by omega) (by omega)⟩
theorem copyS_any (t : T) (h : t.size ≤ 4000) (c : VC) (w : World) (hI : Is w c t) :
    Calls Try.prog 53 #[c.val] w fun e w' => ∃ (c' : VC) (hi : Nat), e = .returned c'.val ∧ Below w.heap.size w w' ∧ w.heap.size ≤ hi ∧ hi ≤ w'.heap.size ∧ IsS w' w.heap.size hi c' t := copyValueS_any _ t (Nat.le_refl _) h c w hI
end Go.Proofs.Ytinenbgdkchghaa
