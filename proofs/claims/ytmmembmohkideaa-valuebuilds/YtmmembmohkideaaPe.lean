/- Rows that are gathered, with the trees in them. -/
import Derived.Test.YtmmembmohkideaaPd
import Derived.Test.YtmmembmohkideaaWo
import Derived.Test.YtmmembmohkideaaPa
import Derived.Deep.AppendLies
namespace Go.Proofs.Ytmmembmohkideaa
open Go.RowKit Go.Proofs.LawFrame

theorem FlatA.keep' {w w' : World} {A A' : Nat → Prop} {v : Value} {n : Nat} {xs : List Value} (h : FlatA w A v n xs) (hs : w.heap.size ≤ w'.heap.size) (hA : ∀ b, A b → b < w.heap.size → A' b) (hk : ∀ b, A b → b < w.heap.size → w'.heap[b]? = w.heap[b]?) : FlatA w' A' v n xs := by
  obtain ⟨ao, cap, h1, h2, h3, h4⟩ := h.out
  refine ⟨ao, cap, h1, h2, h3, fun hl => ?_⟩
  obtain ⟨b, off, h5, h6, h7, h8⟩ := h4 hl
  refine ⟨b, off, h5, Nat.lt_of_lt_of_le h6 hs, hA b h7 h6, fun j x hx => ?_⟩
  rw [cell_of_block (hk b h7 h6)]
  exact h8 j x hx
theorem IsA.keep' {w w' : World} {A A' : Nat → Prop} {c : VC} {t : T} (h : IsA w A c t) (hs : w.heap.size ≤ w'.heap.size) (hA : ∀ b, A b → b < w.heap.size → A' b) (hk : ∀ b, A b → b < w.heap.size → w'.heap[b]? = w.heap[b]?) : IsA w' A' c t := by
  induction h with
  | mk cs fs hl1 hl2 hl3 hf1 hf2 hf3 hf4 ih1 ih2 => exact .mk cs fs hl1 (hl2.keep' hs hA hk) ih1 hf1 (hf2.keep' hs hA hk) hf3 ih2
theorem IsA.but {w w' : World} {A : Nat → Prop} {c : VC} {t : T} {b : Nat} (h : IsA w A c t) (hb : But b w w') (hA : ¬ A b) : IsA w' A c t :=
  h.keep hb.size (fun _ h => h) (fun k hk hlt => hb.block k hlt (by rintro rfl; exact hA hk))
theorem FlatA.but {w w' : World} {A : Nat → Prop} {v : Value} {n : Nat} {xs : List Value} {b : Nat} (h : FlatA w A v n xs) (hb : But b w w') (hA : ¬ A b) : FlatA w' A v n xs :=
  h.keep hb.size (fun _ h => h) (fun k hk hlt => hb.block k hlt (by rintro rfl; exact hA hk))
theorem But.grown {b : Nat} {w w' w'' : World} {row : Option Nat} (h : But b w w') (hg : w'.grownBy w'' row) (hr : ∀ k, row = some k → w.heap.size ≤ k) : But b w w'' :=
  ⟨hg.os.trans h.os, hg.tape.trans h.tape, hg.output.trans h.output, Nat.le_trans h.size hg.size, fun k hk hne => (hg.block k (Nat.lt_of_lt_of_le hk h.size) (fun e => by have := hr k e.symm; omega)).trans (h.block k hk hne)⟩
theorem own_kept' {w w' : World} {b : Nat} {row : Option Nat} {cs : List Value} {t : TypeId} (h : Own w b cs t) (hg : w.grownBy w' row) (hne : ¬ row = some b) : Own w' b cs t := by
  unfold Own; rw [hg.block b h.lt (fun e => hne e.symm)]; exact h
theorem row_set {w : World} {base : Nat} {e : TypeId} {size : Nat} {v : Value} {n : Nat} {xs : List Value} (h : w.ownsRow base e size v n xs) {b : Nat} (hb : b < base) (i : Nat) (x : Value) : (w.setCell ⟨b, i, none⟩ x).ownsRow base e size v n xs :=
  h.kept (row := some b) ⟨rfl, rfl, rfl, Nat.le_of_eq (by unfold World.setCell; simp), fun k _ hne => Below.heap_setCell _ _ _ _ (fun e => hne (by rw [e]))⟩ (by
    cases hv : v.ownBlock with
    | none => exact Or.inl rfl
    | some k => exact Or.inr (by have := own_row h k hv; intro e; cases e; omega))
theorem flatA_of_own {w : World} {base : Nat} {e : TypeId} {size : Nat} {v : Value} {n : Nat} {xs : List Value} (h : w.ownsRow base e size v n xs) : FlatA w (fun b => base ≤ b) v n xs := by
  rcases h.2 with ⟨rfl, rfl⟩ | ⟨g, cap, cur, rfl, hb, hg, h1, h2, h3, h4⟩
  · exact FlatA.nil w _ xs
  · refine ⟨some ⟨g, 0, none⟩, cap, rfl, h1, h2, fun _ => ⟨g, 0, rfl, ?_, hb, fun j x hx => ?_⟩⟩
    · rcases Nat.lt_or_ge g w.heap.size with hlt | hge
      · exact hlt
      · rw [Array.getElem?_eq_none hge] at hg; cases hg
    · rw [Nat.zero_add, cell_of_row w g j cur e (0, 0) hg, ← Array.getElem?_toList]
      rw [← h4] at hx
      rw [List.getElem?_take] at hx
      split at hx
      · exact hx
      · cases hx
theorem own_src {w : World} {b : Nat} {cs : List Value} {t : TypeId} (o : Own w b cs t) : ∀ j u, cs[j]? = some u → w.cell? ((⟨b, 0, none⟩ : Addr).add j) = some u := fun j u h => by
  rw [Addr.add_lit, Nat.zero_add]; exact o.cell h
theorem five_one (c : VC) : ∀ v ∈ VC.cells c, v.oneCell' = true := by
  intro v hv; simp at hv; rcases hv with rfl | rfl | rfl | rfl | rfl <;> rfl
theorem six_one' (c : FC) : ∀ v ∈ FC.cells c, v.oneCell' = true := by
  intro v hv; simp at hv; rcases hv with rfl | rfl | rfl | rfl | rfl | rfl <;> rfl
theorem snocV (l : List VC) (c : VC) : (l ++ [c]).flatMap VC.cells = l.flatMap VC.cells ++ VC.cells c := by simp
theorem snocF (l : List FC) (c : FC) : (l ++ [c]).flatMap FC.cells = l.flatMap FC.cells ++ FC.cells c := by simp

/-- what was gathered in the row p, whose trees lie in blocks from base on, none of them the row's -/
structure AccV (base : Nat) (p : Value) (w : World) (cs : List VC) (l : List T) : Prop where
  len : cs.length = l.length
  all : ∀ (i : Nat) (c : VC) (t : T), cs[i]? = some c → l[i]? = some t → IsA w (fun b => base ≤ b ∧ p.ownBlock ≠ some b) c t
theorem AccV.nil (base : Nat) (p : Value) (w : World) : AccV base p w [] [] := ⟨rfl, fun i c t h => by simp at h⟩
theorem AccV.keep {base : Nat} {p p' : Value} {w w' : World} {cs : List VC} {l : List T} (h : AccV base p w cs l) (hs : w.heap.size ≤ w'.heap.size) (hp : ∀ b, base ≤ b → p.ownBlock ≠ some b → b < w.heap.size → p'.ownBlock ≠ some b) (hk : ∀ b, base ≤ b → p.ownBlock ≠ some b → b < w.heap.size → w'.heap[b]? = w.heap[b]?) : AccV base p' w' cs l :=
  ⟨h.len, fun i c t hc ht => (h.all i c t hc ht).keep' hs (fun b hb hlt => ⟨hb.1, hp b hb.1 hb.2 hlt⟩) (fun b hb hlt => hk b hb.1 hb.2 hlt)⟩
theorem AccV.below {base : Nat} {p : Value} {w w' : World} {cs : List VC} {l : List T} (h : AccV base p w cs l) (hb : Below w.heap.size w w') : AccV base p w' cs l :=
  h.keep hb.size (fun _ _ h _ => h) (fun b _ _ hlt => hb.block b hlt)
theorem AccV.set {base : Nat} {p : Value} {w : World} {cs : List VC} {l : List T} (h : AccV base p w cs l) {b : Nat} (hb : b < base) (i : Nat) (x : Value) : AccV base p (w.setCell ⟨b, i, none⟩ x) cs l :=
  h.keep (Nat.le_of_eq (by unfold World.setCell; simp)) (fun _ _ h _ => h) (fun b' h1 _ _ => Below.heap_setCell _ _ _ _ (by rintro rfl; exact absurd h1 (Nat.not_le_of_lt hb)))
theorem AccV.grow {base : Nat} {p : Value} {w w' : World} {cs : List VC} {l : List T} {g n cap : Nat} (h : AccV base p w cs l) (hg : w.grownBy w' p.ownBlock) (hl : p.ownBlock = some g ∨ g = w.heap.size) : AccV base (.slice (some ⟨g, 0, none⟩) n cap) w' cs l :=
  h.keep hg.size (fun b _ h2 hlt e => by
    have e' : g = b := by simpa [Value.ownBlock] using e
    subst e'
    rcases hl with hl | hl
    · exact h2 hl
    · omega) (fun b _ h2 hlt => hg.block b hlt (fun e => h2 e.symm))
theorem AccV.snoc {base : Nat} {p : Value} {w : World} {cs : List VC} {l : List T} {c : VC} {t : T} (h : AccV base p w cs l) (hc : IsA w (fun b => base ≤ b ∧ p.ownBlock ≠ some b) c t) : AccV base p w (cs ++ [c]) (l ++ [t]) := by
  refine ⟨by rw [List.length_append, List.length_append, h.len]; rfl, fun i c' t' hc' ht' => ?_⟩
  rcases Nat.lt_or_ge i cs.length with hlt | hge
  · rw [List.getElem?_append_left hlt] at hc'
    rw [List.getElem?_append_left (by rw [← h.len]; exact hlt)] at ht'
    exact h.all i c' t' hc' ht'
  · have hi := (List.getElem?_eq_some_iff.1 hc').1
    rw [List.length_append] at hi
    have e : i = cs.length := by simp at hi; omega
    subst e
    rw [List.getElem?_append_right (Nat.le_refl _), Nat.sub_self] at hc'
    rw [List.getElem?_append_right (by rw [h.len]; exact Nat.le_refl _), h.len, Nat.sub_self] at ht'
    simp at hc' ht'
    subst hc' ht'
    exact hc
theorem AccV.flatA {base : Nat} {p : Value} {w : World} {cs : List VC} {l : List T} {e : TypeId} (h : AccV base p w cs l) (ho : w.ownsRow base e 5 p l.length (cs.flatMap VC.cells)) :
    ∃ cs : List VC, cs.length = l.length ∧ FlatA w (fun b => base ≤ b) p l.length (cs.flatMap VC.cells) ∧ ∀ (i : Nat) (c : VC) (t : T), cs[i]? = some c → l[i]? = some t → IsA w (fun b => base ≤ b) c t :=
  ⟨cs, h.len, flatA_of_own ho, fun i c t hc ht => (h.all i c t hc ht).mono (fun b hb => hb.1)⟩

/-- what was gathered in the row p, whose trees lie in blocks from base on, none of them the row's -/
structure AccF (base : Nat) (p : Value) (w : World) (cs : List FC) (l : List (Str × T)) : Prop where
  len : cs.length = l.length
  all : ∀ (i : Nat) (c : FC) (t : (Str × T)), cs[i]? = some c → l[i]? = some t → c.x = t.1 ∧ IsA w (fun b => base ≤ b ∧ p.ownBlock ≠ some b) c.v t.2
theorem AccF.nil (base : Nat) (p : Value) (w : World) : AccF base p w [] [] := ⟨rfl, fun i c t h => by simp at h⟩
theorem AccF.keep {base : Nat} {p p' : Value} {w w' : World} {cs : List FC} {l : List (Str × T)} (h : AccF base p w cs l) (hs : w.heap.size ≤ w'.heap.size) (hp : ∀ b, base ≤ b → p.ownBlock ≠ some b → b < w.heap.size → p'.ownBlock ≠ some b) (hk : ∀ b, base ≤ b → p.ownBlock ≠ some b → b < w.heap.size → w'.heap[b]? = w.heap[b]?) : AccF base p' w' cs l :=
  ⟨h.len, fun i c t hc ht => ⟨(h.all i c t hc ht).1, (h.all i c t hc ht).2.keep' hs (fun b hb hlt => ⟨hb.1, hp b hb.1 hb.2 hlt⟩) (fun b hb hlt => hk b hb.1 hb.2 hlt)⟩⟩
theorem AccF.below {base : Nat} {p : Value} {w w' : World} {cs : List FC} {l : List (Str × T)} (h : AccF base p w cs l) (hb : Below w.heap.size w w') : AccF base p w' cs l :=
  h.keep hb.size (fun _ _ h _ => h) (fun b _ _ hlt => hb.block b hlt)
theorem AccF.set {base : Nat} {p : Value} {w : World} {cs : List FC} {l : List (Str × T)} (h : AccF base p w cs l) {b : Nat} (hb : b < base) (i : Nat) (x : Value) : AccF base p (w.setCell ⟨b, i, none⟩ x) cs l :=
  h.keep (Nat.le_of_eq (by unfold World.setCell; simp)) (fun _ _ h _ => h) (fun b' h1 _ _ => Below.heap_setCell _ _ _ _ (by rintro rfl; exact absurd h1 (Nat.not_le_of_lt hb)))
theorem AccF.grow {base : Nat} {p : Value} {w w' : World} {cs : List FC} {l : List (Str × T)} {g n cap : Nat} (h : AccF base p w cs l) (hg : w.grownBy w' p.ownBlock) (hl : p.ownBlock = some g ∨ g = w.heap.size) : AccF base (.slice (some ⟨g, 0, none⟩) n cap) w' cs l :=
  h.keep hg.size (fun b _ h2 hlt e => by
    have e' : g = b := by simpa [Value.ownBlock] using e
    subst e'
    rcases hl with hl | hl
    · exact h2 hl
    · omega) (fun b _ h2 hlt => hg.block b hlt (fun e => h2 e.symm))
theorem AccF.snoc {base : Nat} {p : Value} {w : World} {cs : List FC} {l : List (Str × T)} {c : FC} {t : (Str × T)} (h : AccF base p w cs l) (hc : c.x = t.1 ∧ IsA w (fun b => base ≤ b ∧ p.ownBlock ≠ some b) c.v t.2) : AccF base p w (cs ++ [c]) (l ++ [t]) := by
  refine ⟨by rw [List.length_append, List.length_append, h.len]; rfl, fun i c' t' hc' ht' => ?_⟩
  rcases Nat.lt_or_ge i cs.length with hlt | hge
  · rw [List.getElem?_append_left hlt] at hc'
    rw [List.getElem?_append_left (by rw [← h.len]; exact hlt)] at ht'
    exact h.all i c' t' hc' ht'
  · have hi := (List.getElem?_eq_some_iff.1 hc').1
    rw [List.length_append] at hi
    have e : i = cs.length := by simp at hi; omega
    subst e
    rw [List.getElem?_append_right (Nat.le_refl _), Nat.sub_self] at hc'
    rw [List.getElem?_append_right (by rw [h.len]; exact Nat.le_refl _), h.len, Nat.sub_self] at ht'
    simp at hc' ht'
    subst hc' ht'
    exact hc
theorem AccF.flatA {base : Nat} {p : Value} {w : World} {cs : List FC} {l : List (Str × T)} {e : TypeId} (h : AccF base p w cs l) (ho : w.ownsRow base e 6 p l.length (cs.flatMap FC.cells)) :
    ∃ cs : List FC, cs.length = l.length ∧ FlatA w (fun b => base ≤ b) p l.length (cs.flatMap FC.cells) ∧ (∀ (i : Nat) (x : FC) (q : Str × T), cs[i]? = some x → l[i]? = some q → x.x = q.1) ∧ ∀ (i : Nat) (c : FC) (t : (Str × T)), cs[i]? = some c → l[i]? = some t → IsA w (fun b => base ≤ b) c.v t.2 :=
  ⟨cs, h.len, flatA_of_own ho, fun i c t hc ht => (h.all i c t hc ht).1, fun i c t hc ht => (h.all i c t hc ht).2.mono (fun b hb => hb.1)⟩
end Go.Proofs.Ytmmembmohkideaa
