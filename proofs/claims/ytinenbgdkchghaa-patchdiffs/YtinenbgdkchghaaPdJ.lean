/- Cells are one tree. Rows that are gathered, with the trees in them. -/
import Derived.Test.YtinenbgdkchghaaPmJ
import Derived.Test.YtinenbgdkchghaaWmJ
import Derived.Test.YtinenbgdkchghaaPa
import Derived.Deep.AppendLies
set_option linter.unusedSimpArgs false
set_option linter.unusedVariables false
namespace Go.Proofs.Ytinenbgdkchghaa
open Go.RowKit Go.Proofs.LawFrame
theorem sV_inj {a b : Str} (h : sV a = sV b) : a = b := by injection h with h; injection h with h; simpa using h
theorem VC.cells_inj {c d : VC} (h : c.cells = d.cells) : c = d := by
  obtain ⟨k, n, s, la, ln, lc, fa, fn, fc⟩ := c
  obtain ⟨k', n', s', la', ln', lc', fa', fn', fc'⟩ := d
  simp only [VC.cells, List.cons.injEq, Value.int.injEq, Value.slice.injEq, and_true, true_and] at h
  obtain ⟨rfl, rfl, h3, ⟨rfl, rfl, rfl⟩, rfl, rfl, rfl⟩ := h
  rw [sV_inj h3]
theorem FC.cells_inj {c d : FC} (h : c.cells = d.cells) : c = d := by
  obtain ⟨x, v⟩ := c
  obtain ⟨x', v'⟩ := d
  simp only [FC.cells, List.cons.injEq] at h
  obtain ⟨h1, h2⟩ := h
  have := VC.cells_inj (c := v) (d := v') (by simp only [VC.cells, List.cons.injEq]; exact h2)
  subst this
  rw [sV_inj h1]
theorem flatMap_inj {α : Type} (f : α → List Value) {m : Nat} (hf : ∀ a, (f a).length = m) (hi : ∀ a b, f a = f b → a = b) : ∀ (l l' : List α), l.length = l'.length → l.flatMap f = l'.flatMap f → l = l' := by
  intro l
  induction l with
  | nil => intro l' h _; cases l' with
    | nil => rfl
    | cons a r => simp at h
  | cons a r ih =>
    intro l' h he
    cases l' with
    | nil => simp at h
    | cons a' r' =>
      rw [List.flatMap_cons, List.flatMap_cons] at he
      obtain ⟨h1, h2⟩ := List.append_inj he (by rw [hf, hf])
      rw [hi _ _ h1, ih r' (by simpa using h) h2]
theorem Flat.len {w : World} {ao : Option Addr} {k cap n : Nat} {xs : List Value} (h : Flat w (.slice ao k cap) n xs) : k = n := by
  obtain ⟨ao', cap', h1, -⟩ := h.out
  cases h1; rfl
theorem Flat.det {w : World} {v : Value} {n : Nat} {xs ys : List Value} (h : Flat w v n xs) (h' : Flat w v n ys) (hl : xs.length = ys.length) (h0 : n = 0 → xs.length = 0) : xs = ys := by
  obtain ⟨ao, cap, h1, h2, h3, h4⟩ := h.out
  obtain ⟨ao', cap', g1, g2, g3, g4⟩ := h'.out
  rw [h1] at g1; cases g1
  rcases Nat.eq_zero_or_pos n with hn | hn
  · have e1 : xs = [] := List.eq_nil_of_length_eq_zero (h0 hn)
    have e2 : ys = [] := List.eq_nil_of_length_eq_zero (by have := h0 hn; omega)
    rw [e1, e2]
  · obtain ⟨b, off, rfl, -, c1⟩ := h4 hn
    obtain ⟨b', off', e, -, c2⟩ := g4 hn
    cases e
    apply List.ext_getElem hl
    intro i h1 h2
    have a1 := c1 i _ (List.getElem?_eq_getElem h1)
    have a2 := c2 i _ (List.getElem?_eq_getElem h2)
    rw [a1] at a2
    exact Option.some.inj a2
/-- cells are one tree -/
theorem Is.det {w : World} {c : VC} {t t' : T} (h : Is w c t) (h' : Is w c t') : t = t' := by
  induction h generalizing t' with
  | mk cs fs hl1 hl2 hl3 hf1 hf2 hf3 hf4 ih1 ih2 =>
    cases h' with
    | mk cs' fs' gl1 gl2 gl3 gf1 gf2 gf3 gf4 =>
      rename_i c l f l' f'
      have el : l.length = l'.length := hl2.len.symm.trans gl2.len
      have ef : f.length = f'.length := hf2.len.symm.trans gf2.len
      have L1 := flat_length VC.cells (m := 5) (fun _ => rfl) cs
      have L2 := flat_length VC.cells (m := 5) (fun _ => rfl) cs'
      have F1 := flat_length FC.cells (m := 6) (fun _ => rfl) fs
      have F2 := flat_length FC.cells (m := 6) (fun _ => rfl) fs'
      rw [← el] at gl2
      rw [← ef] at gf2
      obtain rfl : cs = cs' := flatMap_inj VC.cells (m := 5) (fun _ => rfl) (fun _ _ => VC.cells_inj) cs cs' (by omega) (hl2.det gl2 (by omega) (by omega))
      obtain rfl : fs = fs' := flatMap_inj FC.cells (m := 6) (fun _ => rfl) (fun _ _ => FC.cells_inj) fs fs' (by omega) (hf2.det gf2 (by omega) (by omega))
      have e1 : l = l' := by
        apply List.ext_getElem el
        intro i h1 h2
        exact ih1 i cs[i] l[i] (List.getElem?_eq_getElem (by omega)) (List.getElem?_eq_getElem h1) (gl3 i cs[i] l'[i] (List.getElem?_eq_getElem (by omega)) (List.getElem?_eq_getElem h2))
      have e2 : f = f' := by
        apply List.ext_getElem ef
        intro i h1 h2
        have a1 := hf3 i fs[i] f[i] (List.getElem?_eq_getElem (by omega)) (List.getElem?_eq_getElem h1)
        have a2 := gf3 i fs[i] f'[i] (List.getElem?_eq_getElem (by omega)) (List.getElem?_eq_getElem h2)
        have a3 := ih2 i fs[i] f[i] (List.getElem?_eq_getElem (by omega)) (List.getElem?_eq_getElem h1) (gf4 i fs[i] f'[i] (List.getElem?_eq_getElem (by omega)) (List.getElem?_eq_getElem h2))
        exact Prod.ext (a1.symm.trans a2) a3
      rw [e1, e2]
end Go.Proofs.Ytinenbgdkchghaa
namespace Go.Proofs.Ytinenbgdkchghaa
open Go.RowKit Go.Proofs.LawFrame

theorem FlatA.keep' {w w' : World} {A A' : Nat → Prop} {v : Value} {n : Nat} {xs : List Value} (h : FlatA w A v n xs) (hs : w.heap.size ≤ w'.heap.size) (hA : ∀ b, A b → b < w.heap.size → A' b) (hk : ∀ b, A b → b < w.heap.size → w'.heap[b]? = w.heap[b]?) : FlatA w' A' v n xs := by
  obtain ⟨ao, cap, h1, h2, h3, h4⟩ := h.out
  refine ⟨ao, cap, h1, h2, h3, fun hl => ?_⟩
  obtain ⟨b, off, h5, h6, h7, h8⟩ := h4 hl
  refine ⟨b, off, h5, Nat.lt_of_lt_of_le h6 hs, hA b h7 h6, fun j x hx => ?_⟩
  rw [cell_of_block (hk b h7 h6)]
  exact h8 j x hx
theorem IsA.keep' {w w' : World} {A A' : Nat → Prop} {c : VC} {t : T} (h : IsA w A c t) (hs : w.heap.size ≤ w'.heap.size) (hA : ∀ b, A b → b < w.heap.size → A' b) (hk : ∀ b, A b → b < w.heap.size → w'.heap[b]? = w.heap[b]?) : IsA w' A' c t := by
  induction h with
  | mk cs fs hl1 hl2 hl3 hf1 hf2 hf3 hf4 ih1 ih2 => exact .mk cs fs hl1 (hl2.keep' hs hA hk) ih1 hf1 (hf2.keep' hs hA hk) hf3 ih2
theorem IsA.but {w w' : World} {A : Nat → Prop} {c : VC} {t : T} {b : Nat} (h : IsA w A c t) (hb : But b w w') (hA : ¬ A b) : IsA w' A c t :=
  h.keep hb.size (fun _ h => h) (fun k hk hlt => hb.block k hlt (by rintro rfl; exact hA hk))
theorem FlatA.but {w w' : World} {A : Nat → Prop} {v : Value} {n : Nat} {xs : List Value} {b : Nat} (h : FlatA w A v n xs) (hb : But b w w') (hA : ¬ A b) : FlatA w' A v n xs :=
  h.keep hb.size (fun _ h => h) (fun k hk hlt => hb.block k hlt (by rintro rfl; exact hA hk))
theorem But.grown {b : Nat} {w w' w'' : World} {row : Option Nat} (h : But b w w') (hg : w'.grownBy w'' row) (hr : ∀ k, row = some k → w.heap.size ≤ k) : But b w w'' :=
  ⟨hg.os.trans h.os, hg.tape.trans h.tape, hg.output.trans h.output, Nat.le_trans h.size hg.size, fun k hk hne => (hg.block k (Nat.lt_of_lt_of_le hk h.size) (fun e => by have := hr k e.symm; omega)).trans (h.block k hk hne)⟩
theorem own_kept' {w w' : World} {b : Nat} {row : Option Nat} {cs : List Value} {t : TypeId} (h : Own w b cs t) (hg : w.grownBy w' row) (hne : ¬ row = some b) : Own w' b cs t := by
  unfold Own; rw [hg.block b h.lt (fun e => hne e.symm)]; exact h
theorem row_set {w : World} {base : Nat} {e : TypeId} {size : Nat} {v : Value} {n : Nat} {xs : List Value} (h : w.ownsRow base e size v n xs) {b : Nat} (hb : b < base) (i : Nat) (x : Value) : (w.setCell ⟨b, i, none⟩ x).ownsRow base e size v n xs :=
  h.kept (row := some b) ⟨rfl, rfl, rfl, Nat.le_of_eq (by unfold World.setCell; simp), fun k _ hne => Below.heap_setCell _ _ _ _ (fun e => hne (by rw [e]))⟩ (by
    cases hv : v.ownBlock with
    | none => exact Or.inl rfl
    | some k => exact Or.inr (by have := own_row h k hv; intro e; cases e; omega))
theorem flatA_of_own {w : World} {base : Nat} {e : TypeId} {size : Nat} {v : Value} {n : Nat} {xs : List Value} (h : w.ownsRow base e size v n xs) : FlatA w (fun b => base ≤ b) v n xs := by
  rcases h.2 with ⟨rfl, rfl⟩ | ⟨g, cap, cur, rfl, hb, hg, h1, h2, h3, h4⟩
  · exact FlatA.nil w _ xs
  · refine ⟨some ⟨g, 0, none⟩, cap, rfl, h1, h2, fun _ => ⟨g, 0, rfl, ?_, hb, fun j x hx => ?_⟩⟩
    · rcases Nat.lt_or_ge g w.heap.size with hlt | hge
      · exact hlt
      · rw [Array.getElem?_eq_none hge] at hg; cases hg
    · rw [Nat.zero_add, cell_of_row w g j cur e (0, 0) hg, ← Array.getElem?_toList]
      rw [← h4] at hx
      rw [List.getElem?_take] at hx
      split at hx
      · exact hx
      · cases hx
theorem own_src {w : World} {b : Nat} {cs : List Value} {t : TypeId} (o : Own w b cs t) : ∀ j u, cs[j]? = some u → w.cell? ((⟨b, 0, none⟩ : Addr).add j) = some u := fun j u h => by
  rw [Addr.add_lit, Nat.zero_add]; exact o.cell h
theorem five_one (c : VC) : ∀ v ∈ VC.cells c, v.oneCell' = true := by
  intro v hv; simp at hv; rcases hv with rfl | rfl | rfl | rfl | rfl <;> rfl
theorem six_one' (c : FC) : ∀ v ∈ FC.cells c, v.oneCell' = true := by
  intro v hv; simp at hv; rcases hv with rfl | rfl | rfl | rfl | rfl | rfl <;> rfl
theorem snocV (l : List VC) (c : VC) : (l ++ [c]).flatMap VC.cells = l.flatMap VC.cells ++ VC.cells c := by simp
theorem snocF (l : List FC) (c : FC) : (l ++ [c]).flatMap FC.cells = l.flatMap FC.cells ++ FC.cells c := by simp

/-- what was gathered in the row p, whose trees lie in blocks from base on, none of them the row's -/
structure AccV (base : Nat) (p : Value) (w : World) (cs : List VC) (l : List T) : Prop where
  len : cs.length = l.length
  all : ∀ (i : Nat) (c : VC) (t : T), cs[i]? = some c → l[i]? = some t → IsA w (fun b => base ≤ b ∧ p.ownBlock ≠ some b) c t
theorem AccV.nil (base : Nat) (p : Value) (w : World) : AccV base p w [] [] := ⟨rfl, fun i c t h => by simp at h⟩
theorem AccV.keep {base : Nat} {p p' : Value} {w w' : World} {cs : List VC} {l : List T} (h : AccV base p w cs l) (hs : w.heap.size ≤ w'.heap.size) (hp : ∀ b, base ≤ b → p.ownBlock ≠ some b → b < w.heap.size → p'.ownBlock ≠ some b) (hk : ∀ b, base ≤ b → p.ownBlock ≠ some b → b < w.heap.size → w'.heap[b]? = w.heap[b]?) : AccV base p' w' cs l :=
  ⟨h.len, fun i c t hc ht => (h.all i c t hc ht).keep' hs (fun b hb hlt => ⟨hb.1, hp b hb.1 hb.2 hlt⟩) (fun b hb hlt => hk b hb.1 hb.2 hlt)⟩
theorem AccV.below {base : Nat} {p : Value} {w w' : World} {cs : List VC} {l : List T} (h : AccV base p w cs l) (hb : Below w.heap.size w w') : AccV base p w' cs l :=
  h.keep hb.size (fun _ _ h _ => h) (fun b _ _ hlt => hb.block b hlt)
theorem AccV.set {base : Nat} {p : Value} {w : World} {cs : List VC} {l : List T} (h : AccV base p w cs l) {b : Nat} (hb : b < base) (i : Nat) (x : Value) : AccV base p (w.setCell ⟨b, i, none⟩ x) cs l :=
  h.keep (Nat.le_of_eq (by unfold World.setCell; simp)) (fun _ _ h _ => h) (fun b' h1 _ _ => Below.heap_setCell _ _ _ _ (by rintro rfl; exact absurd h1 (Nat.not_le_of_lt hb)))
theorem AccV.grow {base : Nat} {p : Value} {w w' : World} {cs : List VC} {l : List T} {g n cap : Nat} (h : AccV base p w cs l) (hg : w.grownBy w' p.ownBlock) (hl : p.ownBlock = some g ∨ g = w.heap.size) : AccV base (.slice (some ⟨g, 0, none⟩) n cap) w' cs l :=
  h.keep hg.size (fun b _ h2 hlt e => by
    have e' : g = b := by simpa [Value.ownBlock] using e
    subst e'
    rcases hl with hl | hl
    · exact h2 hl
    · omega) (fun b _ h2 hlt => hg.block b hlt (fun e => h2 e.symm))
theorem AccV.snoc {base : Nat} {p : Value} {w : World} {cs : List VC} {l : List T} {c : VC} {t : T} (h : AccV base p w cs l) (hc : IsA w (fun b => base ≤ b ∧ p.ownBlock ≠ some b) c t) : AccV base p w (cs ++ [c]) (l ++ [t]) := by
  refine ⟨by rw [List.length_append, List.length_append, h.len]; rfl, fun i c' t' hc' ht' => ?_⟩
  rcases Nat.lt_or_ge i cs.length with hlt | hge
  · rw [List.getElem?_append_left hlt] at hc'
    rw [List.getElem?_append_left (by rw [← h.len]; exact hlt)] at ht'
    exact h.all i c' t' hc' ht'
  · have hi := (List.getElem?_eq_some_iff.1 hc').1
    rw [List.length_append] at hi
    have e : i = cs.length := by simp at hi; omega
    subst e
    rw [List.getElem?_append_right (Nat.le_refl _), Nat.sub_self] at hc'
    rw [List.getElem?_append_right (by rw [h.len]; exact Nat.le_refl _), h.len, Nat.sub_self] at ht'
    simp at hc' ht'
    subst hc' ht'
    exact hc
theorem AccV.flatA {base : Nat} {p : Value} {w : World} {cs : List VC} {l : List T} {e : TypeId} (h : AccV base p w cs l) (ho : w.ownsRow base e 5 p l.length (cs.flatMap VC.cells)) :
    ∃ cs : List VC, cs.length = l.length ∧ FlatA w (fun b => base ≤ b) p l.length (cs.flatMap VC.cells) ∧ ∀ (i : Nat) (c : VC) (t : T), cs[i]? = some c → l[i]? = some t → IsA w (fun b => base ≤ b) c t :=
  ⟨cs, h.len, flatA_of_own ho, fun i c t hc ht => (h.all i c t hc ht).mono (fun b hb => hb.1)⟩

/-- what was gathered in the row p, whose trees lie in blocks from base on, none of them the row's -/
structure AccF (base : Nat) (p : Value) (w : World) (cs : List FC) (l : List (Str × T)) : Prop where
  len : cs.length = l.length
  all : ∀ (i : Nat) (c : FC) (t : (Str × T)), cs[i]? = some c → l[i]? = some t → c.x = t.1 ∧ IsA w (fun b => base ≤ b ∧ p.ownBlock ≠ some b) c.v t.2
theorem AccF.nil (base : Nat) (p : Value) (w : World) : AccF base p w [] [] := ⟨rfl, fun i c t h => by simp at h⟩
theorem AccF.keep {base : Nat} {p p' : Value} {w w' : World} {cs : List FC} {l : List (Str × T)} (h : AccF base p w cs l) (hs : w.heap.size ≤ w'.heap.size) (hp : ∀ b, base ≤ b → p.ownBlock ≠ some b → b < w.heap.size → p'.ownBlock ≠ some b) (hk : ∀ b, base ≤ b → p.ownBlock ≠ some b → b < w.heap.size → w'.heap[b]? = w.heap[b]?) : AccF base p' w' cs l :=
  ⟨h.len, fun i c t hc ht => ⟨(h.all i c t hc ht).1, (h.all i c t hc ht).2.keep' hs (fun b hb hlt => ⟨hb.1, hp b hb.1 hb.2 hlt⟩) (fun b hb hlt => hk b hb.1 hb.2 hlt)⟩⟩
theorem AccF.below {base : Nat} {p : Value} {w w' : World} {cs : List FC} {l : List (Str × T)} (h : AccF base p w cs l) (hb : Below w.heap.size w w') : AccF base p w' cs l :=
  h.keep hb.size (fun _ _ h _ => h) (fun b _ _ hlt => hb.block b hlt)
theorem AccF.set {base : Nat} {p : Value} {w : World} {cs : List FC} {l : List (Str × T)} (h : AccF base p w cs l) {b : Nat} (hb : b < base) (i : Nat) (x : Value) : AccF base p (w.setCell ⟨b, i, none⟩ x) cs l :=
  h.keep (Nat.le_of_eq (by unfold World.setCell; simp)) (fun _ _ h _ => h) (fun b' h1 _ _ => Below.heap_setCell _ _ _ _ (by rintro rfl; exact absurd h1 (Nat.not_le_of_lt hb)))
theorem AccF.grow {base : Nat} {p : Value} {w w' : World} {cs : List FC} {l : List (Str × T)} {g n cap : Nat} (h : AccF base p w cs l) (hg : w.grownBy w' p.ownBlock) (hl : p.ownBlock = some g ∨ g = w.heap.size) : AccF base (.slice (some ⟨g, 0, none⟩) n cap) w' cs l :=
  h.keep hg.size (fun b _ h2 hlt e => by
    have e' : g = b := by simpa [Value.ownBlock] using e
    subst e'
    rcases hl with hl | hl
    · exact h2 hl
    · omega) (fun b _ h2 hlt => hg.block b hlt (fun e => h2 e.symm))
theorem AccF.snoc {base : Nat} {p : Value} {w : World} {cs : List FC} {l : List (Str × T)} {c : FC} {t : (Str × T)} (h : AccF base p w cs l) (hc : c.x = t.1 ∧ IsA w (fun b => base ≤ b ∧ p.ownBlock ≠ some b) c.v t.2) : AccF base p w (cs ++ [c]) (l ++ [t]) := by
  refine ⟨by rw [List.length_append, List.length_append, h.len]; rfl, fun i c' t' hc' ht' => ?_⟩
  rcases Nat.lt_or_ge i cs.length with hlt | hge
  · rw [List.getElem?_append_left hlt] at hc'
    rw [List.getElem?_append_left (by rw [← h.len]; exact hlt)] at ht'
    exact h.all i c' t' hc' ht'
  · have hi := (List.getElem?_eq_some_iff.1 hc').1
    rw [List.length_append] at hi
    have e : i = cs.length := by simp at hi; omega
    subst e
    rw [List.getElem?_append_right (Nat.le_refl _), Nat.sub_self] at hc'
    rw [List.getElem?_append_right (by rw [h.len]; exact Nat.le_refl _), h.len, Nat.sub_self] at ht'
    simp at hc' ht'
    subst hc' ht'
    exact hc
theorem AccF.flatA {base : Nat} {p : Value} {w : World} {cs : List FC} {l : List (Str × T)} {e : TypeId} (h : AccF base p w cs l) (ho : w.ownsRow base e 6 p l.length (cs.flatMap FC.cells)) :
    ∃ cs : List FC, cs.length = l.length ∧ FlatA w (fun b => base ≤ b) p l.length (cs.flatMap FC.cells) ∧ (∀ (i : Nat) (x : FC) (q : Str × T), cs[i]? = some x → l[i]? = some q → x.x = q.1) ∧ ∀ (i : Nat) (c : FC) (t : (Str × T)), cs[i]? = some c → l[i]? = some t → IsA w (fun b => base ≤ b) c.v t.2 :=
  ⟨cs, h.len, flatA_of_own ho, fun i c t hc ht => (h.all i c t hc ht).1, fun i c t hc ht => (h.all i c t hc ht).2.mono (fun b hb => hb.1)⟩
end Go.Proofs.Ytinenbgdkchghaa
