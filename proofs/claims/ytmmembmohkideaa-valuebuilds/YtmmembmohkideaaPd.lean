/- Cells are one tree. -/
import Derived.Test.YtmmembmohkideaaPn
namespace Go.Proofs.Ytmmembmohkideaa
open Go.RowKit Go.Proofs.LawFrame
theorem sV_inj {a b : Str} (h : sV a = sV b) : a = b := by injection h with h; injection h with h; simpa using h
theorem VC.cells_inj {c d : VC} (h : c.cells = d.cells) : c = d := by
  obtain ⟨k, n, s, la, ln, lc, fa, fn, fc⟩ := c
  obtain ⟨k', n', s', la', ln', lc', fa', fn', fc'⟩ := d
  simp only [VC.cells, List.cons.injEq, Value.int.injEq, Value.slice.injEq, and_true, true_and] at h
  obtain ⟨rfl, rfl, h3, ⟨rfl, rfl, rfl⟩, rfl, rfl, rfl⟩ := h
  rw [sV_inj h3]
theorem FC.cells_inj {c d : FC} (h : c.cells = d.cells) : c = d := by
  obtain ⟨x, v⟩ := c
  obtain ⟨x', v'⟩ := d
  simp only [FC.cells, List.cons.injEq] at h
  obtain ⟨h1, h2⟩ := h
  have := VC.cells_inj (c := v) (d := v') (by simp only [VC.cells, List.cons.injEq]; exact h2)
  subst this
  rw [sV_inj h1]
theorem flatMap_inj {α : Type} (f : α → List Value) {m : Nat} (hf : ∀ a, (f a).length = m) (hi : ∀ a b, f a = f b → a = b) : ∀ (l l' : List α), l.length = l'.length → l.flatMap f = l'.flatMap f → l = l' := by
  intro l
  induction l with
  | nil => intro l' h _; cases l' with
    | nil => rfl
    | cons a r => simp at h
  | cons a r ih =>
    intro l' h he
    cases l' with
    | nil => simp at h
    | cons a' r' =>
      rw [List.flatMap_cons, List.flatMap_cons] at he
      obtain ⟨h1, h2⟩ := List.append_inj he (by rw [hf, hf])
      rw [hi _ _ h1, ih r' (by simpa using h) h2]
theorem Flat.len {w : World} {ao : Option Addr} {k cap n : Nat} {xs : List Value} (h : Flat w (.slice ao k cap) n xs) : k = n := by
  obtain ⟨ao', cap', h1, -⟩ := h.out
  cases h1; rfl
theorem Flat.det {w : World} {v : Value} {n : Nat} {xs ys : List Value} (h : Flat w v n xs) (h' : Flat w v n ys) (hl : xs.length = ys.length) (h0 : n = 0 → xs.length = 0) : xs = ys := by
  obtain ⟨ao, cap, h1, h2, h3, h4⟩ := h.out
  obtain ⟨ao', cap', g1, g2, g3, g4⟩ := h'.out
  rw [h1] at g1; cases g1
  rcases Nat.eq_zero_or_pos n with hn | hn
  · have e1 : xs = [] := List.eq_nil_of_length_eq_zero (h0 hn)
    have e2 : ys = [] := List.eq_nil_of_length_eq_zero (by have := h0 hn; omega)
    rw [e1, e2]
  · obtain ⟨b, off, rfl, -, c1⟩ := h4 hn
    obtain ⟨b', off', e, -, c2⟩ := g4 hn
    cases e
    apply List.ext_getElem hl
    intro i h1 h2
    have a1 := c1 i _ (List.getElem?_eq_getElem h1)
    have a2 := c2 i _ (List.getElem?_eq_getElem h2)
    rw [a1] at a2
    exact Option.some.inj a2
/-- cells are one tree -/
theorem Is.det {w : World} {c : VC} {t t' : T} (h : Is w c t) (h' : Is w c t') : t = t' := by
  induction h generalizing t' with
  | mk cs fs hl1 hl2 hl3 hf1 hf2 hf3 hf4 ih1 ih2 =>
    cases h' with
    | mk cs' fs' gl1 gl2 gl3 gf1 gf2 gf3 gf4 =>
      rename_i c l f l' f'
      have el : l.length = l'.length := hl2.len.symm.trans gl2.len
      have ef : f.length = f'.length := hf2.len.symm.trans gf2.len
      have L1 := flat_length VC.cells (m := 5) (fun _ => rfl) cs
      have L2 := flat_length VC.cells (m := 5) (fun _ => rfl) cs'
      have F1 := flat_length FC.cells (m := 6) (fun _ => rfl) fs
      have F2 := flat_length FC.cells (m := 6) (fun _ => rfl) fs'
      rw [← el] at gl2
      rw [← ef] at gf2
      obtain rfl : cs = cs' := flatMap_inj VC.cells (m := 5) (fun _ => rfl) (fun _ _ => VC.cells_inj) cs cs' (by omega) (hl2.det gl2 (by omega) (by omega))
      obtain rfl : fs = fs' := flatMap_inj FC.cells (m := 6) (fun _ => rfl) (fun _ _ => FC.cells_inj) fs fs' (by omega) (hf2.det gf2 (by omega) (by omega))
      have e1 : l = l' := by
        apply List.ext_getElem el
        intro i h1 h2
        exact ih1 i cs[i] l[i] (List.getElem?_eq_getElem (by omega)) (List.getElem?_eq_getElem h1) (gl3 i cs[i] l'[i] (List.getElem?_eq_getElem (by omega)) (List.getElem?_eq_getElem h2))
      have e2 : f = f' := by
        apply List.ext_getElem ef
        intro i h1 h2
        have a1 := hf3 i fs[i] f[i] (List.getElem?_eq_getElem (by omega)) (List.getElem?_eq_getElem h1)
        have a2 := gf3 i fs[i] f'[i] (List.getElem?_eq_getElem (by omega)) (List.getElem?_eq_getElem h2)
        have a3 := ih2 i fs[i] f[i] (List.getElem?_eq_getElem (by omega)) (List.getElem?_eq_getElem h1) (gf4 i fs[i] f'[i] (List.getElem?_eq_getElem (by omega)) (List.getElem?_eq_getElem h2))
        exact Prod.ext (a1.symm.trans a2) a3
      rw [e1, e2]
end Go.Proofs.Ytmmembmohkideaa
