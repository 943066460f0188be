/- Rows of the call's own behind calls and appends. -/
import Derived.Test.YtinenbgdkchghaaPmJ
import Derived.Test.YtinenbgdkchghaaProg
import Derived.Maps.AppendAt
import Derived.OwnWalk
set_option linter.unusedSimpArgs false
set_option linter.unusedVariables false
namespace Go.Proofs.Ytinenbgdkchghaa
open Go.RowKit Go.Proofs.LawFrame


theorem below_grown {B : Nat} {a w w' : World} {row : Option Nat} (h : Below B a w) (hg : w.grownBy w' row) (hB : B ≤ w.heap.size) (hr : ∀ k, row = some k → B ≤ k) : Below B a w' :=
  h.trans ⟨hg.os, hg.tape, hg.output, hg.size, fun k hk => hg.block k (by omega) (fun e => by have := hr k e.symm; omega)⟩
theorem own_below {w w' : World} {base : Nat} {e : TypeId} {size : Nat} {v : Value} {n : Nat} {xs : List Value} (h : w.ownsRow base e size v n xs) (hb : Below w.heap.size w w') : w'.ownsRow base e size v n xs :=
  h.kept (row := none) ⟨hb.os, hb.tape, hb.output, hb.size, fun k hk _ => hb.block k hk⟩ (by
    cases hv : v.ownBlock with
    | none => exact Or.inl rfl
    | some k => exact Or.inr (by simp))
theorem own_row {w : World} {base : Nat} {e : TypeId} {size : Nat} {v : Value} {n : Nat} {xs : List Value} (h : w.ownsRow base e size v n xs) : ∀ k, v.ownBlock = some k → base ≤ k := fun k hk => (h.lt k hk).1
theorem own_nil (w : World) (base : Nat) (e : TypeId) (size : Nat) : w.ownsRow base e size (.slice none 0 0) 0 [] := ⟨by simp, Or.inl ⟨rfl, rfl⟩⟩
theorem cell_pair_new (w : World) (x y : Value) (t : TypeId) : ∀ j u, [x, y][j]? = some u → (w.alloc (.cells #[x, y] t)).cell? ((⟨w.heap.size, 0, none⟩ : Addr).add j) = some u := by
  intro j u h
  have o := Own.new w [x, y] t
  match j, h with
  | 0, h => simp at h; subst h; exact o.cell rfl
  | 1, h => simp at h; subst h; exact o.cell rfl
  | j + 2, h => simp at h
theorem cell_triple_new (w : World) (x y z : Value) (t : TypeId) : ∀ j u, [x, y, z][j]? = some u → (w.alloc (.cells #[x, y, z] t)).cell? ((⟨w.heap.size, 0, none⟩ : Addr).add j) = some u := by
  intro j u h
  have o := Own.new w [x, y, z] t
  match j, h with
  | 0, h => simp at h; subst h; exact o.cell rfl
  | 1, h => simp at h; subst h; exact o.cell rfl
  | 2, h => simp at h; subst h; exact o.cell rfl
  | j + 3, h => simp at h
theorem info_parts {t : TypeId} {z : Value} {m n : Nat} (h : (Try.prog.info? t).map (fun i => (i.zero, i.size, i.bytes)) = some (some z, m, n)) : ∃ i, Try.prog.info? t = some i ∧ i.zero = some z ∧ i.size = m ∧ i.bytes = n := by
  cases hq : Try.prog.info? t with
  | none => rw [hq] at h; simp at h
  | some i => rw [hq] at h; simp at h; exact ⟨i, rfl, h.1, h.2.1, h.2.2⟩
theorem below_alloc (w : World) (o : Obj) : Below w.heap.size w (w.alloc o) := (Below.refl _ _).alloc (Nat.le_refl _) _
/-- a row with what lies behind it -/
theorem Own.setFR {w : World} {b : Nat} {cs : List FC} {rest : List Value} {t : TypeId} (h : Own w b (cs.flatMap FC.cells ++ rest) t) {k : Nat} (hk : k < cs.length) (c : FC) :
    Own ((((((w.setCell ⟨b, k * 6, none⟩ (sV c.x)).setCell ⟨b, k * 6 + 1, none⟩ (.int .i64 c.v.k)).setCell ⟨b, k * 6 + 2, none⟩ (.int .i64 c.v.n)).setCell ⟨b, k * 6 + 3, none⟩ (sV c.v.s)).setCell ⟨b, k * 6 + 4, none⟩ (.slice c.v.la c.v.ln c.v.lc)).setCell ⟨b, k * 6 + 5, none⟩ (.slice c.v.fa c.v.fn c.v.fc)) b ((cs.set k c).flatMap FC.cells ++ rest) t := by
  have := (((((h.set (k * 6) (sV c.x)).set (k * 6 + 1) (.int .i64 c.v.k)).set (k * 6 + 2) (.int .i64 c.v.n)).set (k * 6 + 3) (sV c.v.s)).set (k * 6 + 4) (.slice c.v.la c.v.ln c.v.lc)).set (k * 6 + 5) (.slice c.v.fa c.v.fn c.v.fc)
  have hfl := flat_length FC.cells (m := 6) (fun _ => rfl) cs
  rw [set6 _ _ _ _ _ _ _ _ (by rw [List.length_append, hfl]; omega)] at this
  rw [List.take_append_of_le_length (by rw [hfl]; omega), List.drop_append_of_le_length (by rw [hfl]; omega)] at this
  rw [flatMap_set FC.cells (m := 6) (fun _ => rfl) cs k c hk, List.append_assoc]
  exact this
theorem row_get {cs : List FC} {rest : List Value} {k j : Nat} {c : FC} (hk : cs[k]? = some c) (hj : j < 6) : (cs.flatMap FC.cells ++ rest)[k * 6 + j]? = (FC.cells c)[j]? := by
  have hlt := (List.getElem?_eq_some_iff.1 hk).1
  rw [List.getElem?_append_left (by rw [flat_length FC.cells (m := 6) (fun _ => rfl)]; omega)]
  exact flat_get FC.cells (m := 6) (fun _ => rfl) cs k j c hk hj
/-- the k-th field of a row, cell by cell -/
theorem Own.fieldAt {w : World} {b : Nat} {cs : List FC} {rest : List Value} {t : TypeId} (h : Own w b (cs.flatMap FC.cells ++ rest) t) {k : Nat} {c : FC} (hk : cs[k]? = some c) :
    w.cell? ⟨b, k * 6, none⟩ = some (sV c.x) ∧ w.cell? ⟨b, k * 6 + 1, none⟩ = some (.int .i64 c.v.k) ∧ w.cell? ⟨b, k * 6 + 2, none⟩ = some (.int .i64 c.v.n) ∧ w.cell? ⟨b, k * 6 + 3, none⟩ = some (sV c.v.s) ∧ w.cell? ⟨b, k * 6 + 4, none⟩ = some (.slice c.v.la c.v.ln c.v.lc) ∧ w.cell? ⟨b, k * 6 + 5, none⟩ = some (.slice c.v.fa c.v.fn c.v.fc) :=
  ⟨h.cell (by have := row_get (rest := rest) hk (j := 0) (by omega); simpa using this), h.cell (row_get hk (by omega)), h.cell (row_get hk (by omega)), h.cell (row_get hk (by omega)), h.cell (row_get hk (by omega)), h.cell (row_get hk (by omega))⟩
end Go.Proofs.Ytinenbgdkchghaa
