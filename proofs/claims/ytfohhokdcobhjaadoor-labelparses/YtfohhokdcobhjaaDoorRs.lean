/- Rows of the call's own as whole blocks; stores, clear and copy into them. -/
import Derived.Test.YtfohhokdcobhjaaDoorWq
import Derived.Laws.OwnMore
namespace Go.Proofs.YtfohhokdcobhjaaDoor
open Go.RowKit Go.Sort Go.Proofs.LawFrame

theorem own_cur {w : World} {base n g cap : Nat} {e : TypeId} {k : Nat} {xs : List Value} (h : w.ownsRow base e k (.slice (some ⟨g, 0, none⟩) n cap) n xs) :
    ∃ cur : List Value, Own w g cur e ∧ base ≤ g ∧ n ≤ cap ∧ cap ≤ maxLen ∧ cur.length = cap * k ∧ cur.take (n * k) = xs ∧ xs.length = n * k := by
  rcases h.2 with ⟨h1, -⟩ | ⟨g', cap', cur, h1, h2, h3, h4, h5, h6, h7⟩
  · cases h1
  · cases h1
    exact ⟨cur.toList, h3, h2, h4, h5, by simpa using h6, h7, h.1⟩
theorem own_mk {w : World} {base n g cap : Nat} {e : TypeId} {k : Nat} {xs cur : List Value} (h : Own w g cur e) (hb : base ≤ g) (hn : n ≤ cap) (hc : cap ≤ maxLen) (hl : cur.length = cap * k) (ht : cur.take (n * k) = xs) :
    w.ownsRow base e k (.slice (some ⟨g, 0, none⟩) n cap) n xs := by
  refine ⟨?_, Or.inr ⟨g, cap, cur.toArray, rfl, hb, h, hn, hc, by simpa using hl, by simpa using ht⟩⟩
  rw [← ht, List.length_take, hl]
  exact Nat.min_eq_left (Nat.mul_le_mul_right _ hn)
theorem Own.setRow {w : World} {g : Nat} {cs : List Value} {t : TypeId} (h : Own w g cs t) (ds : List Value) : Own (w.setRow g ds.toArray) g ds t := by
  unfold Own World.setRow
  simp only [Array.getElem?_modify, if_pos]
  rw [show w.heap[g]? = _ from h]; rfl
theorem below_setRow {B : Nat} {a w : World} (h : Below B a w) {g : Nat} (hg : B ≤ g) (ds : Array Value) : Below B a (w.setRow g ds) := by
  refine h.trans ⟨rfl, rfl, rfl, ?_, fun k hk => ?_⟩
  · show w.heap.size ≤ (w.heap.modify g _).size; simp
  · show (w.heap.modify g _)[k]? = _
    rw [Array.getElem?_modify, if_neg (by omega)]
theorem Own.setRow_ne {w : World} {b g : Nat} {cs : List Value} {t : TypeId} (h : Own w b cs t) (hne : g ≠ b) (ds : Array Value) : Own (w.setRow g ds) b cs t := by
  unfold Own World.setRow
  simp only [Array.getElem?_modify]
  rw [if_neg hne]; exact h
theorem size_setRow (w : World) (g : Nat) (ds : Array Value) : (w.setRow g ds).heap.size = w.heap.size := by show (w.heap.modify g _).size = _; simp

theorem wp_clear_run {P : Program} (w : World) {o : Oper} {a : Act} {K : Act → World → Prop} {Q : Exit → Act → World → Prop} (d : Operand) (t : TypeId)
    (ho : o.op = .call { callee := .builtin .clear, args := #[d], argTypes := #[t] }) (v : Value) (hd : a.eval d = v) {v' : Value} {w' : World}
    (hr : (Builtin.clear_ #[t] o.type #[v]).run P w = .ok v' w') (h : K (a.put o.dst v') w') : o.wp P a w K Q := by
  unfold Oper.wp execOp
  simp only [ho, resolve, invoke, builtin, Sem.run_bind, Sem.run_pure, Result.andThen_ok, List.map_toArray, List.map_cons, List.map_nil, hd, hr]
  exact h
theorem wpList_clear_run {P : Program} (w : World) {ops : Array Oper} {rest : List Oper} {o : Oper} {a : Act} {Q : Exit → Act → World → Prop} (hgd : o.guard = none) (d : Operand) (t : TypeId)
    (ho : o.op = .call { callee := .builtin .clear, args := #[d], argTypes := #[t] }) (v : Value) (hd : a.eval d = v) {v' : Value} {w' : World}
    (hr : (Builtin.clear_ #[t] o.type #[v]).run P w = .ok v' w') (h : wpList P ops Q rest (a.put o.dst v') w') : wpList P ops Q (o :: rest) a w :=
  wpList_plain hgd fun _ hK => wp_clear_run w d t ho v hd hr (hK _ _ h)
theorem wp_copy_run2 {P : Program} (w : World) {o : Oper} {a : Act} {K : Act → World → Prop} {Q : Exit → Act → World → Prop} (d s : Operand) (t t' : TypeId)
    (ho : o.op = .call { callee := .builtin .copy, args := #[d, s], argTypes := #[t, t'] }) (v u : Value) (hd : a.eval d = v) (hs : a.eval s = u) {v' : Value} {w' : World}
    (hr : (Builtin.copy_ #[t, t'] o.type #[v, u]).run P w = .ok v' w') (h : K (a.put o.dst v') w') : o.wp P a w K Q := by
  unfold Oper.wp execOp
  simp only [ho, resolve, invoke, builtin, Sem.run_bind, Sem.run_pure, Result.andThen_ok, List.map_toArray, List.map_cons, List.map_nil, hd, hs, hr]
  exact h
theorem wpList_copy_run2 {P : Program} (w : World) {ops : Array Oper} {rest : List Oper} {o : Oper} {a : Act} {Q : Exit → Act → World → Prop} (hgd : o.guard = none) (d s : Operand) (t t' : TypeId)
    (ho : o.op = .call { callee := .builtin .copy, args := #[d, s], argTypes := #[t, t'] }) (v u : Value) (hd : a.eval d = v) (hs : a.eval s = u) {v' : Value} {w' : World}
    (hr : (Builtin.copy_ #[t, t'] o.type #[v, u]).run P w = .ok v' w') (h : wpList P ops Q rest (a.put o.dst v') w') : wpList P ops Q (o :: rest) a w :=
  wpList_plain hgd fun _ hK => wp_copy_run2 w d s t t' ho v u hd hs hr (hK _ _ h)

/-- one element of a row of labels turned -/
theorem flat_set (C : List Lab) (i : Nat) (x : Lab) : ((C.flatMap labC).set (i * 2) (sV x.1)).set (i * 2 + 1) (sV x.2) = (C.set i x).flatMap labC := by
  induction C generalizing i with
  | nil => rfl
  | cons a t ih =>
    cases i with
    | zero => simp [labC]
    | succ i =>
      rw [List.flatMap_cons, List.set_cons_succ, List.flatMap_cons, ← ih i]
      show ((sV a.1 :: sV a.2 :: t.flatMap labC).set ((i + 1) * 2) (sV x.1)).set ((i + 1) * 2 + 1) (sV x.2) = _
      rw [show (i + 1) * 2 = i * 2 + 1 + 1 by omega]
      rfl
theorem flat_take (C : List Lab) (i : Nat) : (C.flatMap labC).take (i * 2) = (C.take i).flatMap labC := by
  induction C generalizing i with
  | nil => simp
  | cons a t ih =>
    cases i with
    | zero => simp
    | succ i =>
      rw [List.take_succ_cons, List.flatMap_cons, List.flatMap_cons, ← ih i]
      show (sV a.1 :: sV a.2 :: t.flatMap labC).take ((i + 1) * 2) = _
      rw [show (i + 1) * 2 = i * 2 + 1 + 1 by omega]
      rfl
theorem flat_drop (C : List Lab) (i : Nat) : (C.flatMap labC).drop (i * 2) = (C.drop i).flatMap labC := by
  induction C generalizing i with
  | nil => simp
  | cons a t ih =>
    cases i with
    | zero => simp
    | succ i =>
      rw [List.drop_succ_cons, List.flatMap_cons, ← ih i]
      show (sV a.1 :: sV a.2 :: t.flatMap labC).drop ((i + 1) * 2) = _
      rw [show (i + 1) * 2 = i * 2 + 1 + 1 by omega]
      rfl
theorem own_set {w : World} {base n g cap : Nat} {C : List Lab} (h : w.ownsRow base 45 2 (.slice (some ⟨g, 0, none⟩) n cap) n (C.flatMap labC)) {i : Nat} (hi : i < n) (x : Lab) :
    ((w.setCell ⟨g, i * 2, none⟩ (sV x.1)).setCell ⟨g, i * 2 + 1, none⟩ (sV x.2)).ownsRow base 45 2 (.slice (some ⟨g, 0, none⟩) n cap) n ((C.set i x).flatMap labC) := by
  obtain ⟨cur, h1, h2, h3, h4, h5, h6, h7⟩ := own_cur h
  refine own_mk ((h1.set (i * 2) (sV x.1)).set (i * 2 + 1) (sV x.2)) h2 h3 h4 (by simpa using h5) ?_
  rw [← flat_set, ← h6, List.take_set, List.take_set]
theorem own_get {w : World} {base n g cap : Nat} {C : List Lab} (h : w.ownsRow base 45 2 (.slice (some ⟨g, 0, none⟩) n cap) n (C.flatMap labC)) {i : Nat} {x : Lab} (hx : C[i]? = some x) (hl : C.length = n) :
    w.cell? ⟨g, i * 2, none⟩ = some (sV x.1) ∧ w.cell? ⟨g, i * 2 + 1, none⟩ = some (sV x.2) ∧ w.frozen? ⟨g, i * 2, none⟩ = false ∧ w.frozen? ⟨g, i * 2 + 1, none⟩ = false := by
  obtain ⟨cur, h1, h2, h3, h4, h5, h6, h7⟩ := own_cur h
  have hi : i < n := by have := (List.getElem?_eq_some_iff.1 hx).1; omega
  have hg : ∀ j, j < 2 → cur[i * 2 + j]? = (labC x)[j]? := fun j hj => by
    have := flat_get labC (m := 2) (fun _ => rfl) C i j x hx hj
    rw [← h6, List.getElem?_take, if_pos (by omega)] at this
    exact this
  exact ⟨h1.cell (hg 0 (by omega)), h1.cell (hg 1 (by omega)), h1.frozen _, h1.frozen _⟩
end Go.Proofs.YtfohhokdcobhjaaDoor
