/- Sorted without duplicates: two ways to get there. -/
import Derived.Test.YtfohhokdcobhjaaDoorMe
import Derived.Sort.Walk0
import Derived.Lib.SlicesCompact
namespace Go.Proofs.YtfohhokdcobhjaaDoor

theorem sLt_eq (x y : Str) : sLt x y = decide (x < y) := Proofs.bytesLess_eq x y
/-- strictly increasing -/
def SS : List Str → Prop
  | [] => True
  | [_] => True
  | a :: b :: t => a < b ∧ SS (b :: t)
theorem lt_irr (x : Str) : ¬ x < x := List.lt_irrefl x
theorem lt_tr {x y z : Str} (h : x < y) (k : y < z) : x < z := List.lt_trans h k
theorem SS.tail {a : Str} {t : List Str} (h : SS (a :: t)) : SS t := by cases t with | nil => trivial | cons b t => exact h.2
theorem SS.head {a : Str} {t : List Str} (h : SS (a :: t)) : ∀ x ∈ t, a < x := by
  induction t generalizing a with
  | nil => intro x hx; cases hx
  | cons b t ih =>
    intro x hx
    rcases List.mem_cons.1 hx with rfl | hx
    · exact h.1
    · exact lt_tr h.1 (ih h.2 x hx)
theorem SS.cons {a : Str} {t : List Str} (h : SS t) (hx : ∀ x ∈ t, a < x) : SS (a :: t) := by
  cases t with
  | nil => trivial
  | cons b t => exact ⟨hx b (by simp), h⟩
/-- two strictly increasing lists with the same members are the same -/
theorem SS.ext {a b : List Str} (ha : SS a) (hb : SS b) (h : ∀ x, x ∈ a ↔ x ∈ b) : a = b := by
  induction a generalizing b with
  | nil =>
    cases b with
    | nil => rfl
    | cons y b => exact absurd ((h y).2 (by simp)) (by simp)
  | cons x a ih =>
    cases b with
    | nil => exact absurd ((h x).1 (by simp)) (by simp)
    | cons y b =>
      have hxy : x = y := by
        rcases List.mem_cons.1 ((h x).1 (by simp)) with h1 | h1
        · exact h1
        · rcases List.mem_cons.1 ((h y).2 (by simp)) with h2 | h2
          · exact h2.symm
          · exact absurd (lt_tr (ha.head y h2) (hb.head x h1)) (lt_irr x)
      subst hxy
      rw [ih ha.tail hb.tail (fun z => ⟨fun hz => by
        rcases List.mem_cons.1 ((h z).1 (by simp [hz])) with h1 | h1
        · subst h1; exact absurd (ha.head z hz) (lt_irr z)
        · exact h1, fun hz => by
        rcases List.mem_cons.1 ((h z).2 (by simp [hz])) with h1 | h1
        · subst h1; exact absurd (hb.head z hz) (lt_irr z)
        · exact h1⟩)]
theorem putS_mem (l : List Str) (s x : Str) : x ∈ putS l s ↔ x ∈ l ∨ x = s := by
  induction l with
  | nil => simp [putS]
  | cons a l ih =>
    unfold putS
    split
    · rw [List.mem_cons, List.mem_cons, ih, or_assoc]
    · split
      · rename_i h
        subst h
        exact ⟨Or.inl, fun h => h.elim id (fun h => by rw [h]; exact List.mem_cons_self)⟩
      · rw [List.mem_cons (a := x) (b := s)]; exact or_comm
theorem putS_SS {l : List Str} (h : SS l) (s : Str) : SS (putS l s) := by
  induction l with
  | nil => trivial
  | cons a l ih =>
    unfold putS
    split
    · rename_i hlt
      rw [sLt_eq, decide_eq_true_eq] at hlt
      refine SS.cons (ih h.tail) (fun x hx => ?_)
      rcases (putS_mem l s x).1 hx with h1 | h1
      · exact h.head x h1
      · rw [h1]; exact hlt
    · rename_i hlt
      rw [sLt_eq, decide_eq_true_eq] at hlt
      split
      · exact h
      · rename_i hne
        have hsa : s < a := by
          rcases Std.le_total (a := a) (b := s) with h1 | h1
          · exact absurd (Std.lt_of_le_of_ne h1 hne) hlt
          · exact Std.lt_of_le_of_ne h1 (Ne.symm hne)
        exact SS.cons h (fun x hx => by
          rcases List.mem_cons.1 hx with rfl | h1
          · exact hsa
          · exact lt_tr hsa (h.head x h1))
theorem foldl_putS (l : List Str) : ∀ acc, SS acc → SS (l.foldl putS acc) ∧ ∀ x, x ∈ l.foldl putS acc ↔ x ∈ acc ∨ x ∈ l := by
  induction l with
  | nil => intro acc h; exact ⟨h, fun x => by simp⟩
  | cons a l ih =>
    intro acc h
    have := ih (putS acc a) (putS_SS h a)
    refine ⟨this.1, fun x => ?_⟩
    rw [List.foldl_cons, this.2 x, putS_mem]; simp [or_assoc]
theorem norm_SS (l : List Str) : SS (norm l) := (foldl_putS l [] trivial).1
theorem norm_mem (l : List Str) (x : Str) : x ∈ norm l ↔ x ∈ l := by unfold norm; rw [(foldl_putS l [] trivial).2 x]; simp
theorem SS.snoc {l : List Str} {y : Str} (h : SS l) (hx : ∀ x ∈ l, x < y) : SS (l ++ [y]) := by
  induction l with
  | nil => trivial
  | cons a l ih =>
    refine SS.cons (ih h.tail (fun x hx' => hx x (by simp [hx']))) (fun x hx' => ?_)
    rcases List.mem_append.1 hx' with h1 | h1
    · exact h.head x h1
    · simp at h1; rw [h1]; exact hx a (by simp)
theorem le_lt {x y z : Str} (h : x ≤ y) (k : y < z) : x < z := Std.lt_of_le_of_lt h k
theorem lt_of_le_ne {x y : Str} (h : x ≤ y) (k : x ≠ y) : x < y := Std.lt_of_le_of_ne h k
theorem get_bang (ts : List Str) {j : Nat} (h : j < ts.length) : ts.toArray[j]! = ts[j] := by simp [h]
theorem compactUpTo_ok (ts : List Str) (hs : ∀ (i j : Nat) (hi : i < j) (hj : j < ts.length), ts[i]'(by omega) ≤ ts[j]) : ∀ m, m ≤ ts.length →
    SS (Lib.compactUpTo ts.toArray m) ∧ (∀ x, x ∈ Lib.compactUpTo ts.toArray m ↔ ∃ j, ∃ h : j < ts.length, j < m ∧ ts[j] = x) := by
  intro m
  induction m with
  | zero => intro _; refine ⟨by simp [Lib.compactUpTo, SS], fun x => by simp [Lib.compactUpTo]⟩
  | succ m ih =>
    intro hm
    obtain ⟨h1, h2⟩ := ih (by omega)
    rw [Lib.compactUpTo_succ]
    by_cases hk : Lib.keeps ts.toArray m = true
    · rw [if_pos hk, get_bang ts (by omega)]
      unfold Lib.keeps at hk
      rw [decide_eq_true_eq] at hk
      refine ⟨h1.snoc (fun x hx => ?_), fun x => ?_⟩
      · obtain ⟨j, hj, hjm, rfl⟩ := (h2 x).1 hx
        rcases hk with hk | hk
        · omega
        · rw [get_bang ts (by omega), get_bang ts (by omega)] at hk
          have hlast : ts[m - 1]'(by omega) < ts[m]'(by omega) := lt_of_le_ne (hs (m - 1) m (by omega) (by omega)) (Ne.symm hk)
          by_cases he : j = m - 1
          · subst he; exact hlast
          · exact le_lt (hs j (m - 1) (by omega) (by omega)) hlast
      · rw [List.mem_append, h2 x, List.mem_singleton]
        constructor
        · rintro (⟨j, hj, hjm, rfl⟩ | rfl)
          · exact ⟨j, hj, by omega, rfl⟩
          · exact ⟨m, by omega, by omega, rfl⟩
        · rintro ⟨j, hj, hjm, rfl⟩
          by_cases he : j = m
          · subst he; exact Or.inr rfl
          · exact Or.inl ⟨j, hj, by omega, rfl⟩
    · rw [if_neg hk, List.append_nil]
      unfold Lib.keeps at hk
      rw [decide_eq_true_eq, _root_.not_or, Classical.not_not] at hk
      obtain ⟨hm0, hk⟩ := hk
      rw [get_bang ts (by omega), get_bang ts (by omega)] at hk
      refine ⟨h1, fun x => ?_⟩
      rw [h2 x]
      constructor
      · rintro ⟨j, hj, hjm, rfl⟩; exact ⟨j, hj, by omega, rfl⟩
      · rintro ⟨j, hj, hjm, rfl⟩
        by_cases he : j = m
        · subst he; exact ⟨j - 1, by omega, by omega, hk.symm⟩
        · exact ⟨j, hj, by omega, rfl⟩
theorem compact_sort (l : List Str) : Lib.compact (l.mergeSort fun x y => decide (x ≤ y)) = norm l := by
  have hp : List.Pairwise (fun a b => decide (a ≤ b) = true) (l.mergeSort fun x y => decide (x ≤ y)) :=
    List.pairwise_mergeSort (fun a b c h1 h2 => by rw [decide_eq_true_eq] at *; exact Std.le_trans h1 h2) (fun a b => by
      rcases Std.le_total (a := a) (b := b) with h | h
      · simp [h]
      · simp [h]) l
  have hm : ∀ x, x ∈ (l.mergeSort fun x y => decide (x ≤ y)) ↔ x ∈ l := fun x => List.mem_mergeSort
  generalize (l.mergeSort fun x y => decide (x ≤ y)) = ts at *
  have hs : ∀ (i j : Nat) (hi : i < j) (hj : j < ts.length), ts[i]'(by omega) ≤ ts[j] := fun i j hi hj => by
    have := List.pairwise_iff_getElem.1 hp i j (by omega) hj hi
    simpa using this
  obtain ⟨h1, h2⟩ := compactUpTo_ok ts hs ts.length (Nat.le_refl _)
  refine SS.ext h1 (norm_SS l) (fun x => ?_)
  rw [norm_mem, ← hm x]
  show x ∈ Lib.compactUpTo ts.toArray ts.length ↔ _
  rw [h2 x]
  constructor
  · rintro ⟨j, hj, -, rfl⟩; exact List.getElem_mem hj
  · intro hx
    obtain ⟨j, hj, rfl⟩ := List.getElem_of_mem hx
    exact ⟨j, hj, hj, rfl⟩
theorem norm_len (l : List Str) : (norm l).length ≤ l.length := by
  have : ∀ (l : List Str) (acc : List Str), (l.foldl putS acc).length ≤ acc.length + l.length := by
    intro l
    induction l with
    | nil => intro acc; simp
    | cons a l ih =>
      intro acc
      have h2 : ∀ (acc : List Str) (a : Str), (putS acc a).length ≤ acc.length + 1 := by
        intro acc a
        induction acc with
        | nil => simp [putS]
        | cons b acc ih2 => 
          unfold putS
          split
          · simp only [List.length_cons]; omega
          · split <;> simp only [List.length_cons] <;> omega
      have h1 := ih (putS acc a)
      have h3 := h2 acc a
      rw [List.foldl_cons, List.length_cons]; omega
  simpa [norm] using this l []
end Go.Proofs.YtfohhokdcobhjaaDoor
