/- Stable merging and sorting of lists: plain mathematics. -/
set_option linter.unusedSimpArgs false
set_option linter.unusedVariables false
namespace Go.Proofs.Ytinenbgdkchghaa

/-- a strict order up to ties; what is less has another key -/
structure Weak {α κ : Type} (lt : α → α → Bool) (key : α → κ) : Prop where
  asym : ∀ x y, lt x y = true → lt y x = false
  neg : ∀ x y z, lt x y = false → lt y z = false → lt x z = false
  keys : ∀ x y, lt x y = true → key x ≠ key y

def Srt {α : Type} (lt : α → α → Bool) (l : List α) : Prop := l.Pairwise (fun x y => lt y x = false)
def Same {α κ : Type} [DecidableEq κ] (key : α → κ) (l l' : List α) : Prop := ∀ k, l.filter (fun x => decide (key x = k)) = l'.filter (fun x => decide (key x = k))

section
variable {α κ : Type} [DecidableEq κ] {lt : α → α → Bool} {key : α → κ}

omit [DecidableEq κ] in
theorem Weak.irr (W : Weak lt key) (x : α) : lt x x = false := by
  cases h : lt x x with
  | false => rfl
  | true => have := W.asym x x h; rw [h] at this; exact this
theorem Same.refl (l : List α) : Same key l l := fun _ => rfl
theorem Same.symm {l l' : List α} (h : Same key l l') : Same key l' l := fun k => (h k).symm
theorem Same.trans {a b c : List α} (h : Same key a b) (h' : Same key b c) : Same key a c := fun k => (h k).trans (h' k)
theorem Same.append {a b c d : List α} (h : Same key a b) (h' : Same key c d) : Same key (a ++ c) (b ++ d) := fun k => by
  rw [List.filter_append, List.filter_append, h k, h' k]
theorem Same.mem {l l' : List α} (h : Same key l l') {x : α} (hx : x ∈ l') : x ∈ l := by
  have : x ∈ l'.filter (fun y => decide (key y = key x)) := List.mem_filter.2 ⟨hx, by simp⟩
  rw [← h (key x)] at this
  exact (List.mem_filter.1 this).1
theorem Same.swap {A B : List α} (h : ∀ x ∈ A, ∀ y ∈ B, key x ≠ key y) : Same key (A ++ B) (B ++ A) := fun k => by
  rw [List.filter_append, List.filter_append]
  by_cases hk : ∃ x ∈ A, key x = k
  · obtain ⟨x, hx, rfl⟩ := hk
    have : B.filter (fun y => decide (key y = key x)) = [] := by
      rw [List.filter_eq_nil_iff]; intro y hy; simp; exact fun e => h x hx y hy e.symm
    rw [this]; simp
  · have : A.filter (fun y => decide (key y = k)) = [] := by
      rw [List.filter_eq_nil_iff]; intro y hy; simp; exact fun e => hk ⟨y, hy, e⟩
    rw [this]; simp
omit [DecidableEq κ] in
theorem Srt.get (W : Weak lt key) {l : List α} (h : Srt lt l) {i j : Nat} {x y : α} (hij : i ≤ j) (hx : l[i]? = some x) (hy : l[j]? = some y) : lt y x = false := by
  obtain ⟨h1, rfl⟩ := List.getElem?_eq_some_iff.1 hx
  obtain ⟨h2, rfl⟩ := List.getElem?_eq_some_iff.1 hy
  rcases Nat.lt_or_eq_of_le hij with h' | rfl
  · exact List.pairwise_iff_getElem.1 h i j h1 h2 h'
  · exact W.irr _
theorem mem_take_get {l : List α} {s : Nat} {x : α} (h : x ∈ l.take s) : ∃ i, i < s ∧ l[i]? = some x := by
  obtain ⟨i, hi, rfl⟩ := List.mem_iff_getElem.1 h
  have hi' : i < s ∧ i < l.length := by simp at hi; omega
  exact ⟨i, hi'.1, by rw [List.getElem_take]; exact List.getElem?_eq_getElem hi'.2⟩
theorem mem_drop_get {l : List α} {s : Nat} {x : α} (h : x ∈ l.drop s) : ∃ i, s ≤ i ∧ l[i]? = some x := by
  obtain ⟨i, hi, rfl⟩ := List.mem_iff_getElem.1 h
  simp at hi
  exact ⟨s + i, by omega, by rw [List.getElem_drop]; exact List.getElem?_eq_getElem (by omega)⟩
omit [DecidableEq κ] in
theorem lo_all (W : Weak lt key) {A B : List α} {s t : Nat} (hA : Srt lt A) (hB : Srt lt B)
    (h : s = 0 ∨ B.length ≤ t ∨ ∃ u v, A[s - 1]? = some u ∧ B[t]? = some v ∧ lt v u = false) : ∀ x ∈ A.take s, ∀ y ∈ B.drop t, lt y x = false := by
  intro x hx y hy
  obtain ⟨i, hi, gx⟩ := mem_take_get hx
  obtain ⟨j, hj, gy⟩ := mem_drop_get hy
  have hjl := (List.getElem?_eq_some_iff.1 gy).1
  rcases h with h | h | ⟨u, v, hu, hv, huv⟩
  · omega
  · omega
  · have h1 := hA.get W (show i ≤ s - 1 by omega) gx hu
    have h2 := hB.get W hj hv gy
    exact W.neg y v x h2 (W.neg v u x huv h1)
omit [DecidableEq κ] in
theorem up_all (W : Weak lt key) {A B : List α} {s t : Nat} (hA : Srt lt A) (hB : Srt lt B)
    (h : A.length ≤ s ∨ t = 0 ∨ ∃ u v, A[s]? = some u ∧ B[t - 1]? = some v ∧ lt v u = true) : ∀ y ∈ B.take t, ∀ x ∈ A.drop s, lt y x = true := by
  intro y hy x hx
  obtain ⟨i, hi, gx⟩ := mem_drop_get hx
  obtain ⟨j, hj, gy⟩ := mem_take_get hy
  have hil := (List.getElem?_eq_some_iff.1 gx).1
  rcases h with h | h | ⟨u, v, hu, hv, huv⟩
  · omega
  · omega
  · have h1 := hA.get W hi hu gx
    have h2 := hB.get W (show j ≤ t - 1 by omega) gy hv
    cases hc : lt y x with
    | true => rfl
    | false => have := W.neg v x u (W.neg v y x h2 hc) h1; rw [huv] at this; exact this.symm
theorem merge_step (W : Weak lt key) {A1 A2 B1 B2 R1 R2 : List α} (hA : Srt lt (A1 ++ A2)) (hB : Srt lt (B1 ++ B2))
    (h1 : ∀ x ∈ A1, ∀ y ∈ B2, lt y x = false) (h2 : ∀ y ∈ B1, ∀ x ∈ A2, lt y x = true)
    (s1 : Srt lt R1) (s2 : Srt lt R2) (e1 : Same key (A1 ++ B1) R1) (e2 : Same key (A2 ++ B2) R2) : Srt lt (R1 ++ R2) ∧ Same key (A1 ++ A2 ++ (B1 ++ B2)) (R1 ++ R2) := by
  constructor
  · refine List.pairwise_append.2 ⟨s1, s2, fun x hx y hy => ?_⟩
    have hx' := e1.mem hx
    have hy' := e2.mem hy
    rw [List.mem_append] at hx' hy'
    rcases hx' with hx' | hx' <;> rcases hy' with hy' | hy'
    · exact (List.pairwise_append.1 hA).2.2 x hx' y hy'
    · exact h1 x hx' y hy'
    · exact W.asym _ _ (h2 x hx' y hy')
    · exact (List.pairwise_append.1 hB).2.2 x hx' y hy'
  · have hs : Same key (A2 ++ B1) (B1 ++ A2) := Same.swap (fun x hx y hy e => W.keys y x (h2 y hy x hx) e.symm)
    have h3 : Same key (A1 ++ ((A2 ++ B1) ++ B2)) (A1 ++ ((B1 ++ A2) ++ B2)) := (Same.refl A1).append (hs.append (Same.refl B2))
    have h4 := e1.append e2
    have e : A1 ++ A2 ++ (B1 ++ B2) = A1 ++ ((A2 ++ B1) ++ B2) := by simp
    have e' : A1 ++ B1 ++ (A2 ++ B2) = A1 ++ ((B1 ++ A2) ++ B2) := by simp
    rw [e]; rw [e'] at h4
    exact h3.trans h4
theorem Srt.take {l : List α} (h : Srt lt l) (k : Nat) : Srt lt (l.take k) := List.Pairwise.sublist (List.take_sublist k l) h
theorem Srt.drop {l : List α} (h : Srt lt l) (k : Nat) : Srt lt (l.drop k) := List.Pairwise.sublist (List.drop_sublist k l) h
/-- one merge out of its two halves -/
theorem merge_halves (W : Weak lt key) {A B R1 R2 : List α} {s t : Nat} (hA : Srt lt A) (hB : Srt lt B)
    (h1 : s = 0 ∨ B.length ≤ t ∨ ∃ u v, A[s - 1]? = some u ∧ B[t]? = some v ∧ lt v u = false)
    (h2 : A.length ≤ s ∨ t = 0 ∨ ∃ u v, A[s]? = some u ∧ B[t - 1]? = some v ∧ lt v u = true)
    (s1 : Srt lt R1) (s2 : Srt lt R2) (e1 : Same key (A.take s ++ B.take t) R1) (e2 : Same key (A.drop s ++ B.drop t) R2) : Srt lt (R1 ++ R2) ∧ Same key (A ++ B) (R1 ++ R2) := by
  have := merge_step W (by rw [List.take_append_drop]; exact hA) (by rw [List.take_append_drop]; exact hB) (lo_all W hA hB h1) (up_all W hA hB h2) s1 s2 e1 e2
  rwa [List.take_append_drop, List.take_append_drop] at this
/-- one element into what lies behind it -/
theorem merge_first (W : Weak lt key) {B : List α} {x : α} {t : Nat} (hB : Srt lt B)
    (h1 : B.length ≤ t ∨ ∃ v, B[t]? = some v ∧ lt v x = false) (h2 : t = 0 ∨ ∃ v, B[t - 1]? = some v ∧ lt v x = true) : Srt lt (B.take t ++ x :: B.drop t) ∧ Same key (x :: B) (B.take t ++ x :: B.drop t) := by
  have hA : Srt lt [x] := List.pairwise_singleton _ _
  have hx := lo_all W (s := 1) hA hB (t := t) (by
    rcases h1 with h1 | ⟨v, hv, hl⟩
    · exact Or.inr (Or.inl h1)
    · exact Or.inr (Or.inr ⟨x, v, rfl, hv, hl⟩))
  have := merge_halves W (s := 0) (t := t) (R1 := B.take t) (R2 := x :: B.drop t) hA hB (Or.inl rfl) (by
    rcases h2 with h2 | ⟨v, hv, hl⟩
    · exact Or.inr (Or.inl h2)
    · exact Or.inr (Or.inr ⟨x, v, rfl, hv, hl⟩)) (hB.take t) (List.pairwise_cons.2 ⟨fun y hy => hx x (by simp) y hy, hB.drop t⟩) (Same.refl _) (Same.refl _)
  exact this
/-- one element into what lies before it -/
theorem merge_last (W : Weak lt key) {A : List α} {y : α} {s : Nat} (hA : Srt lt A)
    (h1 : s = 0 ∨ ∃ u, A[s - 1]? = some u ∧ lt y u = false) (h2 : A.length ≤ s ∨ ∃ u, A[s]? = some u ∧ lt y u = true) : Srt lt (A.take s ++ y :: A.drop s) ∧ Same key (A ++ [y]) (A.take s ++ y :: A.drop s) := by
  have hB : Srt lt [y] := List.pairwise_singleton _ _
  have hy := lo_all W (A := A) (B := [y]) (s := s) (t := 0) hA hB (by
    rcases h1 with h1 | ⟨u, hu, hl⟩
    · exact Or.inl h1
    · exact Or.inr (Or.inr ⟨u, y, hu, rfl, hl⟩))
  have := merge_halves W (s := s) (t := 1) (R1 := A.take s ++ [y]) (R2 := A.drop s) hA hB (Or.inr (Or.inl (Nat.le_refl _))) (by
    rcases h2 with h2 | ⟨u, hu, hl⟩
    · exact Or.inl h2
    · exact Or.inr (Or.inr ⟨u, y, hu, rfl, hl⟩)) (List.pairwise_append.2 ⟨hA.take s, hB, fun x hx z hz => hy x hx z hz⟩) (hA.drop s) (Same.refl _) (by simpa using Same.refl _)
  simpa using this
theorem Same.length [DecidableEq α] {l l' : List α} (h : Same key l l') : l.length = l'.length := by
  have hc : ∀ x, l.count x = l'.count x := fun x => by
    have e : ∀ m : List α, m.count x = (m.filter (fun y => decide (key y = key x))).count x := fun m => by
      rw [List.count_filter (by simp)]
    rw [e l, e l', h]
  exact (List.perm_iff_count.2 hc).length_eq
end

/- places in lists -/
theorem get_mid {α : Type} (P : List α) (x : α) (R : List α) {k : Nat} (h : k = P.length) : (P ++ x :: R)[k]? = some x := by subst h; simp
theorem set_mid {α : Type} (P : List α) (x y : α) (R : List α) {k : Nat} (h : k = P.length) : (P ++ x :: R).set k y = P ++ y :: R := by subst h; simp
theorem swap_two {α : Type} (P M R : List α) (x y : α) {p q : Nat} (hp : p = P.length) (hq : q = P.length + 1 + M.length) :
    ((P ++ x :: (M ++ y :: R)).set p y).set q x = P ++ y :: (M ++ x :: R) := by
  rw [set_mid P x y _ hp, show P ++ y :: (M ++ y :: R) = (P ++ y :: M) ++ y :: R by simp, set_mid (P ++ y :: M) y x R (by simp; omega)]
  simp
theorem swap_two' {α : Type} (P M R : List α) (x y : α) {p q : Nat} (hp : p = P.length) (hq : q = P.length + 1 + M.length) :
    ((P ++ x :: (M ++ y :: R)).set q x).set p y = P ++ y :: (M ++ x :: R) := by
  rw [show P ++ x :: (M ++ y :: R) = (P ++ x :: M) ++ y :: R by simp, set_mid (P ++ x :: M) y x R (by simp; omega), show (P ++ x :: M) ++ x :: R = P ++ x :: (M ++ x :: R) by simp, set_mid P x y _ hp]
theorem get_two {α : Type} (P M R : List α) (x y : α) {q : Nat} (hq : q = P.length + 1 + M.length) : (P ++ x :: (M ++ y :: R))[q]? = some y := by
  rw [show P ++ x :: (M ++ y :: R) = (P ++ x :: M) ++ y :: R by simp]
  exact get_mid _ _ _ (by simp; omega)
/- runs -/
inductive Runs {α : Type} (lt : α → α → Bool) (n : Nat) : List α → Prop
  | last {l : List α} (h : l.length ≤ n) (hs : Srt lt l) : Runs lt n l
  | cons {x l : List α} (h : x.length = n) (hs : Srt lt x) (hr : Runs lt n l) : Runs lt n (x ++ l)
inductive RunsE {α : Type} (lt : α → α → Bool) (n : Nat) : List α → Prop
  | nil : RunsE lt n []
  | snoc {d x : List α} (hr : RunsE lt n d) (h : x.length = n) (hs : Srt lt x) : RunsE lt n (d ++ x)
theorem srt_nil {α : Type} (lt : α → α → Bool) : Srt lt [] := List.Pairwise.nil
theorem RunsE.runs {α : Type} {lt : α → α → Bool} {n : Nat} {d : List α} (h : RunsE lt n d) : ∀ {e : List α}, Runs lt n e → Runs lt n (d ++ e) := by
  induction h with
  | nil => intro e he; exact he
  | snoc hr h hs ih => intro e he; rw [List.append_assoc]; exact ih (.cons h hs he)
theorem Runs.one {α : Type} {lt : α → α → Bool} {n : Nat} {l : List α} (h : Runs lt n l) (hl : l.length ≤ n) : Srt lt l := by
  cases h with
  | last h hs => exact hs
  | cons h hs hr =>
    rename_i x l'
    rw [List.length_append] at hl
    have : l' = [] := List.eq_nil_of_length_eq_zero (by omega)
    subst this; simpa using hs
theorem Runs.front {α : Type} {lt : α → α → Bool} {n : Nat} {l : List α} (h : Runs lt n l) (hl : n ≤ l.length) : ∃ x r, l = x ++ r ∧ x.length = n ∧ Srt lt x ∧ Runs lt n r := by
  cases h with
  | last h hs => exact ⟨l, [], by simp, by omega, hs, .last (Nat.zero_le _) (srt_nil _)⟩
  | cons h hs hr => exact ⟨_, _, rfl, h, hs, hr⟩
theorem Runs.two {α : Type} {lt : α → α → Bool} {n : Nat} {l : List α} (h : Runs lt n l) (hl : 2 * n ≤ l.length) : ∃ x y r, l = x ++ (y ++ r) ∧ x.length = n ∧ y.length = n ∧ Srt lt x ∧ Srt lt y ∧ Runs lt n r := by
  obtain ⟨x, r, rfl, h1, h2, h3⟩ := h.front (by omega)
  rw [List.length_append] at hl
  obtain ⟨y, r, rfl, g1, g2, g3⟩ := h3.front (by omega)
  exact ⟨x, y, r, rfl, h1, g1, h2, g2, g3⟩
theorem Runs.rest {α : Type} {lt : α → α → Bool} {n : Nat} {l : List α} (h : Runs lt n l) (hl : n ≤ l.length) (hl2 : l.length < 2 * n) : ∃ x y, l = x ++ y ∧ x.length = n ∧ Srt lt x ∧ Srt lt y := by
  obtain ⟨x, r, rfl, h1, h2, h3⟩ := h.front hl
  rw [List.length_append] at hl2
  exact ⟨x, r, rfl, h1, h2, h3.one (by omega)⟩
end Go.Proofs.Ytinenbgdkchghaa
