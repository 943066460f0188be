/- Chains: every element passes, and each one stands behind the one before it. -/
import Derived.Test.YtfohhokdcobhjaaDoorMa
namespace Go.Proofs.YtfohhokdcobhjaaDoor
variable {α : Type}

theorem get_some {l : List α} {k : Nat} (h : k < l.length) : l[k]? = some l[k] := List.getElem?_eq_getElem h

def chain (p : α → Bool) (lt : α → α → Bool) : List α → Bool
  | [] => true
  | [a] => p a
  | a :: b :: t => p a && lt a b && chain p lt (b :: t)

def ChTo (p : α → Bool) (lt : α → α → Bool) (l : List α) (k : Nat) : Prop :=
  ∀ (i : Nat) (a : α), i < k → l[i]? = some a → p a = true ∧ ∀ b, 0 < i → l[i - 1]? = some b → lt b a = true

variable {p : α → Bool} {lt : α → α → Bool}
theorem ChTo.zero (l : List α) : ChTo p lt l 0 := fun i a h => absurd h (by omega)
theorem ChTo.succ {l : List α} {k : Nat} {a : α} (h : ChTo p lt l k) (ha : l[k]? = some a) (hp : p a = true) (hlt : ∀ b, 0 < k → l[k - 1]? = some b → lt b a = true) : ChTo p lt l (k + 1) := by
  intro i x hi hx
  by_cases hk : i = k
  · subst hk; rw [ha] at hx; cases hx; exact ⟨hp, hlt⟩
  · exact h i x (by omega) hx
theorem chain_of {l : List α} (h : ChTo p lt l l.length) : chain p lt l = true := by
  induction l with
  | nil => rfl
  | cons a t ih =>
    have h0 := h 0 a (by simp) rfl
    cases t with
    | nil => exact h0.1
    | cons b t =>
      have h1 := (h 1 b (by simp) rfl).2 a (by omega) rfl
      have ht : chain p lt (b :: t) = true := ih (fun i x hi hx => ⟨(h (i + 1) x (by simpa using hi) (by simpa using hx)).1, fun y hy hyx => (h (i + 1) x (by simpa using hi) (by simpa using hx)).2 y (by omega) (by
        obtain ⟨j, rfl⟩ : ∃ j, i = j + 1 := ⟨i - 1, by omega⟩
        simpa using hyx)⟩)
      simp [chain, h0.1, h1, ht]
theorem chain_to {l : List α} (h : chain p lt l = true) : ChTo p lt l l.length := by
  induction l with
  | nil => exact ChTo.zero _
  | cons a t ih =>
    cases t with
    | nil =>
      intro i x hi hx
      obtain rfl : i = 0 := by simp at hi; omega
      simp at hx; subst hx
      exact ⟨h, fun b hb => absurd hb (by omega)⟩
    | cons b t =>
      simp [chain] at h
      have := ih h.2
      intro i x hi hx
      cases i with
      | zero => simp at hx; subst hx; exact ⟨h.1.1, fun b hb => absurd hb (by omega)⟩
      | succ i =>
        have hx' : (b :: t)[i]? = some x := by simpa using hx
        refine ⟨(this i x (by simpa using hi) hx').1, fun y _ hy => ?_⟩
        cases i with
        | zero => simp at hx' hy; subst hx' hy; exact h.1.2
        | succ i => exact (this (i + 1) x (by simpa using hi) hx').2 y (by omega) (by simpa using hy)
theorem chain_bad {l : List α} {k : Nat} {a : α} (ha : l[k]? = some a) (hp : p a = false) : chain p lt l = false := by
  cases h : chain p lt l with
  | false => rfl
  | true =>
    have := (chain_to h k a (List.getElem?_eq_some_iff.1 ha).1 ha).1
    rw [hp] at this; cases this
theorem chain_bad_lt {l : List α} {k : Nat} {a b : α} (ha : l[k]? = some a) (hk : 0 < k) (hb : l[k - 1]? = some b) (hlt : lt b a = false) : chain p lt l = false := by
  cases h : chain p lt l with
  | false => rfl
  | true =>
    have := (chain_to h k a (List.getElem?_eq_some_iff.1 ha).1 ha).2 b hk hb
    rw [hlt] at this; cases this
theorem ChTo.at_zero {l : List α} {k : Nat} (hk : ¬ 0 < k) {a : α} : ∀ b, 0 < k → l[k - 1]? = some b → lt b a = true := fun b h => absurd h hk
theorem ChTo.at_pos {l : List α} {k : Nat} {a b : α} (hb : l[k - 1]? = some b) (h : lt b a = true) : ∀ b', 0 < k → l[k - 1]? = some b' → lt b' a = true := by
  intro b' _ h'; rw [hb] at h'; cases h'; exact h

/-- the first k elements pass -/
def PreA (p : α → Bool) (l : List α) (k : Nat) : Prop := ∀ (i : Nat) (a : α), i < k → l[i]? = some a → p a = true
theorem PreA.zero (l : List α) : PreA p l 0 := fun _ _ h => absurd h (by omega)
theorem PreA.succ {l : List α} {k : Nat} {a : α} (h : PreA p l k) (ha : l[k]? = some a) (hp : p a = true) : PreA p l (k + 1) := by
  intro i x hi hx
  by_cases hk : i = k
  · subst hk; rw [ha] at hx; cases hx; exact hp
  · exact h i x (by omega) hx
theorem PreA.all {l : List α} (h : PreA p l l.length) : l.all p = true := by
  rw [List.all_eq_true]; intro x hx
  obtain ⟨i, hi, rfl⟩ := List.getElem_of_mem hx
  exact h i _ hi (get_some hi)
theorem all_bad {l : List α} {k : Nat} {a : α} (ha : l[k]? = some a) (hp : p a = false) : l.all p = false := by
  rw [List.all_eq_false]; exact ⟨a, List.mem_of_getElem? ha, by simp [hp]⟩
end Go.Proofs.YtfohhokdcobhjaaDoor
