/- Valid strings, names and values: plain mathematics. -/
import Derived.Test.YtmmembmohkideaaMa
namespace Go.Proofs.Ytmmembmohkideaa
section
variable {α : Type}
theorem get_some {l : List α} {k : Nat} (h : k < l.length) : l[k]? = some l[k] := List.getElem?_eq_getElem h
def AllTo (p : α → Bool) (l : List α) (k : Nat) : Prop := ∀ c ∈ l.take k, p c = true
theorem AllTo_zero (p : α → Bool) (l : List α) : AllTo p l 0 := by intro c hc; simp at hc
theorem AllTo_succ {p : α → Bool} {l : List α} {k : Nat} (h : AllTo p l k) (hk : k < l.length) (hd : p l[k] = true) : AllTo p l (k + 1) := by
  intro c hc
  rw [List.take_succ_eq_append_getElem hk, List.mem_append] at hc
  rcases hc with hc | hc
  · exact h c hc
  · simp at hc; rw [hc]; exact hd
theorem all_of {p : α → Bool} {l : List α} (h : AllTo p l l.length) : l.all p = true := by
  rw [AllTo, List.take_length] at h; simpa using h
theorem all_not {p : α → Bool} {l : List α} {k : Nat} (hk : k < l.length) (hd : p l[k] = false) : l.all p = false := by
  rw [List.all_eq_false]; exact ⟨l[k], List.getElem_mem hk, by simp [hd]⟩
end
def byteOk (c : UInt8) : Bool := decide (c.toNat = 10) || (decide (32 ≤ c.toNat) && decide (c.toNat ≤ 126))
def strOk (s : Str) : Bool := decide (s.length ≤ 200) && s.all byteOk
def nmByte (c : UInt8) : Bool := (decide (97 ≤ c.toNat) && decide (c.toNat ≤ 122)) || (decide (65 ≤ c.toNat) && decide (c.toNat ≤ 90)) || (decide (48 ≤ c.toNat) && decide (c.toNat ≤ 57)) || decide (c.toNat = 45) || decide (c.toNat = 95) || decide (c.toNat = 47)
def nameOk (s : Str) : Bool := decide (1 ≤ s.length) && decide (s.length ≤ 40) && s.all nmByte
theorem strOk_len {s : Str} (h : 200 < s.length) : strOk s = false := by unfold strOk; rw [decide_eq_false (by omega)]; rfl
theorem strOk_eq {s : Str} (h : ¬ 200 < s.length) : strOk s = s.all byteOk := by unfold strOk; rw [decide_eq_true (by omega)]; rfl
theorem strOk_bad {s : Str} (h : s.all byteOk = false) : strOk s = false := by unfold strOk; rw [h]; simp
theorem nameOk_len {s : Str} (h : s.length < 1 ∨ 40 < s.length) : nameOk s = false := by
  unfold nameOk; rcases h with h | h
  · rw [decide_eq_false (by omega)]; rfl
  · rw [decide_eq_false (p := s.length ≤ 40) (by omega)]; simp
theorem nameOk_eq {s : Str} (h : ¬ s.length < 1) (h' : ¬ 40 < s.length) : nameOk s = s.all nmByte := by unfold nameOk; rw [decide_eq_true (by omega), decide_eq_true (by omega)]; rfl
theorem nameOk_bad {s : Str} (h : s.all nmByte = false) : nameOk s = false := by unfold nameOk; rw [h]; simp

/-- byte order of names: the first comes before the second -/
def nmLt (a b : Str) : Bool := decide (cmpS a b = -1)
/-- the names of the first k fields are valid and strictly increasing -/
def NmTo (f : List (Str × T)) (k : Nat) : Prop := ∀ (i : Nat) (p : Str × T), i < k → f[i]? = some p → nameOk p.1 = true ∧ ∀ q, 0 < i → f[i - 1]? = some q → cmpS q.1 p.1 = -1
theorem NmTo.zero (f : List (Str × T)) : NmTo f 0 := fun i p h => absurd h (by omega)
theorem NmTo.succ {f : List (Str × T)} {k : Nat} {p : Str × T} (h : NmTo f k) (hp : f[k]? = some p) (h1 : nameOk p.1 = true) (h2 : ∀ q, 0 < k → f[k - 1]? = some q → cmpS q.1 p.1 = -1) : NmTo f (k + 1) := by
  intro i x hi hx
  by_cases hk : i = k
  · subst hk; rw [hp] at hx; cases hx; exact ⟨h1, h2⟩
  · exact h i x (by omega) hx
theorem NmTo.no {f : List (Str × T)} {k : Nat} {p : Str × T} (hp : f[k]? = some p) (h : nameOk p.1 = false) : ¬ NmTo f f.length := fun hn => by
  have := (hn k p (List.getElem?_eq_some_iff.1 hp).1 hp).1; rw [h] at this; cases this
theorem NmTo.no_lt {f : List (Str × T)} {k : Nat} {p q : Str × T} (hp : f[k]? = some p) (hk : 0 < k) (hq : f[k - 1]? = some q) (h : ¬ cmpS q.1 p.1 = -1) : ¬ NmTo f f.length := fun hn => h ((hn k p (List.getElem?_eq_some_iff.1 hp).1 hp).2 q hk hq)

/-- a value apart from its elements and fields -/
def Sc (k n : Int) (s : Str) : Prop := (k = 1 ∧ (n = 0 ∨ n = 1) ∧ s = []) ∨ (k = 2 ∧ -1000000000000000 ≤ n ∧ n ≤ 1000000000000000 ∧ s = []) ∨ (k = 3 ∧ n = 0 ∧ strOk s = true) ∨ ((k = 0 ∨ k = 4 ∨ k = 5) ∧ n = 0 ∧ s = [])
def Uses (k n : Int) (s : Str) (ln fn : Nat) : Prop := (n = 0 ∨ k = 1 ∨ k = 2) ∧ (s = [] ∨ k = 3) ∧ (ln = 0 ∨ k = 4) ∧ (fn = 0 ∨ k = 5)
def Mem (k n : Int) (s : Str) (ln : Nat) (f : List (Str × T)) : Prop := k = 0 ∨ (k = 1 ∧ (n = 0 ∨ n = 1)) ∨ (k = 2 ∧ -1000000000000000 ≤ n ∧ n ≤ 1000000000000000) ∨ (k = 3 ∧ strOk s = true) ∨ (k = 4 ∧ ln ≤ 64) ∨ (k = 5 ∧ f.length ≤ 64 ∧ NmTo f f.length)
/-- valid, with at most d levels, apart from its size -/
def Val : Nat → T → Prop
  | 0, _ => False
  | d + 1, .mk k n s l f => Sc k n s ∧ l.length ≤ 64 ∧ f.length ≤ 64 ∧ (k = 4 ∨ l.length = 0) ∧ (k = 5 ∨ f.length = 0) ∧ NmTo f f.length ∧ (∀ t ∈ l, Val d t) ∧ ∀ p ∈ f, Val d p.2
theorem nm_empty {f : List (Str × T)} (h : f.length = 0) : NmTo f f.length := by rw [h]; exact NmTo.zero f
theorem val_eq (d : Nat) (k n : Int) (s : Str) (l : List T) (f : List (Str × T)) : Val (d + 1) (.mk k n s l f) ↔ Uses k n s l.length f.length ∧ Mem k n s l.length f ∧ (∀ t ∈ l, Val d t) ∧ ∀ p ∈ f, Val d p.2 := by
  rw [Val]
  constructor
  · rintro ⟨h1, h2, h3, h4, h5, h6, h7, h8⟩
    refine ⟨?_, ?_, h7, h8⟩
    · unfold Uses; rcases h1 with ⟨a, b, c⟩ | ⟨a, b, b', c⟩ | ⟨a, b, c⟩ | ⟨a, b, c⟩
      · exact ⟨Or.inr (Or.inl a), Or.inl c, by omega, by omega⟩
      · exact ⟨Or.inr (Or.inr a), Or.inl c, by omega, by omega⟩
      · exact ⟨Or.inl b, Or.inr a, by omega, by omega⟩
      · exact ⟨Or.inl b, Or.inl c, by omega, by omega⟩
    · unfold Mem; rcases h1 with ⟨a, b, c⟩ | ⟨a, b, b', c⟩ | ⟨a, b, c⟩ | ⟨a | a | a, b, c⟩
      · exact Or.inr (Or.inl ⟨a, b⟩)
      · exact Or.inr (Or.inr (Or.inl ⟨a, b, b'⟩))
      · exact Or.inr (Or.inr (Or.inr (Or.inl ⟨a, c⟩)))
      · exact Or.inl a
      · exact Or.inr (Or.inr (Or.inr (Or.inr (Or.inl ⟨a, h2⟩))))
      · exact Or.inr (Or.inr (Or.inr (Or.inr (Or.inr ⟨a, h3, h6⟩))))
  · rintro ⟨⟨u1, u2, u3, u4⟩, hm, h7, h8⟩
    have hs : ¬ k = 3 → s = [] := fun h => by rcases u2 with h' | h'; exact h'; exact absurd h' h
    rcases hm with a | ⟨a, b⟩ | ⟨a, b, b'⟩ | ⟨a, b⟩ | ⟨a, b⟩ | ⟨a, b, b'⟩
    · exact ⟨Or.inr (Or.inr (Or.inr ⟨Or.inl a, by omega, hs (by omega)⟩)), by omega, by omega, by omega, by omega, nm_empty (by omega), h7, h8⟩
    · exact ⟨Or.inl ⟨a, b, hs (by omega)⟩, by omega, by omega, by omega, by omega, nm_empty (by omega), h7, h8⟩
    · exact ⟨Or.inr (Or.inl ⟨a, b, b', hs (by omega)⟩), by omega, by omega, by omega, by omega, nm_empty (by omega), h7, h8⟩
    · exact ⟨Or.inr (Or.inr (Or.inl ⟨a, by omega, b⟩)), by omega, by omega, by omega, by omega, nm_empty (by omega), h7, h8⟩
    · exact ⟨Or.inr (Or.inr (Or.inr ⟨Or.inr (Or.inl a), by omega, hs (by omega)⟩)), by omega, by omega, by omega, by omega, nm_empty (by omega), h7, h8⟩
    · exact ⟨Or.inr (Or.inr (Or.inr ⟨Or.inr (Or.inr a), by omega, hs (by omega)⟩)), by omega, by omega, by omega, by omega, b', h7, h8⟩
end Go.Proofs.Ytmmembmohkideaa
