/- Joined texts and the text of a selector: plain mathematics. -/
import Derived.Test.YtfohhokdcobhjaaDoorWl
namespace Go.Proofs.YtfohhokdcobhjaaDoor
open Go.RowKit

def jn (sep : Str) : List Str → Str
  | [] => []
  | x :: t => x ++ t.flatMap (sep ++ ·)
theorem jn_one (sep x : Str) : jn sep [x] = x := by simp [jn]
theorem jn_snoc (sep : Str) {l : List Str} (h : l ≠ []) (x : Str) : jn sep (l ++ [x]) = jn sep l ++ sep ++ x := by
  cases l with
  | nil => exact absurd rfl h
  | cons a t => simp [jn]
theorem jn_cons (sep a b : Str) (t : List Str) : jn sep (a :: b :: t) = a ++ sep ++ jn sep (b :: t) := by simp [jn]
theorem join_eq (xs : List Str) (sep : Str) : Lib.join xs sep = jn sep xs := by
  induction xs with
  | nil => rfl
  | cons a t ih =>
    cases t with
    | nil => rw [jn_one, Lib.join_one]
    | cons b t =>
      rw [jn_cons, ← ih]
      unfold Lib.join List.intercalate
      simp
theorem jn_len (sep : Str) (l : List Str) {m n : Nat} (h : ∀ x ∈ l, x.length ≤ m) (hn : l.length ≤ n) : (jn sep l).length ≤ n * (m + sep.length) := by
  have : (jn sep l).length ≤ l.length * (m + sep.length) := by
    induction l with
    | nil => simp [jn]
    | cons a t ih =>
      cases t with
      | nil => rw [jn_one]; have := h a (by simp); simp; omega
      | cons b t =>
        rw [jn_cons]
        have h1 := h a (by simp)
        have h2 := ih (fun x hx => h x (by simp [hx])) (by simp at hn ⊢; omega)
        simp only [List.length_append, List.length_cons] at h2 ⊢
        rw [Nat.succ_mul (t.length + 1)]
        omega
  exact Nat.le_trans this (Nat.mul_le_mul_right _ hn)
/-- the first k joined -/
def jnTo (sep : Str) (l : List Str) (k : Nat) : Str := jn sep (l.take k)
theorem jnTo_zero (sep : Str) (l : List Str) : jnTo sep l 0 = [] := by simp [jnTo, jn]
theorem jnTo_first (sep : Str) {l : List Str} {x : Str} (h : l[0]? = some x) : jnTo sep l 1 = x := by
  cases l with
  | nil => simp at h
  | cons a t => simp at h; subst h; simp [jnTo, jn]
theorem jnTo_succ (sep : Str) {l : List Str} {k : Nat} {x : Str} (hk : 0 < k) (h : l[k]? = some x) : jnTo sep l (k + 1) = jnTo sep l k ++ sep ++ x := by
  obtain ⟨hlt, rfl⟩ := List.getElem?_eq_some_iff.1 h
  unfold jnTo
  rw [List.take_succ_eq_append_getElem hlt, jn_snoc]
  intro h0
  have := congrArg List.length h0
  rw [List.length_take, List.length_nil] at this; omega
theorem jnTo_all (sep : Str) (l : List Str) : jnTo sep l l.length = jn sep l := by unfold jnTo; rw [List.take_length]

/-- the text of a requirement -/
def reqText (r : Req) : Str :=
  if r.op = 1 then r.key ++ [32, 105, 110, 32, 40] ++ jn [44] r.vals ++ [41]
  else if r.op = 2 then r.key ++ [32, 110, 111, 116, 105, 110, 32, 40] ++ jn [44] r.vals ++ [41]
  else if r.op = 4 then [33] ++ r.key else r.key
theorem reqText_1 (key : Str) (vals : List Str) : reqText ⟨key, 1, vals⟩ = key ++ [32, 105, 110, 32, 40] ++ jn [44] vals ++ [41] := rfl
theorem reqText_2 (key : Str) (vals : List Str) : reqText ⟨key, 2, vals⟩ = key ++ [32, 110, 111, 116, 105, 110, 32, 40] ++ jn [44] vals ++ [41] := rfl
theorem reqText_4 (key : Str) (vals : List Str) : reqText ⟨key, 4, vals⟩ = [33] ++ key := rfl
theorem reqText_3 (key : Str) (vals : List Str) : reqText ⟨key, 3, vals⟩ = key := rfl
/-- the text of a selector -/
def selText (s : List Req) : Str := jn [44, 32] (s.map reqText)

theorem keyOk_le {l : Str} (h : keyOk l = true) : l.length ≤ 40 := by unfold keyOk at h; simp at h; omega
theorem valOk_le {l : Str} (h : valOk l = true) : l.length ≤ 40 := by unfold valOk at h; simp at h; omega
theorem valsOk_le {l : List Str} (h : valsOk l = true) : l.length ≤ 64 ∧ ∀ x ∈ l, valOk x = true := by
  unfold valsOk at h; simp at h
  refine ⟨h.1.2, fun x hx => ?_⟩
  obtain ⟨i, hi, rfl⟩ := List.getElem_of_mem hx
  exact (chain_to h.2 i _ hi (get_some hi)).1
theorem reqOk_op {r : Req} (h : reqOk r = true) : r.op = 1 ∨ r.op = 2 ∨ r.op = 3 ∨ r.op = 4 := by
  unfold reqOk at h
  by_cases h1 : r.op = 1 ∨ r.op = 2
  · omega
  · by_cases h2 : r.op = 3 ∨ r.op = 4
    · omega
    · rw [if_neg h1, if_neg h2] at h; simp at h
theorem reqOk_keyOk {r : Req} (h : reqOk r = true) : keyOk r.key = true := by unfold reqOk at h; simp at h; exact h.1
theorem reqOk_vals {r : Req} (h : reqOk r = true) : r.vals.length ≤ 64 ∧ ∀ x ∈ r.vals, valOk x = true := by
  unfold reqOk at h
  by_cases h1 : r.op = 1 ∨ r.op = 2
  · rw [if_pos h1] at h; simp at h; exact valsOk_le h.2
  · rw [if_neg h1] at h
    by_cases h2 : r.op = 3 ∨ r.op = 4
    · rw [if_pos h2] at h; simp at h
      rw [h.2]; exact ⟨by simp, by simp⟩
    · rw [if_neg h2] at h; simp at h
theorem jnv_len {r : Req} (h : reqOk r = true) : (jn [44] r.vals).length ≤ 2624 := by
  have := reqOk_vals h
  exact jn_len [44] r.vals (m := 40) (n := 64) (fun x hx => valOk_le (this.2 x hx)) this.1
theorem reqText_len {r : Req} (h : reqOk r = true) : (reqText r).length ≤ 2700 := by
  have h1 := jnv_len h
  have h2 := keyOk_le (reqOk_keyOk h)
  unfold reqText
  split
  · simp; omega
  · split
    · simp; omega
    · split
      · simp; omega
      · omega
theorem selOk_mem {s : List Req} (h : selOk s = true) : s.length ≤ 16 ∧ ∀ r ∈ s, reqOk r = true := by
  unfold selOk at h; simp at h; exact h
theorem selText_len {s : List Req} (h : selOk s = true) : (selText s).length ≤ 43232 := by
  have := selOk_mem h
  refine jn_len [44, 32] (s.map reqText) (m := 2700) (n := 16) (fun x hx => ?_) (by simpa using this.1)
  obtain ⟨r, hr, rfl⟩ := List.mem_map.1 hx
  exact reqText_len (this.2 r hr)
end Go.Proofs.YtfohhokdcobhjaaDoor
