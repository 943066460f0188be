/- Plain mathematics of digits. No program in it. -/
import Derived.WalkKit
namespace Go.Proofs.YtklpnkdfbfdbnaaDoor

def isDig (c : UInt8) : Bool := decide (48 ≤ c.toNat) && decide (c.toNat ≤ 57)
theorem isDig_iff (c : UInt8) : isDig c = true ↔ 48 ≤ c.toNat ∧ c.toNat ≤ 57 := by simp [isDig]
theorem isDig_not (c : UInt8) : isDig c = false ↔ ¬ (48 ≤ c.toNat ∧ c.toNat ≤ 57) := by
  rw [← isDig_iff]; simp
def DigTo (l : List UInt8) (k : Nat) : Prop := ∀ c ∈ l.take k, isDig c = true
theorem DigTo_zero (l : List UInt8) : DigTo l 0 := by intro c hc; simp at hc
theorem DigTo_succ {l : List UInt8} {k : Nat} (h : DigTo l k) (hk : k < l.length) (hd : isDig l[k] = true) : DigTo l (k + 1) := by
  intro c hc
  rw [List.take_succ_eq_append_getElem hk, List.mem_append] at hc
  rcases hc with hc | hc
  · exact h c hc
  · simp at hc; rw [hc]; exact hd
theorem takeWhile_of {l : List UInt8} {k : Nat} (h : DigTo l k) (hk : k < l.length) (hd : isDig l[k] = false) : l.takeWhile isDig = l.take k ∧ l.dropWhile isDig = l.drop k := by
  have e : l.take k ++ l[k] :: l.drop (k + 1) = l := by rw [List.getElem_cons_drop, List.take_append_drop]
  have e2 : l.drop k = l[k] :: l.drop (k + 1) := by rw [List.getElem_cons_drop]
  constructor
  · conv => lhs; rw [← e]
    rw [List.takeWhile_append_of_pos h, List.takeWhile_cons_of_neg (by simp [hd])]; simp
  · conv => lhs; rw [← e]
    rw [List.dropWhile_append_of_pos h, List.dropWhile_cons_of_neg (by simp [hd]), e2]
theorem takeWhile_end {l : List UInt8} (h : DigTo l l.length) : l.takeWhile isDig = l ∧ l.dropWhile isDig = [] := by
  rw [DigTo, List.take_length] at h
  refine ⟨?_, ?_⟩
  · have := List.takeWhile_append_of_pos (l₂ := []) h; simpa using this
  · have := List.dropWhile_append_of_pos (l₂ := []) h; simpa using this

/-- the number that digits write, from the left -/
def decN (l : List UInt8) : Nat := l.foldl (fun n c => n * 10 + (c.toNat - 48)) 0
theorem decN_snoc (l : List UInt8) (c : UInt8) : decN (l ++ [c]) = decN l * 10 + (c.toNat - 48) := by simp [decN, List.foldl_append]
theorem decN_take {l : List UInt8} {k : Nat} (hk : k < l.length) : decN (l.take (k + 1)) = decN (l.take k) * 10 + (l[k].toNat - 48) := by
  rw [List.take_succ_eq_append_getElem hk, decN_snoc]
theorem decN_snoc_lt {n c p : Nat} (h : n < p) (hc : c ≤ 9) : n * 10 + c < p * 10 := by omega
theorem decN_lt_take {l : List UInt8} (h : ∀ c ∈ l, isDig c = true) : ∀ k : Nat, k ≤ l.length → decN (l.take k) < 10 ^ k
  | 0, _ => by simp [decN]
  | k + 1, hk => by
    have hk' : k < l.length := by omega
    have hd := (isDig_iff _).1 (h l[k] (List.getElem_mem hk'))
    rw [decN_take hk', Nat.pow_succ]
    exact decN_snoc_lt (decN_lt_take h k (by omega)) (by omega)
theorem decN_lt {l : List UInt8} (h : ∀ c ∈ l, isDig c = true) : decN l < 10 ^ l.length := by
  have := decN_lt_take h l.length (Nat.le_refl _); rwa [List.take_length] at this
theorem all_takeWhile (l : List UInt8) : ∀ c ∈ l.takeWhile isDig, isDig c = true := by
  intro c hc
  exact List.all_eq_true.1 (List.all_takeWhile (l := l) (p := isDig)) c hc
end Go.Proofs.YtklpnkdfbfdbnaaDoor
