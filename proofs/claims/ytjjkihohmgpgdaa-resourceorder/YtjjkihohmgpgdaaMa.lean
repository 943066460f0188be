/- Plain mathematics: clamped amounts, their sums and differences. -/
namespace Go.Proofs.Ytjjkihohmgpgdaa

def clampZ (n : Int) : Int := if n < 0 then 0 else if 1000000000000000 < n then 1000000000000000 else n
def addZ (a b : Int) : Int := clampZ (clampZ a + clampZ b)
def subZ (a b : Int) : Int := clampZ (clampZ a - clampZ b)
def leZ (a b : Int) : Bool := decide (clampZ a ≤ clampZ b)
def fitsZ (a0 a1 a2 b0 b1 b2 : Int) : Bool := leZ a0 b0 && (leZ a1 b1 && leZ a2 b2)

theorem clampZ_lo (n : Int) : 0 ≤ clampZ n := by unfold clampZ; split <;> (try split) <;> omega
theorem clampZ_hi (n : Int) : clampZ n ≤ 1000000000000000 := by unfold clampZ; split <;> (try split) <;> omega
theorem clampZ_of {n : Int} (h0 : 0 ≤ n) (h1 : n ≤ 1000000000000000) : clampZ n = n := by unfold clampZ; rw [if_neg (by omega), if_neg (by omega)]
theorem clampZ_big {n : Int} (h : 1000000000000000 ≤ n) : clampZ n = 1000000000000000 := by unfold clampZ; rw [if_neg (by omega)]; split <;> omega
theorem clampZ_neg {n : Int} (h : n ≤ 0) : clampZ n = 0 := by unfold clampZ; split <;> (try split) <;> omega
theorem clampZ_idem (n : Int) : clampZ (clampZ n) = clampZ n := clampZ_of (clampZ_lo n) (clampZ_hi n)

theorem addZ_lo (a b : Int) : 0 ≤ addZ a b := clampZ_lo _
theorem addZ_hi (a b : Int) : addZ a b ≤ 1000000000000000 := clampZ_hi _
theorem addZ_comm (a b : Int) : addZ a b = addZ b a := by unfold addZ; rw [Int.add_comm]
theorem addZ_zero (a : Int) : addZ a 0 = clampZ a := by
  unfold addZ; rw [clampZ_of (n := 0) (by decide) (by decide), Int.add_zero, clampZ_idem]
theorem clampZ_addZ (a b : Int) : clampZ (addZ a b) = addZ a b := clampZ_idem _
/-- min(M, a + b) for clamped numbers -/
theorem addZ_eq (a b : Int) : addZ a b = if 1000000000000000 < clampZ a + clampZ b then 1000000000000000 else clampZ a + clampZ b := by
  have := clampZ_lo a; have := clampZ_lo b
  unfold addZ; rw [show clampZ (clampZ a + clampZ b) = if clampZ a + clampZ b < 0 then 0 else if 1000000000000000 < clampZ a + clampZ b then 1000000000000000 else clampZ a + clampZ b from rfl, if_neg (by omega)]
theorem subZ_eq (a b : Int) : subZ a b = if clampZ a - clampZ b < 0 then 0 else clampZ a - clampZ b := by
  have := clampZ_hi a; have := clampZ_lo b
  unfold subZ; rw [show clampZ (clampZ a - clampZ b) = if clampZ a - clampZ b < 0 then 0 else if 1000000000000000 < clampZ a - clampZ b then 1000000000000000 else clampZ a - clampZ b from rfl]
  split
  · rfl
  · rw [if_neg (by omega)]
theorem addZ_assoc (a b c : Int) : addZ (addZ a b) c = addZ a (addZ b c) := by
  have := clampZ_lo a; have := clampZ_lo b; have := clampZ_lo c
  rw [addZ_eq (addZ a b) c, addZ_eq a (addZ b c), clampZ_addZ, clampZ_addZ, addZ_eq a b, addZ_eq b c]
  split <;> split <;> (try split) <;> (try split) <;> omega
theorem addZ_addZ_zero (a b : Int) : addZ (addZ a b) 0 = addZ a b := by rw [addZ_zero, clampZ_addZ]
/-- what was added and subtracted again -/
theorem subZ_addZ {a b : Int} (h : addZ a b < 1000000000000000) : subZ (addZ a b) b = addZ a 0 := by
  have := clampZ_lo a; have := clampZ_lo b
  rw [addZ_zero, subZ_eq, clampZ_addZ]
  rw [addZ_eq] at h ⊢
  split at h
  · omega
  · rw [if_neg (by omega)]; split <;> omega
theorem leZ_addZ (a b : Int) : leZ a (addZ a b) = true := by
  have := clampZ_hi a; have := clampZ_lo b
  unfold leZ; rw [clampZ_addZ, addZ_eq]; split <;> simp <;> omega
theorem leZ_addZ' (a b : Int) : leZ b (addZ a b) = true := by rw [addZ_comm]; exact leZ_addZ b a
theorem leZ_trans {a b c : Int} (h : leZ a b = true) (k : leZ b c = true) : leZ a c = true := by
  unfold leZ at *; simp at *; omega
theorem leZ_antisymm {a b : Int} (h : leZ a b = true) (k : leZ b a = true) : addZ a 0 = addZ b 0 := by
  rw [addZ_zero, addZ_zero]; unfold leZ at *; simp at *; omega
theorem leZ_of_eq {a b : Int} (h : addZ a 0 = addZ b 0) : leZ a b = true := by
  rw [addZ_zero, addZ_zero] at h; unfold leZ; simp; omega
theorem leZ_iff (a b : Int) : leZ a b = true ↔ addZ a (subZ b a) = addZ b 0 := by
  have := clampZ_lo a; have := clampZ_lo b; have := clampZ_hi a; have := clampZ_hi b
  rw [addZ_zero, addZ_eq, show clampZ (subZ b a) = subZ b a from clampZ_idem _, subZ_eq]
  unfold leZ; simp only [decide_eq_true_eq]
  constructor
  · intro h; split <;> split <;> omega
  · intro h; split at h <;> split at h <;> omega

theorem fitsZ_true {a0 a1 a2 b0 b1 b2 : Int} : fitsZ a0 a1 a2 b0 b1 b2 = true ↔ leZ a0 b0 = true ∧ leZ a1 b1 = true ∧ leZ a2 b2 = true := by
  unfold fitsZ; simp
end Go.Proofs.Ytjjkihohmgpgdaa
