/- Plain mathematics of amounts: what a percentage comes to. No program in it. -/
import Derived.WalkKit
namespace Go.Proofs.YtklpnkdfbfdbnaaDoor

def clampI (n lo hi : Int) : Int := max lo (min n hi)
theorem clampI_lo {n lo hi : Int} : lo ≤ clampI n lo hi := by unfold clampI; omega
theorem clampI_hi {n lo hi : Int} (h : lo ≤ hi) : clampI n lo hi ≤ hi := by unfold clampI; omega
theorem clampI_mono {a b lo hi : Int} (h : a ≤ b) : clampI a lo hi ≤ clampI b lo hi := by unfold clampI; omega

/-- what 'up' adds ahead of the division -/
def upI (up : Bool) : Int := if up then 99 else 0
theorem upI_true : upI true = 99 := rfl
theorem upI_false : upI false = 0 := rfl
/-- share percent of total, at most the greatest number -/
def pctI (share total : Int) (up : Bool) : Int := min ((total * share + upI up) / 100) 1000000000000000
def resolveI (p : Bool) (n total : Int) (up : Bool) : Int :=
  if p then pctI (clampI n 0 1000000000000000) (clampI total 0 1000000000000000) up else clampI n 0 1000000000000000

theorem pct_split (share total x : Int) : (total * share + x) / 100 = total / 100 * share + (total % 100 * share + x) / 100 := by
  have h : total * share + x = (total % 100 * share + x) + 100 * (total / 100 * share) := by
    have h1 : total * share = (100 * (total / 100) + total % 100) * share := by rw [Int.mul_ediv_add_emod]
    rw [h1, Int.add_mul, Int.mul_assoc]; omega
  rw [h, Int.add_mul_ediv_left _ _ (by decide)]; omega

theorem pct_big {share h : Int} (hs : 0 < share) (hb : 1000000000000000 / share < h) : 1000000000000000 < h * share := by
  have h1 : 1000000000000000 < (1000000000000000 / share + 1) * share := Int.lt_ediv_add_one_mul_self _ hs
  have h2 : (1000000000000000 / share + 1) * share ≤ h * share := Int.mul_le_mul_of_nonneg_right (by omega) (by omega)
  omega
theorem pct_small {share h : Int} (hs : 0 < share) (hb : h ≤ 1000000000000000 / share) : h * share ≤ 1000000000000000 :=
  Int.le_trans (Int.mul_le_mul_of_nonneg_right hb (by omega)) (Int.ediv_mul_le _ (by omega))

theorem part_nonneg {share total : Int} (up : Bool) (hs : 0 ≤ share) : 0 ≤ (total % 100 * share + upI up) / 100 := by
  have h0 : 0 ≤ total % 100 * share := Int.mul_nonneg (by omega) hs
  have h1 : 0 ≤ upI up := by unfold upI; split <;> omega
  omega
/-- the code's early answer -/
theorem pctI_big {share total : Int} (up : Bool) (hs : 0 < share) (hb : 1000000000000000 / share < total / 100) : pctI share total up = 1000000000000000 := by
  unfold pctI
  have h1 := pct_split share total (upI up)
  have h2 := pct_big hs hb
  have h3 := part_nonneg (total := total) up (by omega : 0 ≤ share)
  omega
/-- the reference's early answer -/
theorem pctI_big' {share total : Int} (up : Bool) (ht : 0 < total / 100) (hs : 0 ≤ share) (hb : 1000000000000000 / (total / 100) < share) : pctI share total up = 1000000000000000 := by
  unfold pctI
  have h1 := pct_split share total (upI up)
  have h2 := pct_big ht hb
  have h3 := part_nonneg (total := total) up hs
  rw [Int.mul_comm] at h2
  omega
theorem pctI_eq (share total : Int) (up : Bool) : pctI share total up = min (total / 100 * share + (total % 100 * share + upI up) / 100) 1000000000000000 := by
  unfold pctI; rw [pct_split]

theorem pctI_range {share total : Int} (up : Bool) (hs : 0 ≤ share) (ht : 0 ≤ total) : 0 ≤ pctI share total up ∧ pctI share total up ≤ 1000000000000000 := by
  unfold pctI
  have h0 : 0 ≤ total * share := Int.mul_nonneg ht hs
  have h1 : 0 ≤ upI up := by unfold upI; split <;> omega
  omega
theorem pctI_mono {share a b : Int} (up : Bool) (hs : 0 ≤ share) (h : a ≤ b) : pctI share a up ≤ pctI share b up := by
  unfold pctI
  have h0 : a * share ≤ b * share := Int.mul_le_mul_of_nonneg_right h hs
  have h1 : (a * share + upI up) / 100 ≤ (b * share + upI up) / 100 := Int.ediv_le_ediv (by decide) (by omega)
  omega
theorem pctI_two (share total : Int) : pctI share total false ≤ pctI share total true ∧ pctI share total true - pctI share total false ≤ 1 := by
  unfold pctI; rw [upI_true, upI_false]; omega

theorem resolveI_range (p : Bool) (n total : Int) (up : Bool) : 0 ≤ resolveI p n total up ∧ resolveI p n total up ≤ 1000000000000000 := by
  unfold resolveI; split
  · exact pctI_range up clampI_lo clampI_lo
  · exact ⟨clampI_lo, clampI_hi (by decide)⟩
theorem resolveI_mono (p : Bool) (n : Int) {a b : Int} (up : Bool) (h : a ≤ b) : resolveI p n a up ≤ resolveI p n b up := by
  unfold resolveI; split
  · exact pctI_mono up clampI_lo (clampI_mono h)
  · exact Int.le_refl _
theorem resolveI_two (p : Bool) (n total : Int) : resolveI p n total false ≤ resolveI p n total true ∧ resolveI p n total true - resolveI p n total false ≤ 1 := by
  unfold resolveI; split
  · exact pctI_two _ _
  · exact ⟨Int.le_refl _, by omega⟩
end Go.Proofs.YtklpnkdfbfdbnaaDoor
