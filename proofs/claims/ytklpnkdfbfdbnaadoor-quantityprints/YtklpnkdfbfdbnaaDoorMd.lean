/- Plain mathematics of the canonical text. No program in it. -/
import Derived.Test.YtklpnkdfbfdbnaaDoorMc
import Derived.Lib.ItoaMem
import Derived.Lib.ItoaLen
namespace Go.Proofs.YtklpnkdfbfdbnaaDoor

/-- the canonical text of a number of whole units -/
def printU (q : Int) : List UInt8 :=
  if (q == 0) = true then [48]
  else if (q.tmod 1000000000 == 0) = true then Lib.itoa (q.tdiv 1000000000) ++ [71]
  else if (q.tmod 1000000 == 0) = true then Lib.itoa (q.tdiv 1000000) ++ [77]
  else if (q.tmod 1000 == 0) = true then Lib.itoa (q.tdiv 1000) ++ [107]
  else Lib.itoa q
/-- the canonical text of a quantity -/
def printQ (N : Int) : List UInt8 := if (N.tmod 1000 != 0) = true then Lib.itoa N ++ [109] else printU (N.tdiv 1000)
theorem tdiv_bd {q c B : Int} (hc : 0 < c) (h0 : -B ≤ q) (h1 : q ≤ B) : -B ≤ q.tdiv c ∧ q.tdiv c ≤ B := by
  have h2 : 0 ≤ B := by omega
  rcases Int.le_total 0 q with h | h
  · have h3 : q.tdiv c = q / c := Int.tdiv_eq_ediv_of_nonneg h
    have h4 : q / c ≤ q := Int.ediv_le_self c h
    have h5 : 0 ≤ q / c := Int.ediv_nonneg h (by omega)
    omega
  · have h3 : q.tdiv c = -((-q) / c) := by
      rw [← Int.tdiv_eq_ediv_of_nonneg (by omega), Int.neg_tdiv]; omega
    have h4 : (-q) / c ≤ -q := Int.ediv_le_self c (by omega)
    have h5 : 0 ≤ (-q) / c := Int.ediv_nonneg (by omega) (by omega)
    omega
end Go.Proofs.YtklpnkdfbfdbnaaDoor
