/- Plain mathematics: the reference's reading is the same. No program in it. -/
import Derived.Test.YtklpnkdfbfdbnaaDoorMe
namespace Go.Proofs.YtklpnkdfbfdbnaaDoor

/-- the reference's thousandths: two zeros behind, three digits taken -/
theorem thou_take {l : List UInt8} (h1 : 1 ≤ l.length) (h3 : l.length ≤ 3) : decN ((l ++ [48, 48]).take 3) = thouN l := by
  match l, h1, h3 with
  | [a], _, _ => simp [thouN, thouTo, decN]; omega
  | [a, b], _, _ => simp [thouN, thouTo, decN]
  | [a, b, c], _, _ => simp [thouN, thouTo, decN]
theorem thou_take_all {l : List UInt8} (hd : ∀ c ∈ l, isDig c = true) : ∀ c ∈ (l ++ [48, 48]).take 3, isDig c = true := by
  intro c hc
  have := List.mem_of_mem_take hc
  rw [List.mem_append] at this
  rcases this with h | h
  · exact hd c h
  · simp at h; rw [h]; decide
/-- the reference refuses a great integer part early -/
theorem scaled_early {D T F : Int} (hD : 1000000000000 < D) (hT : 0 ≤ T) : scaled (D * 1000 + T) F = (0, 5) := by
  apply scaled_big
  have : 1000000000000000 / F ≤ 1000000000000000 := Int.ediv_le_self _ (by decide)
  omega
end Go.Proofs.YtklpnkdfbfdbnaaDoor
