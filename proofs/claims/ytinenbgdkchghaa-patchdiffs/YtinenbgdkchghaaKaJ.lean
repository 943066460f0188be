/- The parser's looks at one byte, and its failures. The parser's peek. -/
import Derived.Test.YtinenbgdkchghaaWmJ
import Derived.WalkLawsBesides
import Derived.BigRegion
import Derived.Deep.DeepCutAuto
import Derived.Deep.CutBlock
import Derived.Deep.LoopGhost
set_option linter.unusedSimpArgs false
set_option linter.unusedVariables false
namespace Go.Proofs.Ytinenbgdkchghaa
open Go.RowKit Go.Sort Go.Proofs.LawFrame

def blk (c : UInt8) : Bool := decide (c.toNat = 32) || decide (c.toNat = 9) || decide (c.toNat = 10) || decide (c.toNat = 13)
def dig (c : UInt8) : Bool := decide (48 ≤ c.toNat) && decide (c.toNat ≤ 57)
def prt (c : UInt8) : Bool := decide (32 ≤ c.toNat) && decide (c.toNat ≤ 126)
def bgn (c : UInt8) : Bool := dig c || decide (c.toNat = 45) || decide (c.toNat = 110) || decide (c.toNat = 116) || decide (c.toNat = 102) || decide (c.toNat = 34) || decide (c.toNat = 91) || decide (c.toNat = 123)

/-- the parser panics with the offset and the code -/
abbrev failE (at_ code : Int) : Ending := .panicked [{ v := .iface 69 (.agg #[.int .i64 at_, .int .i64 code]), recovered := false }]
end Go.Proofs.Ytinenbgdkchghaa
namespace Go.Proofs.Ytinenbgdkchghaa
open Go.RowKit Go.Sort Go.Proofs.LawFrame

theorem drop_byte {s : Str} {i : Nat} {c : UInt8} {r : Str} (h : s.drop i = c :: r) : ∃ hi : i < s.length, s[i] = c ∧ s.drop (i + 1) = r ∧ s.length = i + (r.length + 1) := by
  have hi : i < s.length := by
    rcases Nat.lt_or_ge i s.length with hi | hi
    · exact hi
    · rw [List.drop_of_length_le hi] at h; cases h
  have h2 := List.drop_eq_getElem_cons hi
  rw [h] at h2
  have hl := congrArg List.length h
  rw [List.length_drop, List.length_cons] at hl
  simp only [List.cons.injEq] at h2
  exact ⟨hi, h2.1.symm, h2.2.symm, by omega⟩
theorem drop_end {s : Str} {i : Nat} (h : s.drop i = []) (hi : i ≤ s.length) : i = s.length := by
  have hl := congrArg List.length h
  rw [List.length_drop] at hl
  simp at hl; omega

end Go.Proofs.Ytinenbgdkchghaa
