/- .. the second part being one field. The merge in general. The contract of the stable sort of fields. -/
import Derived.Test.YtinenbgdkchghaaMtJ
set_option linter.unusedSimpArgs false
set_option linter.unusedVariables false
namespace Go.Proofs.Ytinenbgdkchghaa
open Go.RowKit Go.Sort Go.Proofs.LawFrame

end Go.Proofs.Ytinenbgdkchghaa
namespace Go.Proofs.Ytinenbgdkchghaa
open Go.RowKit Go.Sort Go.Proofs.LawFrame

end Go.Proofs.Ytinenbgdkchghaa
namespace Go.Proofs.Ytinenbgdkchghaa
open Go.RowKit Go.Sort Go.Proofs.LawFrame

structure Inserted (b : Nat) (rest : List Value) (P X S : List FC) (w' : World) : Prop where
  out : ∃ R L', L' = P ++ (R ++ S) ∧ R.length = X.length ∧ Srt ltF R ∧ Same FC.x X R ∧ Own w' b (L'.flatMap FC.cells ++ rest) 33
structure SortedTo (b : Nat) (rest : List Value) (L0 : List FC) (w' : World) : Prop where
  out : ∃ L', Srt ltF L' ∧ Same FC.x L0 L' ∧ L'.length = L0.length ∧ Own w' b (L'.flatMap FC.cells ++ rest) 33

end Go.Proofs.Ytinenbgdkchghaa
