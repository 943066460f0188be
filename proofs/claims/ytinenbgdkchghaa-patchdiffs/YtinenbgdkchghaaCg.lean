/- The contracts of Without and With. -/
import Derived.Test.YtinenbgdkchghaaCeJ
set_option linter.unusedSimpArgs false
set_option linter.unusedVariables false
namespace Go.Proofs.Ytinenbgdkchghaa
open Go.RowKit Go.Sort Go.Proofs.LawFrame

/-- what Without gives -/
structure Wout (k : Int) (nm : Str) (f : List (Str × T)) (t t' : T) : Prop where
  map : k = 5 → ∃ M, t' = .mk 5 0 [] [] M ∧ MapOf (oth nm f) M
  same : ¬ k = 5 → t' = t
theorem oth_mem {nm : Str} {f : List (Str × T)} {p : Str × T} (h : p ∈ oth nm f) : p ∈ f := (List.mem_filter.1 h).1

end Go.Proofs.Ytinenbgdkchghaa
