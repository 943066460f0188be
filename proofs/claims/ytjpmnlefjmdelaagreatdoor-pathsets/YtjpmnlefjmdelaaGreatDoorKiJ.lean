/- A byte that begins a value; names; a field of a name among others. Is there a field of that name; names. -/
import Derived.Test.YtjpmnlefjmdelaaGreatDoorKgJ
import Derived.Lib.Bytealg
set_option linter.unusedSimpArgs false
set_option linter.unusedVariables false
namespace Go.Proofs.YtjpmnlefjmdelaaGreatDoor
open Go.RowKit Go.Sort Go.Proofs.LawFrame

end Go.Proofs.YtjpmnlefjmdelaaGreatDoor
namespace Go.Proofs.YtjpmnlefjmdelaaGreatDoor
open Go.RowKit Go.Sort Go.Proofs.LawFrame

end Go.Proofs.YtjpmnlefjmdelaaGreatDoor
