/-
  DERIVED. GIVEN WITH THE SEED: THE CARDS: each row of YtjpmnlefjmdelaaGreatDoorRows.lean that lists a variable, with what it lists TIED to the program's text (the seventh form; the later family's looks); each row that meets fmt, with fmt's text TOLD by the authors' own Lean function (tested against real Go, not proved from fmt's source: count such statements apart). THE CARD IS WHAT COUNTS. Prove the row's statement (the work); the ties are given (YtjpmnlefjmdelaaGreatDoorTie.lean); close each card by the builder's one call (the guide's Derived/Test/ToyasCard.lean, 'card_holds'). Laid BY PROGRAM, IN A SANDBOX (cutbox-door.mjs). By AI agents, Wed Nov 11 2026. No macro, syntax, notation, axiom, sorry.
-/
import Derived.Test.YtjpmnlefjmdelaaGreatDoorRows
import GoSem.ClaimSeven
namespace Go.Proofs.YtjpmnlefjmdelaaGreatDoor
namespace Rows

/-- THE TIED CARD OF 'orchestratorlaw05.JsonPrints'. -/
def jsonPrintsCard : Claim7 := { stood := { row := jsonPrintsRow, standIns := [], harness := (true, "d16ebde989410397a35c887dd6c0a1febcfd4bbe07152322ffc6618538e9f010"), looks := true }, kinds := [], alts := [], laidByText := true, laidKinds := [.data, .data, .data], laidTests := true, laidLooks := .later }
def JsonPrintsCardSaid : Prop := Claim7.holds Tryz.pinned (.plain (OpenSpec.ofChange jsonPrintsSpec)) jsonPrintsCard

/-- THE TIED CARD OF 'orchestratorlaw05.JsonParses'. -/
def jsonParsesCard : Claim7 := { stood := { row := jsonParsesRow, standIns := [], harness := (true, "d16ebde989410397a35c887dd6c0a1febcfd4bbe07152322ffc6618538e9f010"), looks := true }, kinds := [], alts := [], laidByText := true, laidKinds := [.data, .data, .data], laidTests := true, laidLooks := .later }
def JsonParsesCardSaid : Prop := Claim7.holds Tryz.pinned (.plain (OpenSpec.ofChange jsonParsesSpec)) jsonParsesCard

/-- THE TIED CARD OF 'orchestratorlaw05.JsonRoundTrip'. -/
def jsonRoundTripCard : Claim7 := { stood := { row := jsonRoundTripRow, standIns := [], harness := (true, "d16ebde989410397a35c887dd6c0a1febcfd4bbe07152322ffc6618538e9f010"), looks := true }, kinds := [], alts := [], laidByText := true, laidKinds := [.data, .data, .data], laidTests := true, laidLooks := .later }
def JsonRoundTripCardSaid : Prop := Claim7.holds Tryz.pinned (.plain (OpenSpec.ofChange jsonRoundTripSpec)) jsonRoundTripCard

/-- THE TIED CARD OF 'orchestratorlaw05.JsonCanonical'. -/
def jsonCanonicalCard : Claim7 := { stood := { row := jsonCanonicalRow, standIns := [], harness := (true, "d16ebde989410397a35c887dd6c0a1febcfd4bbe07152322ffc6618538e9f010"), looks := true }, kinds := [], alts := [], laidByText := true, laidKinds := [.data, .data, .data], laidTests := true, laidLooks := .later }
def JsonCanonicalCardSaid : Prop := Claim7.holds Tryz.pinned (.plain (OpenSpec.ofChange jsonCanonicalSpec)) jsonCanonicalCard

/-- THE TIED CARD OF 'orchestratorlaw06.PathValid'. -/
def pathValidCard : Claim7 := { stood := { row := pathValidRow, standIns := [], harness := (true, "d16ebde989410397a35c887dd6c0a1febcfd4bbe07152322ffc6618538e9f010"), looks := true }, kinds := [], alts := [], laidByText := true, laidKinds := [.data, .data, .data], laidTests := true, laidLooks := .later }
def PathValidCardSaid : Prop := Claim7.holds Tryz.pinned (.plain (OpenSpec.ofChange pathValidSpec)) pathValidCard

/-- THE TIED CARD OF 'orchestratorlaw06.PathParses'. -/
def pathParsesCard : Claim7 := { stood := { row := pathParsesRow, standIns := [], harness := (true, "d16ebde989410397a35c887dd6c0a1febcfd4bbe07152322ffc6618538e9f010"), looks := true }, kinds := [], alts := [], laidByText := true, laidKinds := [.data, .data, .data], laidTests := true, laidLooks := .later }
def PathParsesCardSaid : Prop := Claim7.holds Tryz.pinned (.plain (OpenSpec.ofChange pathParsesSpec)) pathParsesCard

/-- THE TIED CARD OF 'orchestratorlaw06.PathPrints'. -/
def pathPrintsCard : Claim7 := { stood := { row := pathPrintsRow, standIns := [], harness := (true, "d16ebde989410397a35c887dd6c0a1febcfd4bbe07152322ffc6618538e9f010"), looks := true }, kinds := [], alts := [], laidByText := true, laidKinds := [.data, .data, .data], laidTests := true, laidLooks := .later }
def PathPrintsCardSaid : Prop := Claim7.holds Tryz.pinned (.plain (OpenSpec.ofChange pathPrintsSpec)) pathPrintsCard

/-- THE TIED CARD OF 'orchestratorlaw06.PathGets'. -/
def pathGetsCard : Claim7 := { stood := { row := pathGetsRow, standIns := [], harness := (true, "d16ebde989410397a35c887dd6c0a1febcfd4bbe07152322ffc6618538e9f010"), looks := true }, kinds := [], alts := [], laidByText := true, laidKinds := [.data, .data, .data], laidTests := true, laidLooks := .later }
def PathGetsCardSaid : Prop := Claim7.holds Tryz.pinned (.plain (OpenSpec.ofChange pathGetsSpec)) pathGetsCard

/-- THE TIED CARD OF 'orchestratorlaw06.PathSets'. -/
def pathSetsCard : Claim7 := { stood := { row := pathSetsRow, standIns := [], harness := (true, "d16ebde989410397a35c887dd6c0a1febcfd4bbe07152322ffc6618538e9f010"), looks := true }, kinds := [], alts := [], laidByText := true, laidKinds := [.data, .data, .data], laidTests := true, laidLooks := .later }
def PathSetsCardSaid : Prop := Claim7.holds Tryz.pinned (.plain (OpenSpec.ofChange pathSetsSpec)) pathSetsCard

/-- THE TIED CARD OF 'orchestratorlaw06.PathLenses'. -/
def pathLensesCard : Claim7 := { stood := { row := pathLensesRow, standIns := [], harness := (true, "d16ebde989410397a35c887dd6c0a1febcfd4bbe07152322ffc6618538e9f010"), looks := true }, kinds := [], alts := [], laidByText := true, laidKinds := [.data, .data, .data], laidTests := true, laidLooks := .later }
def PathLensesCardSaid : Prop := Claim7.holds Tryz.pinned (.plain (OpenSpec.ofChange pathLensesSpec)) pathLensesCard

/-- THE TIED CARD OF 'orchestratorlaw06.PathRemoves'. -/
def pathRemovesCard : Claim7 := { stood := { row := pathRemovesRow, standIns := [], harness := (true, "d16ebde989410397a35c887dd6c0a1febcfd4bbe07152322ffc6618538e9f010"), looks := true }, kinds := [], alts := [], laidByText := true, laidKinds := [.data, .data, .data], laidTests := true, laidLooks := .later }
def PathRemovesCardSaid : Prop := Claim7.holds Tryz.pinned (.plain (OpenSpec.ofChange pathRemovesSpec)) pathRemovesCard

/-- THE SECOND FORM's CARD OF 'orchestratorlaw05.JsonPrints'. -/
def jsonPrintsUptoCard : Claim7 := { stood := { row := jsonPrintsUptoRow, standIns := [], harness := (true, "d16ebde989410397a35c887dd6c0a1febcfd4bbe07152322ffc6618538e9f010"), looks := true }, kinds := [], alts := [], laidByText := true, laidKinds := [.data, .data, .data], laidTests := true, laidLooks := .later }
def JsonPrintsUptoCardSaid : Prop := Claim7.holds Tryz.pinned (.plain (OpenSpec.upto jsonPrintsSpec)) jsonPrintsUptoCard

/-- THE SECOND FORM's CARD OF 'orchestratorlaw05.JsonParses'. -/
def jsonParsesUptoCard : Claim7 := { stood := { row := jsonParsesUptoRow, standIns := [], harness := (true, "d16ebde989410397a35c887dd6c0a1febcfd4bbe07152322ffc6618538e9f010"), looks := true }, kinds := [], alts := [], laidByText := true, laidKinds := [.data, .data, .data], laidTests := true, laidLooks := .later }
def JsonParsesUptoCardSaid : Prop := Claim7.holds Tryz.pinned (.plain (OpenSpec.upto jsonParsesSpec)) jsonParsesUptoCard

/-- THE SECOND FORM's CARD OF 'orchestratorlaw05.JsonRoundTrip'. -/
def jsonRoundTripUptoCard : Claim7 := { stood := { row := jsonRoundTripUptoRow, standIns := [], harness := (true, "d16ebde989410397a35c887dd6c0a1febcfd4bbe07152322ffc6618538e9f010"), looks := true }, kinds := [], alts := [], laidByText := true, laidKinds := [.data, .data, .data], laidTests := true, laidLooks := .later }
def JsonRoundTripUptoCardSaid : Prop := Claim7.holds Tryz.pinned (.plain (OpenSpec.upto jsonRoundTripSpec)) jsonRoundTripUptoCard

/-- THE SECOND FORM's CARD OF 'orchestratorlaw05.JsonCanonical'. -/
def jsonCanonicalUptoCard : Claim7 := { stood := { row := jsonCanonicalUptoRow, standIns := [], harness := (true, "d16ebde989410397a35c887dd6c0a1febcfd4bbe07152322ffc6618538e9f010"), looks := true }, kinds := [], alts := [], laidByText := true, laidKinds := [.data, .data, .data], laidTests := true, laidLooks := .later }
def JsonCanonicalUptoCardSaid : Prop := Claim7.holds Tryz.pinned (.plain (OpenSpec.upto jsonCanonicalSpec)) jsonCanonicalUptoCard

/-- THE SECOND FORM's CARD OF 'orchestratorlaw06.PathValid'. -/
def pathValidUptoCard : Claim7 := { stood := { row := pathValidUptoRow, standIns := [], harness := (true, "d16ebde989410397a35c887dd6c0a1febcfd4bbe07152322ffc6618538e9f010"), looks := true }, kinds := [], alts := [], laidByText := true, laidKinds := [.data, .data, .data], laidTests := true, laidLooks := .later }
def PathValidUptoCardSaid : Prop := Claim7.holds Tryz.pinned (.plain (OpenSpec.upto pathValidSpec)) pathValidUptoCard

/-- THE SECOND FORM's CARD OF 'orchestratorlaw06.PathParses'. -/
def pathParsesUptoCard : Claim7 := { stood := { row := pathParsesUptoRow, standIns := [], harness := (true, "d16ebde989410397a35c887dd6c0a1febcfd4bbe07152322ffc6618538e9f010"), looks := true }, kinds := [], alts := [], laidByText := true, laidKinds := [.data, .data, .data], laidTests := true, laidLooks := .later }
def PathParsesUptoCardSaid : Prop := Claim7.holds Tryz.pinned (.plain (OpenSpec.upto pathParsesSpec)) pathParsesUptoCard

/-- THE SECOND FORM's CARD OF 'orchestratorlaw06.PathPrints'. -/
def pathPrintsUptoCard : Claim7 := { stood := { row := pathPrintsUptoRow, standIns := [], harness := (true, "d16ebde989410397a35c887dd6c0a1febcfd4bbe07152322ffc6618538e9f010"), looks := true }, kinds := [], alts := [], laidByText := true, laidKinds := [.data, .data, .data], laidTests := true, laidLooks := .later }
def PathPrintsUptoCardSaid : Prop := Claim7.holds Tryz.pinned (.plain (OpenSpec.upto pathPrintsSpec)) pathPrintsUptoCard

/-- THE SECOND FORM's CARD OF 'orchestratorlaw06.PathGets'. -/
def pathGetsUptoCard : Claim7 := { stood := { row := pathGetsUptoRow, standIns := [], harness := (true, "d16ebde989410397a35c887dd6c0a1febcfd4bbe07152322ffc6618538e9f010"), looks := true }, kinds := [], alts := [], laidByText := true, laidKinds := [.data, .data, .data], laidTests := true, laidLooks := .later }
def PathGetsUptoCardSaid : Prop := Claim7.holds Tryz.pinned (.plain (OpenSpec.upto pathGetsSpec)) pathGetsUptoCard

/-- THE SECOND FORM's CARD OF 'orchestratorlaw06.PathSets'. -/
def pathSetsUptoCard : Claim7 := { stood := { row := pathSetsUptoRow, standIns := [], harness := (true, "d16ebde989410397a35c887dd6c0a1febcfd4bbe07152322ffc6618538e9f010"), looks := true }, kinds := [], alts := [], laidByText := true, laidKinds := [.data, .data, .data], laidTests := true, laidLooks := .later }
def PathSetsUptoCardSaid : Prop := Claim7.holds Tryz.pinned (.plain (OpenSpec.upto pathSetsSpec)) pathSetsUptoCard

/-- THE SECOND FORM's CARD OF 'orchestratorlaw06.PathLenses'. -/
def pathLensesUptoCard : Claim7 := { stood := { row := pathLensesUptoRow, standIns := [], harness := (true, "d16ebde989410397a35c887dd6c0a1febcfd4bbe07152322ffc6618538e9f010"), looks := true }, kinds := [], alts := [], laidByText := true, laidKinds := [.data, .data, .data], laidTests := true, laidLooks := .later }
def PathLensesUptoCardSaid : Prop := Claim7.holds Tryz.pinned (.plain (OpenSpec.upto pathLensesSpec)) pathLensesUptoCard

/-- THE SECOND FORM's CARD OF 'orchestratorlaw06.PathRemoves'. -/
def pathRemovesUptoCard : Claim7 := { stood := { row := pathRemovesUptoRow, standIns := [], harness := (true, "d16ebde989410397a35c887dd6c0a1febcfd4bbe07152322ffc6618538e9f010"), looks := true }, kinds := [], alts := [], laidByText := true, laidKinds := [.data, .data, .data], laidTests := true, laidLooks := .later }
def PathRemovesUptoCardSaid : Prop := Claim7.holds Tryz.pinned (.plain (OpenSpec.upto pathRemovesSpec)) pathRemovesUptoCard
end Rows
end Go.Proofs.YtjpmnlefjmdelaaGreatDoor
