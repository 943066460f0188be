/-
  DERIVED. GIVEN WITH THE SEED: THE CARDS: each row of YtfohhokdcobhjaaDoorRows.lean that lists a variable, with what it lists TIED to the program's text (the seventh form; the later family's looks); each row that meets fmt, with fmt's text TOLD by the authors' own Lean function (tested against real Go, not proved from fmt's source: count such statements apart). THE CARD IS WHAT COUNTS. Prove the row's statement (the work); the ties are given (YtfohhokdcobhjaaDoorTie.lean); close each card by the builder's one call (the guide's Derived/Test/ToyasCard.lean, 'card_holds'). Laid BY PROGRAM, IN A SANDBOX (cutbox-door.mjs). By AI agents, Wed Nov 11 2026. No macro, syntax, notation, axiom, sorry.
-/
import Derived.Test.YtfohhokdcobhjaaDoorRows
import GoSem.ClaimSeven
namespace Go.Proofs.YtfohhokdcobhjaaDoor
namespace Rows

/-- THE TIED CARD OF 'orchestratorlaw03.LabelValid'. -/
def labelValidCard : Claim7 := { stood := { row := labelValidRow, standIns := [], harness := (true, "cbd462ece40ae44722e8d75bf3745d58769fb7de52c3c55b947395577482a8ce"), looks := false }, kinds := [], alts := [], laidByText := true, laidKinds := [.data, .pinned], laidTests := true, laidLooks := .later }
def LabelValidCardSaid : Prop := Claim7.holds Tryd.pinned (.plain (OpenSpec.ofChange labelValidSpec)) labelValidCard

/-- THE TIED CARD OF 'orchestratorlaw03.LabelLookup'. -/
def labelLookupCard : Claim7 := { stood := { row := labelLookupRow, standIns := [], harness := (true, "cbd462ece40ae44722e8d75bf3745d58769fb7de52c3c55b947395577482a8ce"), looks := false }, kinds := [], alts := [], laidByText := true, laidKinds := [.data, .pinned], laidTests := true, laidLooks := .later }
def LabelLookupCardSaid : Prop := Claim7.holds Tryd.pinned (.plain (OpenSpec.ofChange labelLookupSpec)) labelLookupCard

/-- THE TIED CARD OF 'orchestratorlaw03.LabelMatches'. -/
def labelMatchesCard : Claim7 := { stood := { row := labelMatchesRow, standIns := [], harness := (true, "cbd462ece40ae44722e8d75bf3745d58769fb7de52c3c55b947395577482a8ce"), looks := false }, kinds := [], alts := [], laidByText := true, laidKinds := [.data, .pinned], laidTests := true, laidLooks := .later }
def LabelMatchesCardSaid : Prop := Claim7.holds Tryd.pinned (.plain (OpenSpec.ofChange labelMatchesSpec)) labelMatchesCard

/-- THE TIED CARD OF 'orchestratorlaw03.LabelParses'. -/
def labelParsesCard : Claim7 := { stood := { row := labelParsesRow, standIns := [], harness := (true, "cbd462ece40ae44722e8d75bf3745d58769fb7de52c3c55b947395577482a8ce"), looks := false }, kinds := [], alts := [], laidByText := true, laidKinds := [.data, .pinned], laidTests := true, laidLooks := .later }
def LabelParsesCardSaid : Prop := Claim7.holds Tryd.pinned (.plain (OpenSpec.ofChange labelParsesSpec)) labelParsesCard

/-- THE TIED CARD OF 'orchestratorlaw03.LabelPrints'. -/
def labelPrintsCard : Claim7 := { stood := { row := labelPrintsRow, standIns := [], harness := (true, "cbd462ece40ae44722e8d75bf3745d58769fb7de52c3c55b947395577482a8ce"), looks := false }, kinds := [], alts := [], laidByText := true, laidKinds := [.data, .pinned], laidTests := true, laidLooks := .later }
def LabelPrintsCardSaid : Prop := Claim7.holds Tryd.pinned (.plain (OpenSpec.ofChange labelPrintsSpec)) labelPrintsCard

/-- THE TIED CARD OF 'orchestratorlaw03.LabelRoundTrip'. -/
def labelRoundTripCard : Claim7 := { stood := { row := labelRoundTripRow, standIns := [], harness := (true, "cbd462ece40ae44722e8d75bf3745d58769fb7de52c3c55b947395577482a8ce"), looks := false }, kinds := [], alts := [], laidByText := true, laidKinds := [.data, .pinned], laidTests := true, laidLooks := .later }
def LabelRoundTripCardSaid : Prop := Claim7.holds Tryd.pinned (.plain (OpenSpec.ofChange labelRoundTripSpec)) labelRoundTripCard

/-- THE TIED CARD OF 'orchestratorlaw03.LabelEdits'. -/
def labelEditsCard : Claim7 := { stood := { row := labelEditsRow, standIns := [], harness := (true, "cbd462ece40ae44722e8d75bf3745d58769fb7de52c3c55b947395577482a8ce"), looks := false }, kinds := [], alts := [], laidByText := true, laidKinds := [.data, .pinned], laidTests := true, laidLooks := .later }
def LabelEditsCardSaid : Prop := Claim7.holds Tryd.pinned (.plain (OpenSpec.ofChange labelEditsSpec)) labelEditsCard

/-- THE TIED CARD OF 'orchestratorlaw03.LabelNarrows'. -/
def labelNarrowsCard : Claim7 := { stood := { row := labelNarrowsRow, standIns := [], harness := (true, "cbd462ece40ae44722e8d75bf3745d58769fb7de52c3c55b947395577482a8ce"), looks := false }, kinds := [], alts := [], laidByText := true, laidKinds := [.data, .pinned], laidTests := true, laidLooks := .later }
def LabelNarrowsCardSaid : Prop := Claim7.holds Tryd.pinned (.plain (OpenSpec.ofChange labelNarrowsSpec)) labelNarrowsCard

/-- THE SECOND FORM's CARD OF 'orchestratorlaw03.LabelValid'. -/
def labelValidUptoCard : Claim7 := { stood := { row := labelValidUptoRow, standIns := [], harness := (true, "cbd462ece40ae44722e8d75bf3745d58769fb7de52c3c55b947395577482a8ce"), looks := false }, kinds := [], alts := [], laidByText := true, laidKinds := [.data, .pinned], laidTests := true, laidLooks := .later }
def LabelValidUptoCardSaid : Prop := Claim7.holds Tryd.pinned (.plain (OpenSpec.upto labelValidSpec)) labelValidUptoCard

/-- THE SECOND FORM's CARD OF 'orchestratorlaw03.LabelLookup'. -/
def labelLookupUptoCard : Claim7 := { stood := { row := labelLookupUptoRow, standIns := [], harness := (true, "cbd462ece40ae44722e8d75bf3745d58769fb7de52c3c55b947395577482a8ce"), looks := false }, kinds := [], alts := [], laidByText := true, laidKinds := [.data, .pinned], laidTests := true, laidLooks := .later }
def LabelLookupUptoCardSaid : Prop := Claim7.holds Tryd.pinned (.plain (OpenSpec.upto labelLookupSpec)) labelLookupUptoCard

/-- THE SECOND FORM's CARD OF 'orchestratorlaw03.LabelMatches'. -/
def labelMatchesUptoCard : Claim7 := { stood := { row := labelMatchesUptoRow, standIns := [], harness := (true, "cbd462ece40ae44722e8d75bf3745d58769fb7de52c3c55b947395577482a8ce"), looks := false }, kinds := [], alts := [], laidByText := true, laidKinds := [.data, .pinned], laidTests := true, laidLooks := .later }
def LabelMatchesUptoCardSaid : Prop := Claim7.holds Tryd.pinned (.plain (OpenSpec.upto labelMatchesSpec)) labelMatchesUptoCard

/-- THE SECOND FORM's CARD OF 'orchestratorlaw03.LabelParses'. -/
def labelParsesUptoCard : Claim7 := { stood := { row := labelParsesUptoRow, standIns := [], harness := (true, "cbd462ece40ae44722e8d75bf3745d58769fb7de52c3c55b947395577482a8ce"), looks := false }, kinds := [], alts := [], laidByText := true, laidKinds := [.data, .pinned], laidTests := true, laidLooks := .later }
def LabelParsesUptoCardSaid : Prop := Claim7.holds Tryd.pinned (.plain (OpenSpec.upto labelParsesSpec)) labelParsesUptoCard

/-- THE SECOND FORM's CARD OF 'orchestratorlaw03.LabelPrints'. -/
def labelPrintsUptoCard : Claim7 := { stood := { row := labelPrintsUptoRow, standIns := [], harness := (true, "cbd462ece40ae44722e8d75bf3745d58769fb7de52c3c55b947395577482a8ce"), looks := false }, kinds := [], alts := [], laidByText := true, laidKinds := [.data, .pinned], laidTests := true, laidLooks := .later }
def LabelPrintsUptoCardSaid : Prop := Claim7.holds Tryd.pinned (.plain (OpenSpec.upto labelPrintsSpec)) labelPrintsUptoCard

/-- THE SECOND FORM's CARD OF 'orchestratorlaw03.LabelRoundTrip'. -/
def labelRoundTripUptoCard : Claim7 := { stood := { row := labelRoundTripUptoRow, standIns := [], harness := (true, "cbd462ece40ae44722e8d75bf3745d58769fb7de52c3c55b947395577482a8ce"), looks := false }, kinds := [], alts := [], laidByText := true, laidKinds := [.data, .pinned], laidTests := true, laidLooks := .later }
def LabelRoundTripUptoCardSaid : Prop := Claim7.holds Tryd.pinned (.plain (OpenSpec.upto labelRoundTripSpec)) labelRoundTripUptoCard

/-- THE SECOND FORM's CARD OF 'orchestratorlaw03.LabelEdits'. -/
def labelEditsUptoCard : Claim7 := { stood := { row := labelEditsUptoRow, standIns := [], harness := (true, "cbd462ece40ae44722e8d75bf3745d58769fb7de52c3c55b947395577482a8ce"), looks := false }, kinds := [], alts := [], laidByText := true, laidKinds := [.data, .pinned], laidTests := true, laidLooks := .later }
def LabelEditsUptoCardSaid : Prop := Claim7.holds Tryd.pinned (.plain (OpenSpec.upto labelEditsSpec)) labelEditsUptoCard

/-- THE SECOND FORM's CARD OF 'orchestratorlaw03.LabelNarrows'. -/
def labelNarrowsUptoCard : Claim7 := { stood := { row := labelNarrowsUptoRow, standIns := [], harness := (true, "cbd462ece40ae44722e8d75bf3745d58769fb7de52c3c55b947395577482a8ce"), looks := false }, kinds := [], alts := [], laidByText := true, laidKinds := [.data, .pinned], laidTests := true, laidLooks := .later }
def LabelNarrowsUptoCardSaid : Prop := Claim7.holds Tryd.pinned (.plain (OpenSpec.upto labelNarrowsSpec)) labelNarrowsUptoCard
end Rows
end Go.Proofs.YtfohhokdcobhjaaDoor
