/-
  DERIVED. GIVEN WITH THE SEED: THE CARDS: each row of YtjpmnlefjmdelaaDoorRows.lean that lists a variable, with what it lists TIED to the program's text (the seventh form; the later family's looks); each row that meets fmt, with fmt's text TOLD by the authors' own Lean function (tested against real Go, not proved from fmt's source: count such statements apart). THE CARD IS WHAT COUNTS. Prove the row's statement (the work); the ties are given (YtjpmnlefjmdelaaDoorTie.lean); close each card by the builder's one call (the guide's Derived/Test/ToyasCard.lean, 'card_holds'). Laid BY PROGRAM, IN A SANDBOX (cutbox-door.mjs). By AI agents, Wed Nov 11 2026. No macro, syntax, notation, axiom, sorry.
-/
import Derived.Test.YtjpmnlefjmdelaaDoorRows
import GoSem.ClaimSeven
namespace Go.Proofs.YtjpmnlefjmdelaaDoor
namespace Rows

/-- THE TIED CARD OF 'orchestratorlaw05.JsonFirst'. -/
def jsonFirstCard : Claim7 := { stood := { row := jsonFirstRow, standIns := [], harness := (true, "333c82d8a68d9d7a26c4681b413c3b3ca172d430791be2b5a1a5dc0ff686f2ba"), looks := true }, kinds := [], alts := [], laidByText := true, laidKinds := [.data, .data, .data], laidTests := true, laidLooks := .later }
def JsonFirstCardSaid : Prop := Claim7.holds Tryd.pinned (.plain (OpenSpec.ofChange jsonFirstSpec)) jsonFirstCard

/-- THE TIED CARD OF 'orchestratorlaw06.PathRoundTrip'. -/
def pathRoundTripCard : Claim7 := { stood := { row := pathRoundTripRow, standIns := [], harness := (true, "333c82d8a68d9d7a26c4681b413c3b3ca172d430791be2b5a1a5dc0ff686f2ba"), looks := true }, kinds := [], alts := [], laidByText := true, laidKinds := [.data, .data, .data], laidTests := true, laidLooks := .later }
def PathRoundTripCardSaid : Prop := Claim7.holds Tryd.pinned (.plain (OpenSpec.ofChange pathRoundTripSpec)) pathRoundTripCard

/-- THE SECOND FORM's CARD OF 'orchestratorlaw05.JsonFirst'. -/
def jsonFirstUptoCard : Claim7 := { stood := { row := jsonFirstUptoRow, standIns := [], harness := (true, "333c82d8a68d9d7a26c4681b413c3b3ca172d430791be2b5a1a5dc0ff686f2ba"), looks := true }, kinds := [], alts := [], laidByText := true, laidKinds := [.data, .data, .data], laidTests := true, laidLooks := .later }
def JsonFirstUptoCardSaid : Prop := Claim7.holds Tryd.pinned (.plain (OpenSpec.upto jsonFirstSpec)) jsonFirstUptoCard

/-- THE SECOND FORM's CARD OF 'orchestratorlaw06.PathRoundTrip'. -/
def pathRoundTripUptoCard : Claim7 := { stood := { row := pathRoundTripUptoRow, standIns := [], harness := (true, "333c82d8a68d9d7a26c4681b413c3b3ca172d430791be2b5a1a5dc0ff686f2ba"), looks := true }, kinds := [], alts := [], laidByText := true, laidKinds := [.data, .data, .data], laidTests := true, laidLooks := .later }
def PathRoundTripUptoCardSaid : Prop := Claim7.holds Tryd.pinned (.plain (OpenSpec.upto pathRoundTripSpec)) pathRoundTripUptoCard
end Rows
end Go.Proofs.YtjpmnlefjmdelaaDoor
