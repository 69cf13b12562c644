/-
  DERIVED. GIVEN WITH THE SEED: THE CARDS: each row of YtndbgdapojkfaaaGreatDoorRows.lean that lists a variable, with what it lists TIED to the program's text (the seventh form; the later family's looks); each row that meets fmt, with fmt's text TOLD by the authors' own Lean function (tested against real Go, not proved from fmt's source: count such statements apart). THE CARD IS WHAT COUNTS. Prove the row's statement (the work); the ties are given (YtndbgdapojkfaaaGreatDoorTie.lean); close each card by the builder's one call (the guide's Derived/Test/ToyasCard.lean, 'card_holds'). Laid BY PROGRAM, IN A SANDBOX (cutbox-door.mjs). By AI agents, Wed Nov 11 2026. No macro, syntax, notation, axiom, sorry.
-/
import Derived.Test.YtndbgdapojkfaaaGreatDoorRows
import GoSem.ClaimSeven
namespace Go.Proofs.YtndbgdapojkfaaaGreatDoor
namespace Rows

/-- THE TIED CARD OF 'errandlaw17.ParamParses'. -/
def paramParsesCard : Claim7 := { stood := { row := paramParsesRow, standIns := [], harness := (true, "d348cfa1dcbee653a892da44c3e7d54bd380681e96a3a71d7943346be2772cf5"), looks := true }, kinds := [], alts := [], laidByText := true, laidKinds := [.data, .handle, .pinned], laidTests := true, laidLooks := .later }
def ParamParsesCardSaid : Prop := Claim7.holds Tryz.pinned (.plain (OpenSpec.ofChange paramParsesSpec)) paramParsesCard

/-- THE TIED CARD OF 'errandlaw17.ParamTells'. -/
def paramTellsCard : Claim7 := { stood := { row := paramTellsRow, standIns := [], harness := (true, "d348cfa1dcbee653a892da44c3e7d54bd380681e96a3a71d7943346be2772cf5"), looks := true }, kinds := [], alts := [], laidByText := true, laidKinds := [.data, .handle, .pinned], laidTests := true, laidLooks := .later }
def ParamTellsCardSaid : Prop := Claim7.holds Tryz.pinned (.plain (OpenSpec.ofChange paramTellsSpec)) paramTellsCard

/-- THE TIED CARD OF 'errandlaw17.ParamBack'. -/
def paramBackCard : Claim7 := { stood := { row := paramBackRow, standIns := [], harness := (true, "d348cfa1dcbee653a892da44c3e7d54bd380681e96a3a71d7943346be2772cf5"), looks := true }, kinds := [], alts := [], laidByText := true, laidKinds := [.data, .handle, .pinned], laidTests := true, laidLooks := .later }
def ParamBackCardSaid : Prop := Claim7.holds Tryz.pinned (.plain (OpenSpec.ofChange paramBackSpec)) paramBackCard

/-- THE TIED CARD OF 'errandlaw17.ParamStops'. -/
def paramStopsCard : Claim7 := { stood := { row := paramStopsRow, standIns := [], harness := (true, "d348cfa1dcbee653a892da44c3e7d54bd380681e96a3a71d7943346be2772cf5"), looks := true }, kinds := [], alts := [], laidByText := true, laidKinds := [.data, .handle, .pinned], laidTests := true, laidLooks := .later }
def ParamStopsCardSaid : Prop := Claim7.holds Tryz.pinned (.plain (OpenSpec.ofChange paramStopsSpec)) paramStopsCard

/-- THE SECOND FORM's CARD OF 'errandlaw17.ParamParses'. -/
def paramParsesUptoCard : Claim7 := { stood := { row := paramParsesUptoRow, standIns := [], harness := (true, "d348cfa1dcbee653a892da44c3e7d54bd380681e96a3a71d7943346be2772cf5"), looks := true }, kinds := [], alts := [], laidByText := true, laidKinds := [.data, .handle, .pinned], laidTests := true, laidLooks := .later }
def ParamParsesUptoCardSaid : Prop := Claim7.holds Tryz.pinned (.plain (OpenSpec.upto paramParsesSpec)) paramParsesUptoCard

/-- THE SECOND FORM's CARD OF 'errandlaw17.ParamTells'. -/
def paramTellsUptoCard : Claim7 := { stood := { row := paramTellsUptoRow, standIns := [], harness := (true, "d348cfa1dcbee653a892da44c3e7d54bd380681e96a3a71d7943346be2772cf5"), looks := true }, kinds := [], alts := [], laidByText := true, laidKinds := [.data, .handle, .pinned], laidTests := true, laidLooks := .later }
def ParamTellsUptoCardSaid : Prop := Claim7.holds Tryz.pinned (.plain (OpenSpec.upto paramTellsSpec)) paramTellsUptoCard

/-- THE SECOND FORM's CARD OF 'errandlaw17.ParamBack'. -/
def paramBackUptoCard : Claim7 := { stood := { row := paramBackUptoRow, standIns := [], harness := (true, "d348cfa1dcbee653a892da44c3e7d54bd380681e96a3a71d7943346be2772cf5"), looks := true }, kinds := [], alts := [], laidByText := true, laidKinds := [.data, .handle, .pinned], laidTests := true, laidLooks := .later }
def ParamBackUptoCardSaid : Prop := Claim7.holds Tryz.pinned (.plain (OpenSpec.upto paramBackSpec)) paramBackUptoCard

/-- THE SECOND FORM's CARD OF 'errandlaw17.ParamStops'. -/
def paramStopsUptoCard : Claim7 := { stood := { row := paramStopsUptoRow, standIns := [], harness := (true, "d348cfa1dcbee653a892da44c3e7d54bd380681e96a3a71d7943346be2772cf5"), looks := true }, kinds := [], alts := [], laidByText := true, laidKinds := [.data, .handle, .pinned], laidTests := true, laidLooks := .later }
def ParamStopsUptoCardSaid : Prop := Claim7.holds Tryz.pinned (.plain (OpenSpec.upto paramStopsSpec)) paramStopsUptoCard
end Rows
end Go.Proofs.YtndbgdapojkfaaaGreatDoor
