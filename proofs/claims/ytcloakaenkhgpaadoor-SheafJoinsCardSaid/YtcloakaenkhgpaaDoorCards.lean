/-
  DERIVED. GIVEN WITH THE SEED: THE CARDS: each row of YtcloakaenkhgpaaDoorRows.lean that lists a variable, with what it lists TIED to the program's text (the seventh form; the later family's looks); each row that meets fmt, with fmt's text TOLD by the authors' own Lean function (tested against real Go, not proved from fmt's source: count such statements apart). THE CARD IS WHAT COUNTS. Prove the row's statement (the work); the ties are given (YtcloakaenkhgpaaDoorTie.lean); close each card by the builder's one call (the guide's Derived/Test/ToyasCard.lean, 'card_holds'). Laid BY PROGRAM, IN A SANDBOX (cutbox-door.mjs). By AI agents, Wed Nov 11 2026. No macro, syntax, notation, axiom, sorry.
-/
import Derived.Test.YtcloakaenkhgpaaDoorRows
import GoSem.ClaimSeven
namespace Go.Proofs.YtcloakaenkhgpaaDoor
namespace Rows

/-- THE TIED CARD OF 'errandlaw05.SheafLays'. -/
def sheafLaysCard : Claim7 := { stood := { row := sheafLaysRow, standIns := [], harness := (true, "880fa263dcea9f4f3ec0600ca6097dcd4004cfa5845b1aa88aaf3c64bff913e2"), looks := false }, kinds := [], alts := [], laidByText := true, laidKinds := [.data, .data, .pinned], laidTests := true, laidLooks := .later }
def SheafLaysCardSaid : Prop := Claim7.holds Tryd.pinned (.plain (OpenSpec.ofChange sheafLaysSpec)) sheafLaysCard

/-- THE TIED CARD OF 'errandlaw05.SheafJoins'. -/
def sheafJoinsCard : Claim7 := { stood := { row := sheafJoinsRow, standIns := [], harness := (true, "880fa263dcea9f4f3ec0600ca6097dcd4004cfa5845b1aa88aaf3c64bff913e2"), looks := false }, kinds := [], alts := [], laidByText := true, laidKinds := [.data, .data, .pinned], laidTests := true, laidLooks := .later }
def SheafJoinsCardSaid : Prop := Claim7.holds Tryd.pinned (.plain (OpenSpec.ofChange sheafJoinsSpec)) sheafJoinsCard

/-- THE TIED CARD OF 'errandlaw05.SheafBack'. -/
def sheafBackCard : Claim7 := { stood := { row := sheafBackRow, standIns := [], harness := (true, "880fa263dcea9f4f3ec0600ca6097dcd4004cfa5845b1aa88aaf3c64bff913e2"), looks := false }, kinds := [], alts := [], laidByText := true, laidKinds := [.data, .data, .pinned], laidTests := true, laidLooks := .later }
def SheafBackCardSaid : Prop := Claim7.holds Tryd.pinned (.plain (OpenSpec.ofChange sheafBackSpec)) sheafBackCard

/-- THE TIED CARD OF 'errandlaw05.SheafTurned'. -/
def sheafTurnedCard : Claim7 := { stood := { row := sheafTurnedRow, standIns := [], harness := (true, "880fa263dcea9f4f3ec0600ca6097dcd4004cfa5845b1aa88aaf3c64bff913e2"), looks := false }, kinds := [], alts := [], laidByText := true, laidKinds := [.data, .data, .pinned], laidTests := true, laidLooks := .later }
def SheafTurnedCardSaid : Prop := Claim7.holds Tryd.pinned (.plain (OpenSpec.ofChange sheafTurnedSpec)) sheafTurnedCard

/-- THE SECOND FORM's CARD OF 'errandlaw05.SheafLays'. -/
def sheafLaysUptoCard : Claim7 := { stood := { row := sheafLaysUptoRow, standIns := [], harness := (true, "880fa263dcea9f4f3ec0600ca6097dcd4004cfa5845b1aa88aaf3c64bff913e2"), looks := false }, kinds := [], alts := [], laidByText := true, laidKinds := [.data, .data, .pinned], laidTests := true, laidLooks := .later }
def SheafLaysUptoCardSaid : Prop := Claim7.holds Tryd.pinned (.plain (OpenSpec.upto sheafLaysSpec)) sheafLaysUptoCard

/-- THE SECOND FORM's CARD OF 'errandlaw05.SheafJoins'. -/
def sheafJoinsUptoCard : Claim7 := { stood := { row := sheafJoinsUptoRow, standIns := [], harness := (true, "880fa263dcea9f4f3ec0600ca6097dcd4004cfa5845b1aa88aaf3c64bff913e2"), looks := false }, kinds := [], alts := [], laidByText := true, laidKinds := [.data, .data, .pinned], laidTests := true, laidLooks := .later }
def SheafJoinsUptoCardSaid : Prop := Claim7.holds Tryd.pinned (.plain (OpenSpec.upto sheafJoinsSpec)) sheafJoinsUptoCard

/-- THE SECOND FORM's CARD OF 'errandlaw05.SheafBack'. -/
def sheafBackUptoCard : Claim7 := { stood := { row := sheafBackUptoRow, standIns := [], harness := (true, "880fa263dcea9f4f3ec0600ca6097dcd4004cfa5845b1aa88aaf3c64bff913e2"), looks := false }, kinds := [], alts := [], laidByText := true, laidKinds := [.data, .data, .pinned], laidTests := true, laidLooks := .later }
def SheafBackUptoCardSaid : Prop := Claim7.holds Tryd.pinned (.plain (OpenSpec.upto sheafBackSpec)) sheafBackUptoCard

/-- THE SECOND FORM's CARD OF 'errandlaw05.SheafTurned'. -/
def sheafTurnedUptoCard : Claim7 := { stood := { row := sheafTurnedUptoRow, standIns := [], harness := (true, "880fa263dcea9f4f3ec0600ca6097dcd4004cfa5845b1aa88aaf3c64bff913e2"), looks := false }, kinds := [], alts := [], laidByText := true, laidKinds := [.data, .data, .pinned], laidTests := true, laidLooks := .later }
def SheafTurnedUptoCardSaid : Prop := Claim7.holds Tryd.pinned (.plain (OpenSpec.upto sheafTurnedSpec)) sheafTurnedUptoCard
end Rows
end Go.Proofs.YtcloakaenkhgpaaDoor
