/-
  DERIVED. GIVEN WITH THE SEED: THE CARDS: each row of YtihhdognjcmbkaaDoorRows.lean that lists a variable, with what it lists TIED to the program's text (the seventh form; the later family's looks); each row that meets fmt, with fmt's text TOLD by the authors' own Lean function (tested against real Go, not proved from fmt's source: count such statements apart). THE CARD IS WHAT COUNTS. Prove the row's statement (the work); the ties are given (YtihhdognjcmbkaaDoorTie.lean); close each card by the builder's one call (the guide's Derived/Test/ToyasCard.lean, 'card_holds'). Laid BY PROGRAM, IN A SANDBOX (cutbox-door.mjs). By AI agents, Wed Nov 11 2026. No macro, syntax, notation, axiom, sorry.
-/
import Derived.Test.YtihhdognjcmbkaaDoorRows
import GoSem.ClaimSeven
namespace Go.Proofs.YtihhdognjcmbkaaDoor
namespace Rows

/-- THE TIED CARD OF 'errandlaw13.FaultTells'. -/
def faultTellsCard : Claim7 := { stood := { row := faultTellsRow, standIns := [], harness := (true, "47f54ad356f9fcf2c19c23f25f7eab48e8a16359aa4edd9f5ebefa3c1bb17bd7"), looks := true }, kinds := [], alts := [], laidByText := true, laidKinds := [.handle], laidTests := true, laidLooks := .later }
def FaultTellsCardSaid : Prop := Claim7.holds Tryd.pinned (.plain (OpenSpec.ofChange faultTellsSpec)) faultTellsCard

/-- THE TIED CARD OF 'errandlaw13.FaultIs'. -/
def faultIsCard : Claim7 := { stood := { row := faultIsRow, standIns := [], harness := (true, "47f54ad356f9fcf2c19c23f25f7eab48e8a16359aa4edd9f5ebefa3c1bb17bd7"), looks := true }, kinds := [], alts := [], laidByText := true, laidKinds := [.handle], laidTests := true, laidLooks := .later }
def FaultIsCardSaid : Prop := Claim7.holds Tryd.pinned (.plain (OpenSpec.ofChange faultIsSpec)) faultIsCard

/-- THE TIED CARD OF 'errandlaw13.FaultWraps'. -/
def faultWrapsCard : Claim7 := { stood := { row := faultWrapsRow, standIns := [], harness := (true, "47f54ad356f9fcf2c19c23f25f7eab48e8a16359aa4edd9f5ebefa3c1bb17bd7"), looks := true }, kinds := [], alts := [], laidByText := true, laidKinds := [.handle], laidTests := true, laidLooks := .later }
def FaultWrapsCardSaid : Prop := Claim7.holds Tryd.pinned (.plain (OpenSpec.ofChange faultWrapsSpec)) faultWrapsCard

/-- THE TIED CARD OF 'errandlaw13.FaultOuter'. -/
def faultOuterCard : Claim7 := { stood := { row := faultOuterRow, standIns := [], harness := (true, "47f54ad356f9fcf2c19c23f25f7eab48e8a16359aa4edd9f5ebefa3c1bb17bd7"), looks := true }, kinds := [], alts := [], laidByText := true, laidKinds := [.data, .data, .data, .handle], laidTests := true, laidLooks := .later }
def FaultOuterCardSaid : Prop := Claim7.holds Tryd.pinned (.plain (OpenSpec.ofChange faultOuterSpec)) faultOuterCard

/-- THE SECOND FORM's CARD OF 'errandlaw13.FaultTells'. -/
def faultTellsUptoCard : Claim7 := { stood := { row := faultTellsUptoRow, standIns := [], harness := (true, "47f54ad356f9fcf2c19c23f25f7eab48e8a16359aa4edd9f5ebefa3c1bb17bd7"), looks := true }, kinds := [], alts := [], laidByText := true, laidKinds := [.handle], laidTests := true, laidLooks := .later }
def FaultTellsUptoCardSaid : Prop := Claim7.holds Tryd.pinned (.plain (OpenSpec.upto faultTellsSpec)) faultTellsUptoCard

/-- THE SECOND FORM's CARD OF 'errandlaw13.FaultIs'. -/
def faultIsUptoCard : Claim7 := { stood := { row := faultIsUptoRow, standIns := [], harness := (true, "47f54ad356f9fcf2c19c23f25f7eab48e8a16359aa4edd9f5ebefa3c1bb17bd7"), looks := true }, kinds := [], alts := [], laidByText := true, laidKinds := [.handle], laidTests := true, laidLooks := .later }
def FaultIsUptoCardSaid : Prop := Claim7.holds Tryd.pinned (.plain (OpenSpec.upto faultIsSpec)) faultIsUptoCard

/-- THE SECOND FORM's CARD OF 'errandlaw13.FaultWraps'. -/
def faultWrapsUptoCard : Claim7 := { stood := { row := faultWrapsUptoRow, standIns := [], harness := (true, "47f54ad356f9fcf2c19c23f25f7eab48e8a16359aa4edd9f5ebefa3c1bb17bd7"), looks := true }, kinds := [], alts := [], laidByText := true, laidKinds := [.handle], laidTests := true, laidLooks := .later }
def FaultWrapsUptoCardSaid : Prop := Claim7.holds Tryd.pinned (.plain (OpenSpec.upto faultWrapsSpec)) faultWrapsUptoCard

/-- THE SECOND FORM's CARD OF 'errandlaw13.FaultOuter'. -/
def faultOuterUptoCard : Claim7 := { stood := { row := faultOuterUptoRow, standIns := [], harness := (true, "47f54ad356f9fcf2c19c23f25f7eab48e8a16359aa4edd9f5ebefa3c1bb17bd7"), looks := true }, kinds := [], alts := [], laidByText := true, laidKinds := [.data, .data, .data, .handle], laidTests := true, laidLooks := .later }
def FaultOuterUptoCardSaid : Prop := Claim7.holds Tryd.pinned (.plain (OpenSpec.upto faultOuterSpec)) faultOuterUptoCard
end Rows
end Go.Proofs.YtihhdognjcmbkaaDoor
