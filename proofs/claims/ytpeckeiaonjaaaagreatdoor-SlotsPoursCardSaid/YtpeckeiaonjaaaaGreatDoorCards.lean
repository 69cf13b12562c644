/-
  DERIVED. GIVEN WITH THE SEED: THE CARDS: each row of YtpeckeiaonjaaaaGreatDoorRows.lean that lists a variable, with what it lists TIED to the program's text (the seventh form; the later family's looks); each row that meets fmt, with fmt's text TOLD by the authors' own Lean function (tested against real Go, not proved from fmt's source: count such statements apart). THE CARD IS WHAT COUNTS. Prove the row's statement (the work); the ties are given (YtpeckeiaonjaaaaGreatDoorTie.lean); close each card by the builder's one call (the guide's Derived/Test/ToyasCard.lean, 'card_holds'). Laid BY PROGRAM, IN A SANDBOX (cutbox-door.mjs). By AI agents, Wed Nov 11 2026. No macro, syntax, notation, axiom, sorry.
-/
import Derived.Test.YtpeckeiaonjaaaaGreatDoorRows
import GoSem.ClaimSeven
namespace Go.Proofs.YtpeckeiaonjaaaaGreatDoor
namespace Rows

/-- THE TIED CARD OF 'errandlaw06.SlotsPours'. -/
def slotsPoursCard : Claim7 := { stood := { row := slotsPoursRow, standIns := [], harness := (true, "e53886b7b09c425f067b8ebae6120d66ce1c0200bd9771afc0bd6495b2ea7748"), looks := false }, kinds := [], alts := [], laidByText := true, laidKinds := [.data, .data, .pinned], laidTests := true, laidLooks := .later }
def SlotsPoursCardSaid : Prop := Claim7.holds Tryz.pinned (.plain (OpenSpec.ofChange slotsPoursSpec)) slotsPoursCard

/-- THE TIED CARD OF 'errandlaw06.SlotsLoads'. -/
def slotsLoadsCard : Claim7 := { stood := { row := slotsLoadsRow, standIns := [], harness := (true, "e53886b7b09c425f067b8ebae6120d66ce1c0200bd9771afc0bd6495b2ea7748"), looks := false }, kinds := [], alts := [], laidByText := true, laidKinds := [.data, .data, .pinned], laidTests := true, laidLooks := .later }
def SlotsLoadsCardSaid : Prop := Claim7.holds Tryz.pinned (.plain (OpenSpec.ofChange slotsLoadsSpec)) slotsLoadsCard

/-- THE TIED CARD OF 'errandlaw06.SlotsCrash'. -/
def slotsCrashCard : Claim7 := { stood := { row := slotsCrashRow, standIns := [], harness := (true, "e53886b7b09c425f067b8ebae6120d66ce1c0200bd9771afc0bd6495b2ea7748"), looks := false }, kinds := [], alts := [], laidByText := true, laidKinds := [.data, .data, .pinned], laidTests := true, laidLooks := .later }
def SlotsCrashCardSaid : Prop := Claim7.holds Tryz.pinned (.plain (OpenSpec.ofChange slotsCrashSpec)) slotsCrashCard

/-- THE SECOND FORM's CARD OF 'errandlaw06.SlotsPours'. -/
def slotsPoursUptoCard : Claim7 := { stood := { row := slotsPoursUptoRow, standIns := [], harness := (true, "e53886b7b09c425f067b8ebae6120d66ce1c0200bd9771afc0bd6495b2ea7748"), looks := false }, kinds := [], alts := [], laidByText := true, laidKinds := [.data, .data, .pinned], laidTests := true, laidLooks := .later }
def SlotsPoursUptoCardSaid : Prop := Claim7.holds Tryz.pinned (.plain (OpenSpec.upto slotsPoursSpec)) slotsPoursUptoCard

/-- THE SECOND FORM's CARD OF 'errandlaw06.SlotsLoads'. -/
def slotsLoadsUptoCard : Claim7 := { stood := { row := slotsLoadsUptoRow, standIns := [], harness := (true, "e53886b7b09c425f067b8ebae6120d66ce1c0200bd9771afc0bd6495b2ea7748"), looks := false }, kinds := [], alts := [], laidByText := true, laidKinds := [.data, .data, .pinned], laidTests := true, laidLooks := .later }
def SlotsLoadsUptoCardSaid : Prop := Claim7.holds Tryz.pinned (.plain (OpenSpec.upto slotsLoadsSpec)) slotsLoadsUptoCard

/-- THE SECOND FORM's CARD OF 'errandlaw06.SlotsCrash'. -/
def slotsCrashUptoCard : Claim7 := { stood := { row := slotsCrashUptoRow, standIns := [], harness := (true, "e53886b7b09c425f067b8ebae6120d66ce1c0200bd9771afc0bd6495b2ea7748"), looks := false }, kinds := [], alts := [], laidByText := true, laidKinds := [.data, .data, .pinned], laidTests := true, laidLooks := .later }
def SlotsCrashUptoCardSaid : Prop := Claim7.holds Tryz.pinned (.plain (OpenSpec.upto slotsCrashSpec)) slotsCrashUptoCard
end Rows
end Go.Proofs.YtpeckeiaonjaaaaGreatDoor
