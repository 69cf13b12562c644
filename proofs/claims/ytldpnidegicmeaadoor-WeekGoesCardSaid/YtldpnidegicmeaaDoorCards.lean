/-
  DERIVED. GIVEN WITH THE SEED: THE CARDS: each row of YtldpnidegicmeaaDoorRows.lean that lists a variable, with what it lists TIED to the program's text (the seventh form; the later family's looks); each row that meets fmt, with fmt's text TOLD by the authors' own Lean function (tested against real Go, not proved from fmt's source: count such statements apart). THE CARD IS WHAT COUNTS. Prove the row's statement (the work); the ties are given (YtldpnidegicmeaaDoorTie.lean); close each card by the builder's one call (the guide's Derived/Test/ToyasCard.lean, 'card_holds'). Laid BY PROGRAM, IN A SANDBOX (cutbox-door.mjs). By AI agents, Wed Nov 11 2026. No macro, syntax, notation, axiom, sorry.
-/
import Derived.Test.YtldpnidegicmeaaDoorRows
import GoSem.ClaimSeven
namespace Go.Proofs.YtldpnidegicmeaaDoor
namespace Rows

/-- THE TIED CARD OF 'errandlaw10.WeekTells'. -/
def weekTellsCard : Claim7 := { stood := { row := weekTellsRow, standIns := [], harness := (true, "f0fe11c41a091d6c98852f60dbcf2f5e16dec79e579a5f10ba2c1914015eda00"), looks := false }, kinds := [], alts := [], laidByText := true, laidKinds := [.data], laidTests := true, laidLooks := .later }
def WeekTellsCardSaid : Prop := Claim7.holds Tryd.pinned (.plain (OpenSpec.ofChange weekTellsSpec)) weekTellsCard

/-- THE TIED CARD OF 'errandlaw10.WeekYears'. -/
def weekYearsCard : Claim7 := { stood := { row := weekYearsRow, standIns := [], harness := (true, "f0fe11c41a091d6c98852f60dbcf2f5e16dec79e579a5f10ba2c1914015eda00"), looks := false }, kinds := [], alts := [], laidByText := true, laidKinds := [.data], laidTests := true, laidLooks := .later }
def WeekYearsCardSaid : Prop := Claim7.holds Tryd.pinned (.plain (OpenSpec.ofChange weekYearsSpec)) weekYearsCard

/-- THE TIED CARD OF 'errandlaw10.WeekGoes'. -/
def weekGoesCard : Claim7 := { stood := { row := weekGoesRow, standIns := [], harness := (true, "f0fe11c41a091d6c98852f60dbcf2f5e16dec79e579a5f10ba2c1914015eda00"), looks := false }, kinds := [], alts := [], laidByText := true, laidKinds := [.data], laidTests := true, laidLooks := .later }
def WeekGoesCardSaid : Prop := Claim7.holds Tryd.pinned (.plain (OpenSpec.ofChange weekGoesSpec)) weekGoesCard

/-- THE TIED CARD OF 'errandlaw10.WeekFour'. -/
def weekFourCard : Claim7 := { stood := { row := weekFourRow, standIns := [], harness := (true, "f0fe11c41a091d6c98852f60dbcf2f5e16dec79e579a5f10ba2c1914015eda00"), looks := false }, kinds := [], alts := [], laidByText := true, laidKinds := [.data], laidTests := true, laidLooks := .later }
def WeekFourCardSaid : Prop := Claim7.holds Tryd.pinned (.plain (OpenSpec.ofChange weekFourSpec)) weekFourCard

/-- THE SECOND FORM's CARD OF 'errandlaw10.WeekTells'. -/
def weekTellsUptoCard : Claim7 := { stood := { row := weekTellsUptoRow, standIns := [], harness := (true, "f0fe11c41a091d6c98852f60dbcf2f5e16dec79e579a5f10ba2c1914015eda00"), looks := false }, kinds := [], alts := [], laidByText := true, laidKinds := [.data], laidTests := true, laidLooks := .later }
def WeekTellsUptoCardSaid : Prop := Claim7.holds Tryd.pinned (.plain (OpenSpec.upto weekTellsSpec)) weekTellsUptoCard

/-- THE SECOND FORM's CARD OF 'errandlaw10.WeekYears'. -/
def weekYearsUptoCard : Claim7 := { stood := { row := weekYearsUptoRow, standIns := [], harness := (true, "f0fe11c41a091d6c98852f60dbcf2f5e16dec79e579a5f10ba2c1914015eda00"), looks := false }, kinds := [], alts := [], laidByText := true, laidKinds := [.data], laidTests := true, laidLooks := .later }
def WeekYearsUptoCardSaid : Prop := Claim7.holds Tryd.pinned (.plain (OpenSpec.upto weekYearsSpec)) weekYearsUptoCard

/-- THE SECOND FORM's CARD OF 'errandlaw10.WeekGoes'. -/
def weekGoesUptoCard : Claim7 := { stood := { row := weekGoesUptoRow, standIns := [], harness := (true, "f0fe11c41a091d6c98852f60dbcf2f5e16dec79e579a5f10ba2c1914015eda00"), looks := false }, kinds := [], alts := [], laidByText := true, laidKinds := [.data], laidTests := true, laidLooks := .later }
def WeekGoesUptoCardSaid : Prop := Claim7.holds Tryd.pinned (.plain (OpenSpec.upto weekGoesSpec)) weekGoesUptoCard

/-- THE SECOND FORM's CARD OF 'errandlaw10.WeekFour'. -/
def weekFourUptoCard : Claim7 := { stood := { row := weekFourUptoRow, standIns := [], harness := (true, "f0fe11c41a091d6c98852f60dbcf2f5e16dec79e579a5f10ba2c1914015eda00"), looks := false }, kinds := [], alts := [], laidByText := true, laidKinds := [.data], laidTests := true, laidLooks := .later }
def WeekFourUptoCardSaid : Prop := Claim7.holds Tryd.pinned (.plain (OpenSpec.upto weekFourSpec)) weekFourUptoCard
end Rows
end Go.Proofs.YtldpnidegicmeaaDoor
