/- What the rows' condition on the table gives; numbers that came in. -/
import Derived.Test.YtldpnidegicmeaaDoorWeekFourW
import Derived.ProofKit
import Derived.LaidMore
import Derived.Lay
import Derived.Lib.LaidTab
import Derived.OpenShut
import Derived.Stop.Joined
namespace Go.Proofs.YtldpnidegicmeaaDoor
open Go.ChangeShapes Go.WideShapes Go.ChangeAt Go.RowKit

theorem own : ownKnob Tryd.prog.godebug = none := by kernel_rfl
theorem laidOut : laidOutB Tryd.prog = true := by kernel_rfl
def laid1 : List (String × DataW Unit) := [("errand/civil.daysAhead", Rows.laid_errand_civil_daysAhead)]
theorem gTab : Tryd.prog.globalNamed "errand/civil.daysAhead" = some 0 := by kernel_rfl
theorem laid1_met (os : Os) (args : Array Value) : laidMetH Tryd.prog laid1 ((World.laidAll Tryd.prog os laid1).forCall (fun _ _ => 0) ⟨#[], args, []⟩).memory := by
  rw [MakeChecks.laidMetH_plain _ _ _ (by kernel_rfl)]
  exact laidMet_laidAll _ (by kernel_rfl) (by kernel_rfl)
theorem tTab : (Tryd.prog.globals[0]?).map (·.type) = some 41 := by kernel_rfl
theorem cells12 : Tryd.prog.cellsOf 41 = 13 := by kernel_rfl
theorem cells3 : Tryd.prog.cellsOf 3 = 1 := by kernel_rfl

theorem of_laid {W : World} (h : laidMetH Tryd.prog laid1 W) : Civ.CTab W := by
  rw [MakeChecks.laidMetH_plain _ _ _ (by kernel_rfl)] at h
  have hT : Lib.TabIs Tryd.prog W "errand/civil.daysAhead" .i64 Civ.tabC :=
    Lib.tabIs_of_head gTab tTab Tryd.underlying41 Tryd.underlying3 cells3 cells12 h
  intro i hi
  exact hT.cell gTab i (by simpa [Civ.tabC] using hi)

theorem tells_b (n x : Int) (w : World) (hT : Civ.CTab w) : Calls Tryd.prog 3 #[.int .i64 n, .int .i64 x] w fun r w' => r = .returned (.bool true) ∧ Below w.heap.size w w' :=
  (Wk.walk_tells n x w hT).mono fun _ _ h => ⟨h.1, h.2 ▸ Below.refl _ _⟩
theorem years_b (y x : Int) (w : World) (hT : Civ.CTab w) : Calls Tryd.prog 4 #[.int .i64 y, .int .i64 x] w fun r w' => r = .returned (.bool true) ∧ Below w.heap.size w w' :=
  (Wk.walk_years y x w hT).mono fun _ _ h => ⟨h.1, h.2 ▸ Below.refl _ _⟩
theorem goes_b (k a : Int) (hk : (Lit.int .u32 k).wf = true) (ha : (Lit.int .u8 a).wf = true) (w : World) (hT : Civ.CTab w) : Calls Tryd.prog 5 #[.int .u32 k, .int .u8 a] w fun r w' => r = .returned (.bool true) ∧ Below w.heap.size w w' := by
  simp [Lit.wf, IntKind.min, IntKind.max, IntKind.signed, IntKind.bits] at hk ha
  exact (Wk.walk_goes k a (by omega) (by omega) (by omega) w hT).mono fun _ _ h => ⟨h.1, h.2 ▸ Below.refl _ _⟩
theorem four_b (y a n : Int) (hy : (Lit.int .u16 y).wf = true) (ha : (Lit.int .u8 a).wf = true) (hn : (Lit.int .u16 n).wf = true) (w : World) (hT : Civ.CTab w) : Calls Tryd.prog 6 #[.int .u16 y, .int .u8 a, .int .u16 n] w fun r w' => r = .returned (.bool true) ∧ Below w.heap.size w w' := by
  simp [Lit.wf, IntKind.min, IntKind.max, IntKind.signed, IntKind.bits] at hy ha hn
  exact (Wk.walk_four y a n (by omega) (by omega) (by omega) (by omega) (by omega) w hT).mono fun _ _ h => ⟨h.1, h.2 ▸ Below.refl _ _⟩
end Go.Proofs.YtldpnidegicmeaaDoor
