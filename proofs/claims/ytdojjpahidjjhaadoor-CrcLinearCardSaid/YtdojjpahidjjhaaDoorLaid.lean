/- What the rows' condition on the table gives: its sixteen cells read as they are laid. -/
import Derived.Test.YtdojjpahidjjhaaDoorOver
import Derived.ProofKit
import Derived.LaidMore
import Derived.Lib.LaidTab
import Derived.OpenShut
import Derived.Stop.Joined
namespace Go.Proofs.YtdojjpahidjjhaaDoor
open Go.ChangeShapes Go.WideShapes Go.ChangeAt Go.RowKit

theorem own : ownKnob Tryd.prog.godebug = none := by kernel_rfl
def laid1 : List (String × DataW Unit) := [("errand/crc.fourSteps", Rows.laid_errand_crc_fourSteps)]
theorem gTab : Tryd.prog.globalNamed "errand/crc.fourSteps" = some 0 := by kernel_rfl
theorem tTab : (Tryd.prog.globals[0]?).map (·.type) = some 37 := by kernel_rfl
theorem cells22 : Tryd.prog.cellsOf 22 = 1 := by kernel_rfl
theorem cells37 : Tryd.prog.cellsOf 37 = 16 := by kernel_rfl

theorem door_met (os : Os) (args : Array Value) : laidMetH Tryd.prog laid1 ((World.doorLaid Tryd.prog 400 os).forCall (fun _ _ => 0) ⟨#[], args, []⟩).memory :=
  laidMetH_of_parts3 (fuel := 8) (laidMet_of_run' 8 (by kernel_rfl) (by kernel_rfl)) (by kernel_rfl) (by kernel_rfl)

theorem cell_lt {w : World} {b o : Nat} {v : Value} (h : w.cell? ⟨b, o, none⟩ = some v) : b < w.heap.size := by
  by_cases hb : b < w.heap.size
  · exact hb
  · exfalso
    simp [World.cell?, Array.getElem?_eq_none (show w.heap.size ≤ b by omega)] at h

theorem of_laid {W : World} (h : laidMetH Tryd.prog laid1 W) : Tab W ∧ 0 < W.heap.size := by
  rw [MakeChecks.laidMetH_plain _ _ _ (by kernel_rfl)] at h
  have hT : Lib.TabIs Tryd.prog W "errand/crc.fourSteps" .u32 (tab.map Int.ofNat) :=
    Lib.tabIs_of_head gTab tTab Tryd.underlying37 Tryd.underlying22 cells22 cells37 h
  have hc : Tab W := by
    intro i hi
    have := hT.cell gTab i (by simpa [tab] using hi)
    rw [this]
    have e : (tab.map Int.ofNat).getD i 0 = ((tab.getD i 0 : Nat) : Int) := by
      simp only [List.getD, List.getElem?_map]
      cases tab[i]? <;> rfl
    rw [e]
  exact ⟨hc, cell_lt (hc 0 (by omega))⟩

theorem uv_of {a : Int} (h : (Lit.int .u32 a).wf = true) : ∃ c : BitVec 32, a = uv c := by
  simp [Lit.wf, IntKind.min, IntKind.max, IntKind.signed, IntKind.bits] at h
  refine ⟨BitVec.ofNat 32 a.toNat, ?_⟩
  unfold uv
  rw [BitVec.toNat_ofNat, Nat.mod_eq_of_lt (by omega)]
  omega

end Go.Proofs.YtdojjpahidjjhaaDoor
