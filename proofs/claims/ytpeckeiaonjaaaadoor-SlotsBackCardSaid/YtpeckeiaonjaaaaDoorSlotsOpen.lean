/- Arguments opened to cells: slices of texts; and what the rows' condition on the tables gives. -/
import Derived.Test.YtpeckeiaonjaaaaDoorCrcP
import Derived.Test.YtpeckeiaonjaaaaDoorDskA
import Derived.Test.YtpeckeiaonjaaaaDoorSlotsSmall
import Derived.Deep.Slices
import Derived.Deep.Fields
import Derived.Deep.Strs
import Derived.ChangeSame
import Derived.ProofKit
import Derived.OpenShut
import Derived.ShutString
import Derived.ChangeOld
import Derived.Lib.SmallJoins
import Derived.LaidMore
import Derived.Lay
import Derived.Lib.LaidTab
import Derived.Stop.Joined
import Derived.SliceStrings
namespace Go.Proofs.YtpeckeiaonjaaaaDoor
open Go.ChangeShapes Go.WideShapes Go.ChangeAt Go.RowKit Go.Deep
open Go.Proofs.YtpeckeiaonjaaaaDoor.Dsk (RV SV SV_length rv_of)
open Go.Proofs.YtpeckeiaonjaaaaDoor.Crc (Tab tab)

theorem own : ownKnob Tryd.prog.godebug = none := by kernel_rfl
theorem laidOut : laidOutB Tryd.prog = true := by kernel_rfl
def laid1 : List (String × DataW Unit) := [("errand/crc.fourSteps", Rows.laid_errand_crc_fourSteps), ("unicode/utf8.acceptRanges", Rows.laid_unicode_utf8_acceptRanges), ("unicode/utf8.first", Rows.laid_unicode_utf8_first)]
theorem gTab : Tryd.prog.globalNamed "errand/crc.fourSteps" = some 1 := by kernel_rfl

theorem laid1_met (os : Os) (args : Array Value) : laidMetH Tryd.prog laid1 ((World.laidAll Tryd.prog os laid1).forCall (fun _ _ => 0) ⟨#[], args, []⟩).memory := by
  rw [MakeChecks.laidMetH_plain _ _ _ (by kernel_rfl)]
  exact laidMet_laidAll _ (by kernel_rfl) (by kernel_rfl)

theorem tTab : (Tryd.prog.globals[1]?).map (·.type) = some 147 := by kernel_rfl
theorem cells66 : Tryd.prog.cellsOf 98 = 1 := by kernel_rfl
theorem cells128 : Tryd.prog.cellsOf 147 = 16 := by kernel_rfl

theorem of_laid {W : World} (h : laidMetH Tryd.prog laid1 W) : Tab W := by
  rw [MakeChecks.laidMetH_plain _ _ _ (by kernel_rfl)] at h
  have hT : Lib.TabIs Tryd.prog W "errand/crc.fourSteps" .u32 (tab.map Int.ofNat) :=
    Lib.tabIs_of_head gTab tTab Tryd.underlying147 Tryd.underlying98 cells66 cells128 h
  intro i hi
  have := hT.cell gTab i (by simpa [tab] using hi)
  rw [this]
  have e : (tab.map Int.ofNat).getD i 0 = ((tab.getD i 0 : Nat) : Int) := by
    simp only [List.getD, List.getElem?_map]
    cases tab[i]? <;> rfl
  rw [e]

section
variable {H : Type} {enc : TypeId × Value → H} {w : World} {base : Nat} {spare : Nat → Bool} {held : Bool}

set_option maxRecDepth 100000 in
/-- A slice of texts that came in. -/
theorem open_texts {b0 : Nat} {v : Value} {d : DataW H} {p : List MemPlace} (hv : Value.okWide Tryd.prog w .any b0 22 v) (h : DataW.Trod enc Tryd.prog w base spare held 22 v d p) :
    ∃ (A : Option Addr) (m c : Nat) (S : List ByteArray), v = .slice A m c ∧ RV w A m 1 (SV S) ∧ m ≤ c ∧ c ≤ maxLen := by
  obtain ⟨A, m, c, rfl⟩ := okWide_slice Tryd.underlying22 hv
  obtain ⟨fuel, hf⟩ := h
  rcases open_strings Tryd.underlying22 Tryd.underlying9 (by kernel_rfl) hf with ⟨hcs, _⟩ | ⟨x, l, c', zs, hcs, _, hl, hm, hz, hlz, hcell, hwz⟩
  · simp [Value.cells] at hcs
    obtain ⟨rfl, rfl, rfl⟩ := hcs
    exact ⟨none, 0, 0, [], rfl, RV.nil _ _ _, Nat.le_refl _, Nat.zero_le _⟩
  · simp [Value.cells] at hcs
    obtain ⟨rfl, rfl, rfl⟩ := hcs
    have hzl : m ≤ zs.length := by rw [hz]; split <;> omega
    refine ⟨some x, m, c, zs.take m, rfl, rv_of (by omega) (by rw [SV_length, List.length_take]; omega) (fun i hi => ?_), hl, hm⟩
    have hi2 : i < m := by rw [SV_length, List.length_take] at hi; omega
    rw [hcell i (by omega)]
    simp only [SV, List.getElem_map, List.getElem_take]
    simp [List.getElem?_eq_getElem (show i < zs.length by omega)]

end
theorem u8_nat {z : Int} (h : (Lit.int .u8 z).wf = true) : ∃ n : Nat, n < 256 ∧ z = (n : Nat) := by
  obtain ⟨h1, h2⟩ := bounds_u8 h
  exact ⟨z.toNat, by omega, by omega⟩

end Go.Proofs.YtpeckeiaonjaaaaDoor
