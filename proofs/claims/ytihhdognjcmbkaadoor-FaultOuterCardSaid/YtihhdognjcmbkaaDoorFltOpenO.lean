/- What the row's condition on four variables of the library gives: FaultOuter. -/
import Derived.Test.YtihhdognjcmbkaaDoorFltIn
import Derived.Test.YtihhdognjcmbkaaDoorFltOutW
import Derived.Lib.LaidTab
import Derived.Stop.LaidErr
namespace Go.Proofs.YtihhdognjcmbkaaDoor
open Go.ChangeShapes Go.WideShapes Go.ChangeAt Go.RowKit
open Go.Proofs.YtihhdognjcmbkaaDoor.Flt

def plain3 : List (String × DataW Unit) := [("math/bits.deBruijn32tab", Rows.laid_math_bits_deBruijn32tab), ("math/bits.deBruijn64tab", Rows.laid_math_bits_deBruijn64tab), ("internal/strconv.uint64pow10", Rows.laid_internal_strconv_uint64pow10)]
def laid1 : List (String × DataW Unit) := [("math/bits.deBruijn32tab", Rows.laid_math_bits_deBruijn32tab), ("math/bits.deBruijn64tab", Rows.laid_math_bits_deBruijn64tab), ("internal/strconv.uint64pow10", Rows.laid_internal_strconv_uint64pow10), ("errors.errorType", Rows.laid_errors_errorType)]
theorem tTab : (Tryd.prog.globals[1]?).map (·.type) = some 93 := by kernel_rfl
theorem cellsTab : Tryd.prog.cellsOf 93 = 20 := by kernel_rfl
theorem cellsU64 : Tryd.prog.cellsOf 86 = 1 := by kernel_rfl
theorem of_laid {W : World} (h : laidMetH Tryd.prog laid1 W) : ETab W ∧ PTab W := by
  have h' : laidMet Tryd.prog plain3 W ∧ handlesMet Tryd.prog [("errors.errorType", Rows.laid_errors_errorType)] W := h
  exact ⟨of_handle h'.2, Lib.tabIs_of_head gPow tTab Tryd.underlying93 Tryd.underlying86 cellsU64 cellsTab h'.1.tail.tail⟩
/-- A world that meets the condition. -/
noncomputable def laidW (os : Os) : World := (handleW os).layVars Tryd.prog plain3
theorem laid1_met (os : Os) (args : Array Value) : laidMetH Tryd.prog laid1 ((laidW os).forCall (fun _ _ => 0) ⟨#[], args, []⟩).memory := by
  refine laidMetH_of_parts ?_ (by kernel_rfl)
  show laidMet Tryd.prog plain3 _
  have h : laidMet Tryd.prog plain3 (laidW os) := laidMet_layVars (w0 := handleW os) (plain3.map (·.1)) [] (by rfl) (by kernel_rfl) (by kernel_rfl) (by exact LaidIn.none)
  exact h.of_heap (by simp [World.memory, World.forCall, Input.heap])
theorem outer_b (e : Int) (he : (Lit.int .i16 e).wf = true) (a : Option Addr) (n c : Nat) (zs : List Int) (w : World) (hT : ETab w ∧ PTab w) (hz : R32 w a n zs) :
    Calls Tryd.prog 6 #[.int .i16 e, .slice a n c] w fun r w' => r = .returned (.bool true) ∧ Below w.heap.size w w' := walk_outer e (i16_in he).1 (i16_in he).2 a n c zs w hT.1 hT.2 hz
end Go.Proofs.YtihhdognjcmbkaaDoor
