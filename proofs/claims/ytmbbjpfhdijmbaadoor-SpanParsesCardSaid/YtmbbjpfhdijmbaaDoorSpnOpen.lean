/- What the rows' condition on the tables gives; numbers and texts that came in. -/
import Derived.Test.YtmbbjpfhdijmbaaDoorSpnBackW
import Derived.Test.YtmbbjpfhdijmbaaDoorRows
import Derived.ProofKit
import Derived.LaidMore
import Derived.Lay
import Derived.Lib.LaidTab
import Derived.OpenShut
import Derived.Stop.Joined
import Derived.Stop.LaidErr
namespace Go.Proofs.YtmbbjpfhdijmbaaDoor
open Go.ChangeShapes Go.WideShapes Go.ChangeAt Go.RowKit

theorem own : ownKnob Tryd.prog.godebug = none := by kernel_rfl
theorem laidOut : laidOutB Tryd.prog = true := by kernel_rfl
def laid1 : List (String × DataW Unit) := [("math/bits.deBruijn32tab", Rows.laid_math_bits_deBruijn32tab), ("math/bits.deBruijn64tab", Rows.laid_math_bits_deBruijn64tab), ("internal/strconv.uint64pow10", Rows.laid_internal_strconv_uint64pow10), ("strconv.ErrRange", Rows.laid_strconv_ErrRange), ("strconv.ErrSyntax", Rows.laid_strconv_ErrSyntax)]
theorem laid1_met (os : Os) (args : Array Value) : laidMetH Tryd.prog laid1 ((World.laidAll Tryd.prog os laid1).forCall (fun _ _ => 0) ⟨#[], args, []⟩).memory := by
  rw [MakeChecks.laidMetH_plain _ _ _ (by kernel_rfl)]
  exact laidMet_laidAll _ (by kernel_rfl) (by kernel_rfl)
theorem tTab : (Tryd.prog.globals[2]?).map (·.type) = some 90 := by kernel_rfl
theorem cellsTab : Tryd.prog.cellsOf 90 = 20 := by kernel_rfl
theorem cells37 : Tryd.prog.cellsOf 37 = 1 := by kernel_rfl

theorem of_laid {W : World} (h : laidMetH Tryd.prog laid1 W) : Spn.PTab W := by
  rw [MakeChecks.laidMetH_plain _ _ _ (by kernel_rfl)] at h
  exact Lib.tabIs_of_head Spn.gPow tTab Tryd.underlying90 Tryd.underlying37 cells37 cellsTab h.tail.tail

theorem u64_lo {x : Int} (h : (Lit.int .u64 x).wf = true) : 0 ≤ x := by
  simp [Lit.wf, IntKind.min, IntKind.max, IntKind.signed, IntKind.bits] at h
  omega
theorem i32_in {x : Int} (h : (Lit.int .i32 x).wf = true) : -2147483648 ≤ x ∧ x ≤ 2147483647 := by
  simp [Lit.wf, IntKind.min, IntKind.max, IntKind.signed, IntKind.bits] at h
  omega
theorem parses_b (s t : ByteArray) (w : World) (hT : Spn.PTab w) : Calls Tryd.prog 3 #[.string s, .string t] w fun r w' => r = .returned (.bool true) ∧ Below w.heap.size w w' := Spn.walk_parses s t w hT
theorem tells_b (n sec off : Int) (w : World) (hT : Spn.PTab w) : Calls Tryd.prog 4 #[.int .i64 n, .int .i64 sec, .int .i64 off] w fun r w' => r = .returned (.bool true) ∧ Below w.heap.size w w' := Spn.walk_tells n sec off w hT
theorem back_b (n off : Int) (s : ByteArray) (w : World) (hT : Spn.PTab w) : Calls Tryd.prog 5 #[.int .i64 n, .int .i32 off, .string s] w fun r w' => r = .returned (.bool true) ∧ Below w.heap.size w w' := Spn.walk_back n off s w hT
theorem adds_b (sec a b : Int) (hs : (Lit.int .u64 sec).wf = true) (ha : (Lit.int .i32 a).wf = true) (hb : (Lit.int .i32 b).wf = true) (w : World) (hT : Spn.PTab w) : Calls Tryd.prog 6 #[.int .u64 sec, .int .i32 a, .int .i32 b] w fun r w' => r = .returned (.bool true) ∧ Below w.heap.size w w' := Spn.walk_adds sec a b (u64_lo hs) (i32_in ha).1 (i32_in ha).2 (i32_in hb).1 (i32_in hb).2 w hT
end Go.Proofs.YtmbbjpfhdijmbaaDoor
