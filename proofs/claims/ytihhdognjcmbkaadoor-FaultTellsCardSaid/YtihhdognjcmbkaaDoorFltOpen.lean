/- What the rows' condition on the library's variable gives: three laws. -/
import Derived.Test.YtihhdognjcmbkaaDoorFltIn
import Derived.Test.YtihhdognjcmbkaaDoorFltTelW
namespace Go.Proofs.YtihhdognjcmbkaaDoor
open Go.ChangeShapes Go.WideShapes Go.ChangeAt Go.RowKit
open Go.Proofs.YtihhdognjcmbkaaDoor.Flt

def laid1 : List (String × DataW Unit) := [("errors.errorType", Rows.laid_errors_errorType)]
theorem of_laid {W : World} (h : laidMetH Tryd.prog laid1 W) : ETab W := by
  have h' : laidMet Tryd.prog [] W ∧ handlesMet Tryd.prog laid1 W := h
  exact of_handle h'.2
noncomputable def laidW (os : Os) : World := handleW os
theorem laid1_met (os : Os) (args : Array Value) : laidMetH Tryd.prog laid1 ((laidW os).forCall (fun _ _ => 0) ⟨#[], args, []⟩).memory :=
  laidMetH_of_parts (laidMet_nil _ _) (by kernel_rfl)

theorem tells_b (e : Int) (he : (Lit.int .i16 e).wf = true) (a : Option Addr) (n c : Nat) (zs : List Int) (w : World) (hT : ETab w) (hz : R32 w a n zs) :
    Calls Tryd.prog 3 #[.int .i16 e, .slice a n c] w fun r w' => r = .returned (.bool true) ∧ Below w.heap.size w w' := walk_tells e (i16_in he).1 (i16_in he).2 a n c zs w hT hz
theorem is_b (e k : Int) (he : (Lit.int .i16 e).wf = true) (hk : (Lit.int .i16 k).wf = true) (a : Option Addr) (n c : Nat) (zs : List Int) (w : World) (hT : ETab w) (hz : R32 w a n zs) :
    Calls Tryd.prog 4 #[.int .i16 e, .int .i16 k, .slice a n c] w fun r w' => r = .returned (.bool true) ∧ Below w.heap.size w w' := walk_is e k (i16_in he).1 (i16_in he).2 (i16_in hk).1 (i16_in hk).2 a n c zs w hT hz
theorem wraps_b (e k : Int) (he : (Lit.int .i16 e).wf = true) (hk : (Lit.int .i16 k).wf = true) (a : Option Addr) (n c : Nat) (zs : List Int) (w : World) (hT : ETab w) (hz : R32 w a n zs) :
    Calls Tryd.prog 5 #[.int .i16 e, .int .i16 k, .slice a n c] w fun r w' => r = .returned (.bool true) ∧ Below w.heap.size w w' := walk_wraps e k (i16_in he).1 (i16_in he).2 (i16_in hk).1 (i16_in hk).2 a n c zs w hT hz
end Go.Proofs.YtihhdognjcmbkaaDoor
