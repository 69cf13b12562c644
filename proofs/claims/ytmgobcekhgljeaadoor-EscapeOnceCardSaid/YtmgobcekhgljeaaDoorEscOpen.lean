/- The laws of stage 16 over what comes in. -/
import Derived.Test.YtmgobcekhgljeaaDoorEscOnce
import Derived.Test.YtmgobcekhgljeaaDoorHdl
import Derived.Test.YtmgobcekhgljeaaDoorTxtOpen
namespace Go.Proofs.YtmgobcekhgljeaaDoor
open Go.ChangeShapes Go.WideShapes Go.ChangeAt Go.RowKit
open Go.Proofs.YtmgobcekhgljeaaDoor.Flt Go.Proofs.YtmgobcekhgljeaaDoor.Tre Go.Proofs.YtmgobcekhgljeaaDoor.Txt
theorem tells_b (a : Option Addr) (c : Nat) (ts : List ByteArray) (w : World) (hT : ETab w) (h : Rd w (txD ts) (.slice a ts.length c)) (hm : ts.length ≤ 9223372036854775807) : Calls Tryd.prog 3 #[.slice a ts.length c] w fun r w' => r = .returned (.bool true) ∧ Below w.heap.size w w' := Esc.walk_tells ts a c w hT h hm
theorem reads_b (s : ByteArray) (w : World) (hT : ETab w) : Calls Tryd.prog 4 #[.string s] w fun r w' => r = .returned (.bool true) ∧ Below w.heap.size w w' := Esc.walk_reads s w hT
theorem back_b (a : Option Addr) (c : Nat) (ts : List ByteArray) (w : World) (hT : ETab w) (h : Rd w (txD ts) (.slice a ts.length c)) (hm : ts.length ≤ 9223372036854775807) : Calls Tryd.prog 5 #[.slice a ts.length c] w fun r w' => r = .returned (.bool true) ∧ Below w.heap.size w w' := Esc.walk_back ts a c w hT h hm
theorem once_b (s : ByteArray) (w : World) (hT : ETab w) : Calls Tryd.prog 6 #[.string s] w fun r w' => r = .returned (.bool true) ∧ Below w.heap.size w w' := Esc.walk_once s w hT
end Go.Proofs.YtmgobcekhgljeaaDoor
