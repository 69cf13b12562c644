/- Two words for memory that all template sets use. -/
import Derived.Test.YtaafkkmcpedeaaaRows
import Derived.WalkKit
import Derived.Below
namespace Go.Proofs.Ytaafkkmcpedeaaa
open Go.RowKit

theorem _root_.Go.RowKit.Below.push {a w : World} (h : Below a.heap.size a w) (o : Obj) : Below a.heap.size a (w.alloc o) := h.alloc h.size o
theorem _root_.Go.RowKit.Below.call {a w w' : World} (h : Below a.heap.size a w) (hb : Below w.heap.size w w') : Below a.heap.size a w' := h.trans (hb.mono h.size)

end Go.Proofs.Ytaafkkmcpedeaaa
