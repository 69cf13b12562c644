/- The laws of stage 14 over what comes in. -/
import Derived.Test.YtbdeenhpbjkmpaaUtfUpW
import Derived.Test.YtbdeenhpbjkmpaaRows
import Derived.ProofKit
namespace Go.Proofs.Ytbdeenhpbjkmpaa
open Go.RowKit

theorem u8_in {x : Int} (h : (Lit.int .u8 x).wf = true) : 0 ≤ x ∧ x ≤ 255 := by
  simp [Lit.wf, IntKind.min, IntKind.max, IntKind.signed, IntKind.bits] at h
  omega
theorem tells_b (s : ByteArray) (w : World) : Calls Try.prog 3 #[.string s] w fun r w' => r = .returned (.bool true) ∧ Below w.heap.size w w' := Utf.walk_tells s w
theorem cuts_b (s : ByteArray) (n : Int) (w : World) : Calls Try.prog 4 #[.string s, .int .i64 n] w fun r w' => r = .returned (.bool true) ∧ Below w.heap.size w w' := Utf.walk_cuts s n w
theorem parts_b (s : ByteArray) (n : Int) (hn : (Lit.int .u8 n).wf = true) (w : World) : Calls Try.prog 5 #[.string s, .int .u8 n] w fun r w' => r = .returned (.bool true) ∧ Below w.heap.size w w' := Utf.walk_parts s n (u8_in hn).1 (u8_in hn).2 w
theorem upper_b (s : ByteArray) (w : World) : Calls Try.prog 6 #[.string s] w fun r w' => r = .returned (.bool true) ∧ Below w.heap.size w w' := Utf.walk_upper s w
end Go.Proofs.Ytbdeenhpbjkmpaa
