/- Contracts of slices.Equal at []string and []Write, and of Same of package disk. -/
import Derived.Test.YtpeckeiaonjaaaaGreatDoorDskA
import Derived.Deep.QuietTactic
import Derived.BigQuiet
namespace Go.Proofs.YtpeckeiaonjaaaaGreatDoor.Dsk
open Go.RowKit

theorem below_n {B : Nat} {a w : World} (h : Below B a w) (n : Nat) : Below B a (w.drewN n) := ⟨h.os, h.tape, h.output, h.size, h.block⟩
theorem str_ne {s t : ByteArray} (h : ¬ s = t) : (s.toList == t.toList) = false := by
  rw [Bool.eq_false_iff]
  intro e
  have e2 := eq_of_beq e
  rw [ByteArray.toList_eq, ByteArray.toList_eq] at e2
  exact h (ByteArray.ext (Array.toList_inj.1 e2))
theorem str_eq (s : ByteArray) : (s.toList == s.toList) = true := by simp
theorem ret_bool {a b : Bool} (h : a = b) : Ending.returned (.bool a) = .returned (.bool b) := by rw [h]

theorem wr_eq (x y : Wr) : x = y ↔ x.1 = y.1 ∧ x.2 = y.2 := Prod.ext_iff

end Go.Proofs.YtpeckeiaonjaaaaGreatDoor.Dsk
