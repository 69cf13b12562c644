/- Texts that came in. -/
import Derived.Test.YtndbgdapojkfaaaGreatDoorTxt
import Derived.Test.YtndbgdapojkfaaaGreatDoorOpn
namespace Go.Proofs.YtndbgdapojkfaaaGreatDoor.Txt
open Go.ChangeShapes Go.WideShapes Go.ChangeAt Go.RowKit Go.Proofs.YtndbgdapojkfaaaGreatDoor.Tre Go.Proofs.YtndbgdapojkfaaaGreatDoor.Opn
section
variable {H : Type} {enc : TypeId × Value → H} {w : World} {base : Nat} {spare : Nat → Bool} {held : Bool}
theorem maxLen_le : maxLen ≤ 9223372036854775807 := by decide
theorem cS : Tryz.prog.cellsOf 9 = 1 := by kernel_rfl
theorem reads_texts : Reads enc Tryz.prog w base spare held 44 (fun ts : List ByteArray => [txD ts]) (fun ts => ts.length ≤ maxLen ∧ ∀ s ∈ ts, s.size ≤ maxLen) := reads_slice Tryz.underlying44 cS (by omega) (fun _ => rfl) (reads_string Tryz.underlying9)
set_option maxRecDepth 100000 in
/-- A slice of texts that came in. -/
theorem open_texts {r : Reach} {b0 : Nat} {v : Value} {d : DataW H} {p : List MemPlace} (hv : Value.okWide Tryz.prog w r b0 44 v) (h : DataW.Trod enc Tryz.prog w base spare held 44 v d p) :
    ∃ (a : Option Addr) (c : Nat) (ts : List ByteArray), v = .slice a ts.length c ∧ Rd w (txD ts) (.slice a ts.length c) ∧ ts.length ≤ 9223372036854775807 := by
  obtain ⟨ts, hok, hr⟩ := arg_slice (D := fun ts : List ByteArray => txD ts) Tryz.underlying44 (fun _ => rfl) reads_texts hv h
  obtain ⟨a, c, rfl⟩ := sl_of hr
  exact ⟨a, c, ts, rfl, hr, Nat.le_trans hok.1 maxLen_le⟩
end
end Go.Proofs.YtndbgdapojkfaaaGreatDoor.Txt
