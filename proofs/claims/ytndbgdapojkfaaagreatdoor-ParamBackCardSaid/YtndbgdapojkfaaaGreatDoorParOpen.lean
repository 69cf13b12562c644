/- The laws of stage 17 over what comes in. -/
import Derived.Test.YtndbgdapojkfaaaGreatDoorParLawA
import Derived.Test.YtndbgdapojkfaaaGreatDoorParLawB
import Derived.Test.YtndbgdapojkfaaaGreatDoorParTelW
import Derived.Test.YtndbgdapojkfaaaGreatDoorHdl
import Derived.Test.YtndbgdapojkfaaaGreatDoorTxtOpen
import Derived.Test.YtndbgdapojkfaaaGreatDoorParIn
namespace Go.Proofs.YtndbgdapojkfaaaGreatDoor
open Go.ChangeShapes Go.WideShapes Go.ChangeAt Go.RowKit
open Go.Proofs.YtndbgdapojkfaaaGreatDoor.Flt Go.Proofs.YtndbgdapojkfaaaGreatDoor.Byt Go.Proofs.YtndbgdapojkfaaaGreatDoor.Tre Go.Proofs.YtndbgdapojkfaaaGreatDoor.Txt Go.Proofs.YtndbgdapojkfaaaGreatDoor.Par Go.Proofs.YtndbgdapojkfaaaGreatDoor.Opn
section
variable {H : Type} {enc : TypeId × Value → H} {w : World} {base : Nat} {spare : Nat → Bool} {held : Bool}
set_option maxRecDepth 100000 in
/-- An array of two slices of parameters that came in. -/
theorem open_both {r : Reach} {b0 : Nat} {v : Value} {d : DataW H} {p : List MemPlace} (hv : Value.okWide Tryz.prog w r b0 37 v) (h : DataW.Trod enc Tryz.prog w base spare held 37 v d p) :
    ∃ (a : Option Addr) (c : Nat) (ps : List PP) (b : Option Addr) (e : Nat) (qs : List PP), v = .agg #[.slice a ps.length c, .slice b qs.length e] ∧ ((ps.length : Int) ≤ c ∧ (qs.length : Int) ≤ e) ∧ Rd w (psD 49 ps) (.slice a ps.length c) ∧ Rd w (psD 49 qs) (.slice b qs.length e) := by
  obtain ⟨cs, rfl, hsz, _⟩ : ∃ cs, v = .agg cs ∧ cs.size = Tryz.prog.cellsOf 37 ∧ Row.okWide Tryz.prog w r b0 37 cs := by
    simpa [Value.okWide, Tryz.underlying37] using hv
  have e2 : Tryz.prog.cellsOf 37 = 2 := by kernel_rfl
  rw [e2] at hsz
  obtain ⟨l⟩ := cs
  match l, hsz with
  | [c0, c1], _ =>
    obtain ⟨fuel, hf⟩ := h
    obtain ⟨xs, m, _, hx, _, hlen, hg⟩ := DataW.trod_array Tryz.underlying37 hf
    rw [cPs] at hg
    match xs, hlen with
    | [y0, y1], _ =>
      have g0 : DataW.trod enc Tryz.prog w base spare held m 28 [c0] = some y0 := by simpa [Value.cells] using hg 0 (by omega)
      have g1 : DataW.trod enc Tryz.prog w base spare held m 28 [c1] = some y1 := by simpa [Value.cells] using hg 1 (by omega)
      obtain ⟨a, c, ps, rfl, h1, h2⟩ := one_params g0
      obtain ⟨b, e, qs, rfl, h3, h4⟩ := one_params g1
      exact ⟨a, c, ps, b, e, qs, rfl, ⟨h1, h3⟩, h2, h4⟩
end
theorem parses_b (s : ByteArray) (w : World) (hT : ETab w) : Calls Tryz.prog 3 #[.string s] w fun r w' => r = .returned (.bool true) ∧ Below w.heap.size w w' := walk_parses s w hT
theorem stops_b (s t : ByteArray) (w : World) (hT : ETab w) : Calls Tryz.prog 6 #[.string s, .string t] w fun r w' => r = .returned (.bool true) ∧ Below w.heap.size w w' := walk_stops s t w hT
theorem back_b (a : Option Addr) (c : Nat) (ps : List PP) (s t : ByteArray) (w : World) (hT : ETab w) (h : Rd w (psD 49 ps) (.slice a ps.length c)) : Calls Tryz.prog 5 #[.slice a ps.length c, .string s, .string t] w fun r w' => r = .returned (.bool true) ∧ Below w.heap.size w w' := walk_back ps a c s t w hT h
theorem tells_b (a : Option Addr) (c : Nat) (ps : List PP) (b : Option Addr) (e : Nat) (qs : List PP) (s : ByteArray) (w : World) (hT : ETab w) (hc : (ps.length : Int) ≤ c ∧ (qs.length : Int) ≤ e) (h1 : Rd w (psD 49 ps) (.slice a ps.length c)) (h2 : Rd w (psD 49 qs) (.slice b qs.length e)) :
    Calls Tryz.prog 4 #[.agg #[.slice a ps.length c, .slice b qs.length e], .string s] w fun r w' => r = .returned (.bool true) ∧ Below w.heap.size w w' := walk_tells ps qs a b c e s w hT hc.1 hc.2 h1 h2
end Go.Proofs.YtndbgdapojkfaaaGreatDoor
