/- Parameters that came in. -/
import Derived.Test.YtndbgdapojkfaaaGreatDoorParMem
import Derived.Test.YtndbgdapojkfaaaGreatDoorTxtOpen
set_option linter.unusedVariables false
namespace Go.Proofs.YtndbgdapojkfaaaGreatDoor
open Go.ChangeShapes Go.WideShapes Go.ChangeAt Go.RowKit
open Go.Proofs.YtndbgdapojkfaaaGreatDoor.Byt Go.Proofs.YtndbgdapojkfaaaGreatDoor.Tre Go.Proofs.YtndbgdapojkfaaaGreatDoor.Txt Go.Proofs.YtndbgdapojkfaaaGreatDoor.Par Go.Proofs.YtndbgdapojkfaaaGreatDoor.Opn
section
variable {H : Type} {enc : TypeId × Value → H} {w : World} {base : Nat} {spare : Nat → Bool} {held : Bool}
theorem cPP : Tryz.prog.cellsOf 49 = 1 + 1 := by kernel_rfl
theorem cTs : Tryz.prog.cellsOf 44 = 1 := by kernel_rfl
theorem cPs : Tryz.prog.cellsOf 28 = 1 := by kernel_rfl
/-- A parameter out of its name and its values. -/
def toP (x : ByteArray × List ByteArray) : PP := ⟨x.1.data.toList, x.2.map fun t => t.data.toList⟩
def gP (x : ByteArray × List ByteArray) : List Dat := [Dat.one (.string x.1)] ++ [txD x.2]
theorem mks_of (ts : List ByteArray) : mks (ts.map fun t => t.data.toList) = ts := by
  unfold mks
  rw [List.map_map]
  have : (fun l : List UInt8 => (⟨l.toArray⟩ : ByteArray)) ∘ (fun t : ByteArray => t.data.toList) = id := by
    funext t
    exact mk_list t
  rw [this, List.map_id]
theorem gP_eq (x : ByteArray × List ByteArray) : gP x = pC (toP x) := by
  unfold gP pC toP
  rw [mk_list, mks_of]
  rfl
theorem reads_param : Reads enc Tryz.prog w base spare held 49 gP (fun x => x.1.size ≤ maxLen ∧ (x.2.length ≤ maxLen ∧ ∀ s ∈ x.2, s.size ≤ maxLen)) :=
  reads_two Tryz.underlying49 rfl cS rfl cTs cPP (reads_string Tryz.underlying9) reads_texts
theorem psD_eq (T : TypeId) (xs : List (ByteArray × List ByteArray)) : Dat.sl T 2 xs.length (xs.flatMap gP) = psD T (xs.map toP) := by
  unfold psD
  rw [List.length_map, List.flatMap_map]
  congr 2
  funext x
  exact gP_eq x
theorem reads_params : Reads enc Tryz.prog w base spare held 28 (fun xs : List (ByteArray × List ByteArray) => [psD 49 (xs.map toP)]) (fun xs => xs.length ≤ maxLen ∧ ∀ x ∈ xs, x.1.size ≤ maxLen ∧ (x.2.length ≤ maxLen ∧ ∀ s ∈ x.2, s.size ≤ maxLen)) := by
  have := reads_slice (enc := enc) (w := w) (base := base) (spare := spare) (held := held) Tryz.underlying28 cPP (by omega) (fun _ => rfl) reads_param
  intro n cs y h
  obtain ⟨x, hx, hr⟩ := this n cs y h
  refine ⟨x, hx, ?_⟩
  have e := psD_eq 49 x
  show AllRd w [psD 49 (List.map toP x)] cs
  rw [← e]
  exact hr
/-- A cell that came in as a slice of parameters. -/
theorem one_params {n : Nat} {v : Value} {y : DataW H × List MemPlace} (h : DataW.trod enc Tryz.prog w base spare held n 28 [v] = some y) :
    ∃ (a : Option Addr) (c : Nat) (ps : List PP), v = .slice a ps.length c ∧ (ps.length : Int) ≤ c ∧ Rd w (psD 49 ps) (.slice a ps.length c) := by
  obtain ⟨x, hx, hr⟩ := reads_params n _ y h
  have hr := hr.2 0 _ _ rfl rfl
  obtain ⟨a, c, rfl⟩ := sl_ps hr
  refine ⟨a, c, x.map toP, rfl, ?_, hr⟩
  rcases Go.Deep.open_slice Tryz.underlying28 h with ⟨e, _⟩ | ⟨a', len, cap, m, n', D, Pl, e, _, hl, _⟩
  · injection e with e _
    injection e with _ e1 e2
    omega
  · injection e with e _
    injection e with _ e1 e2
    omega
set_option maxRecDepth 100000 in
theorem open_params {r : Reach} {b0 : Nat} {v : Value} {d : DataW H} {p : List MemPlace} (hv : Value.okWide Tryz.prog w r b0 28 v) (h : DataW.Trod enc Tryz.prog w base spare held 28 v d p) :
    ∃ (a : Option Addr) (c : Nat) (ps : List PP), v = .slice a ps.length c ∧ (ps.length : Int) ≤ c ∧ Rd w (psD 49 ps) (.slice a ps.length c) := by
  obtain ⟨a, l, c, rfl⟩ := okWide_slice Tryz.underlying28 hv
  obtain ⟨fuel, hf⟩ := h
  exact one_params (by simpa [Value.cells] using hf)
end
end Go.Proofs.YtndbgdapojkfaaaGreatDoor
