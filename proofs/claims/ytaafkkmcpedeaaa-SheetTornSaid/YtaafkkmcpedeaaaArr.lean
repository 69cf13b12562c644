/- Arrays of two that came in. -/
import Derived.Test.YtaafkkmcpedeaaaRows
import Derived.WalkKit
import Derived.ProofKit
import Derived.OpenShut
import Derived.ShutString
import Derived.ChangeOld
import Derived.Below
namespace Go.Proofs.Ytaafkkmcpedeaaa
open Go.ChangeShapes Go.WideShapes Go.ChangeAt Go.RowKit

theorem cells37 : Try.prog.cellsOf 37 = 2 := by kernel_rfl
theorem cells35 : Try.prog.cellsOf 35 = 1 := by kernel_rfl
theorem cells38 : Try.prog.cellsOf 38 = 2 := by kernel_rfl
theorem cells9 : Try.prog.cellsOf 9 = 1 := by kernel_rfl

set_option maxRecDepth 100000 in
/-- An array of two numbers of 32 bits that came in. -/
theorem open_two32 {H : Type} {enc : TypeId × Value → H} {W : World} {base : Nat} {v : Value} {d : DataW H} {p : List MemPlace} (hv : Value.okWide Try.prog W .any base 37 v) (h : DataW.Trod enc Try.prog W 0 (fun _ => true) true 37 v d p) :
    ∃ x y : Nat, v = .agg #[.int .u32 x, .int .u32 y] ∧ x ≤ 4294967295 ∧ y ≤ 4294967295 := by
  obtain ⟨cs, rfl, hsz, _⟩ : ∃ cs, v = .agg cs ∧ cs.size = Try.prog.cellsOf 37 ∧ Row.okWide Try.prog W .any base 37 cs := by
    simpa [Value.okWide, Try.underlying37] using hv
  rw [cells37] at hsz
  obtain ⟨l⟩ := cs
  match l, hsz with
  | [c0, c1], _ =>
    obtain ⟨fuel, hf⟩ := h
    obtain ⟨xs, m, _, hx, _, hlen, hg⟩ := DataW.trod_array Try.underlying37 hf
    rw [cells35] at hg
    match xs, hlen with
    | [y0, y1], _ =>
      have g0 : DataW.trod enc Try.prog W 0 (fun _ => true) true m 35 [c0] = some y0 := by simpa [Value.cells] using hg 0 (by omega)
      have g1 : DataW.trod enc Try.prog W 0 (fun _ => true) true m 35 [c1] = some y1 := by simpa [Value.cells] using hg 1 (by omega)
      obtain ⟨x, e0, -, wx⟩ := DataW.trod_int Try.underlying35 g0
      obtain ⟨y, e1, -, wy⟩ := DataW.trod_int Try.underlying35 g1
      simp at e0 e1
      subst e0 e1
      obtain ⟨x1, x2⟩ := bounds_u32 wx
      obtain ⟨y1, y2⟩ := bounds_u32 wy
      obtain ⟨x, rfl⟩ := Int.eq_ofNat_of_zero_le x1
      obtain ⟨y, rfl⟩ := Int.eq_ofNat_of_zero_le y1
      exact ⟨x, y, rfl, by omega, by omega⟩

set_option maxRecDepth 100000 in
/-- An array of two texts that came in. -/
theorem open_two_strings {H : Type} {enc : TypeId × Value → H} {W : World} {base : Nat} {v : Value} {d : DataW H} {p : List MemPlace} (hv : Value.okWide Try.prog W .any base 38 v) (h : DataW.Trod enc Try.prog W 0 (fun _ => true) true 38 v d p) :
    ∃ x y : ByteArray, v = .agg #[.string x, .string y] := by
  obtain ⟨cs, rfl, hsz, _⟩ : ∃ cs, v = .agg cs ∧ cs.size = Try.prog.cellsOf 38 ∧ Row.okWide Try.prog W .any base 38 cs := by
    simpa [Value.okWide, Try.underlying38] using hv
  rw [cells38] at hsz
  obtain ⟨l⟩ := cs
  match l, hsz with
  | [c0, c1], _ =>
    obtain ⟨fuel, hf⟩ := h
    obtain ⟨xs, m, _, hx, _, hlen, hg⟩ := DataW.trod_array Try.underlying38 hf
    rw [cells9] at hg
    match xs, hlen with
    | [y0, y1], _ =>
      have g0 : DataW.trod enc Try.prog W 0 (fun _ => true) true m 9 [c0] = some y0 := by simpa [Value.cells] using hg 0 (by omega)
      have g1 : DataW.trod enc Try.prog W 0 (fun _ => true) true m 9 [c1] = some y1 := by simpa [Value.cells] using hg 1 (by omega)
      obtain ⟨x, e0, -⟩ := DataW.trod_string Try.underlying9 g0
      obtain ⟨y, e1, -⟩ := DataW.trod_string Try.underlying9 g1
      simp at e0 e1
      subst e0 e1
      exact ⟨x, y, rfl⟩

end Go.Proofs.Ytaafkkmcpedeaaa
