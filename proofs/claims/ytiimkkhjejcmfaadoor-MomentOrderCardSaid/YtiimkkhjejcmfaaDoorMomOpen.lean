/- What the rows' condition on the table gives; numbers, texts and values that came in. -/
import Derived.Test.YtiimkkhjejcmfaaDoorMomOrdW
import Derived.Test.YtiimkkhjejcmfaaDoorMomTelW
import Derived.ProofKit
import Derived.LaidMore
import Derived.Lay
import Derived.Lib.LaidTab
import Derived.OpenShut
import Derived.Stop.Joined
namespace Go.Proofs.YtiimkkhjejcmfaaDoor
open Go.ChangeShapes Go.WideShapes Go.ChangeAt Go.RowKit

theorem own : ownKnob Tryd.prog.godebug = none := by kernel_rfl
theorem laidOut : laidOutB Tryd.prog = true := by kernel_rfl
def laid1 : List (String × DataW Unit) := [("errand/civil.daysAhead", Rows.laid_errand_civil_daysAhead)]
theorem gTab : Tryd.prog.globalNamed "errand/civil.daysAhead" = some 0 := by kernel_rfl
theorem laid1_met (os : Os) (args : Array Value) : laidMetH Tryd.prog laid1 ((World.laidAll Tryd.prog os laid1).forCall (fun _ _ => 0) ⟨#[], args, []⟩).memory := by
  rw [MakeChecks.laidMetH_plain _ _ _ (by kernel_rfl)]
  exact laidMet_laidAll _ (by kernel_rfl) (by kernel_rfl)
theorem tTab : (Tryd.prog.globals[0]?).map (·.type) = some 67 := by kernel_rfl
theorem cells67 : Tryd.prog.cellsOf 67 = 13 := by kernel_rfl
theorem cells3 : Tryd.prog.cellsOf 3 = 1 := by kernel_rfl

theorem of_laid {W : World} (h : laidMetH Tryd.prog laid1 W) : Civ.CTab W := by
  rw [MakeChecks.laidMetH_plain _ _ _ (by kernel_rfl)] at h
  have hT : Lib.TabIs Tryd.prog W "errand/civil.daysAhead" .i64 Civ.tabC :=
    Lib.tabIs_of_head gTab tTab Tryd.underlying67 Tryd.underlying3 cells3 cells67 h
  intro i hi
  exact hT.cell gTab i (by simpa [Civ.tabC] using hi)

section
variable {H : Type} {enc : TypeId × Value → H} {w : World} {base : Nat} {spare : Nat → Bool} {held : Bool}
theorem u64_lo {x : Int} (h : (Lit.int .u64 x).wf = true) : 0 ≤ x := by
  simp [Lit.wf, IntKind.min, IntKind.max, IntKind.signed, IntKind.bits] at h
  omega
theorem u8_lo {x : Int} (h : (Lit.int .u8 x).wf = true) : 0 ≤ x := by
  simp [Lit.wf, IntKind.min, IntKind.max, IntKind.signed, IntKind.bits] at h
  omega

set_option maxRecDepth 100000 in
/-- An array of two numbers of 64 bits that came in. -/
theorem open_two {r : Reach} {b0 : Nat} {v : Value} {d : DataW H} {p : List MemPlace} (hv : Value.okWide Tryd.prog w r b0 49 v) (h : DataW.Trod enc Tryd.prog w base spare held 49 v d p) :
    ∃ x y : Int, v = .agg #[.int .u64 x, .int .u64 y] ∧ 0 ≤ x ∧ 0 ≤ y := by
  obtain ⟨cs, rfl, hsz, _⟩ : ∃ cs, v = .agg cs ∧ cs.size = Tryd.prog.cellsOf 49 ∧ Row.okWide Tryd.prog w r b0 49 cs := by
    simpa [Value.okWide, Tryd.underlying49] using hv
  have e2 : Tryd.prog.cellsOf 49 = 2 := by kernel_rfl
  have e1 : Tryd.prog.cellsOf 47 = 1 := by kernel_rfl
  rw [e2] at hsz
  obtain ⟨l⟩ := cs
  match l, hsz with
  | [c0, c1], _ =>
    obtain ⟨fuel, hf⟩ := h
    obtain ⟨xs, m, _, hx, _, hlen, hg⟩ := DataW.trod_array Tryd.underlying49 hf
    rw [e1] at hg
    match xs, hlen with
    | [y0, y1], _ =>
      have g0 : DataW.trod enc Tryd.prog w base spare held m 47 [c0] = some y0 := by simpa [Value.cells] using hg 0 (by omega)
      have g1 : DataW.trod enc Tryd.prog w base spare held m 47 [c1] = some y1 := by simpa [Value.cells] using hg 1 (by omega)
      obtain ⟨x, e0, -, wx⟩ := DataW.trod_int Tryd.underlying47 g0
      obtain ⟨y, e1, -, wy⟩ := DataW.trod_int Tryd.underlying47 g1
      simp at e0 e1
      subst e0 e1
      exact ⟨x, y, rfl, u64_lo wx, u64_lo wy⟩

set_option maxRecDepth 100000 in
/-- A value within an array that came in. -/
theorem trod_value {m : Nat} {a b : Value} {y : DataW H × List MemPlace} (h : DataW.trod enc Tryd.prog w base spare held m 28 [a, b] = some y) :
    ∃ k s : Int, a = .int .u8 k ∧ b = .int .i64 s := by
  have e5 : Tryd.prog.cellsOf 5 = 1 := by kernel_rfl
  have e3 : Tryd.prog.cellsOf 3 = 1 := by kernel_rfl
  obtain ⟨xs, n, _, hx, _, hlen, hg⟩ := DataW.trod_struct Tryd.underlying28 h
  match xs, hlen with
  | [y0, y1], _ =>
    have g0 : DataW.trod enc Tryd.prog w base spare held n 5 [a] = some y0 := by simpa [e5] using hg 0 _ rfl
    have g1 : DataW.trod enc Tryd.prog w base spare held n 3 [b] = some y1 := by simpa [e3, e5] using hg 1 _ rfl
    obtain ⟨k, e0, -, -⟩ := DataW.trod_int Tryd.underlying5 g0
    obtain ⟨s, e1, -, -⟩ := DataW.trod_int Tryd.underlying3 g1
    simp only [List.cons.injEq, and_true] at e0 e1
    exact ⟨k, s, e0, e1⟩

set_option maxRecDepth 100000 in
/-- An array of two values that came in. -/
theorem open_values {r : Reach} {b0 : Nat} {v : Value} {d : DataW H} {p : List MemPlace} (hv : Value.okWide Tryd.prog w r b0 32 v) (h : DataW.Trod enc Tryd.prog w base spare held 32 v d p) :
    ∃ k s k' s' : Int, v = .agg #[.int .u8 k, .int .i64 s, .int .u8 k', .int .i64 s'] := by
  obtain ⟨cs, rfl, hsz, _⟩ : ∃ cs, v = .agg cs ∧ cs.size = Tryd.prog.cellsOf 32 ∧ Row.okWide Tryd.prog w r b0 32 cs := by
    simpa [Value.okWide, Tryd.underlying32] using hv
  have e4 : Tryd.prog.cellsOf 32 = 4 := by kernel_rfl
  have e2 : Tryd.prog.cellsOf 28 = 2 := by kernel_rfl
  rw [e4] at hsz
  obtain ⟨l⟩ := cs
  match l, hsz with
  | [c0, c1, c2, c3], _ =>
    obtain ⟨fuel, hf⟩ := h
    obtain ⟨xs, m, _, hx, _, hlen, hg⟩ := DataW.trod_array Tryd.underlying32 hf
    rw [e2] at hg
    match xs, hlen with
    | [y0, y1], _ =>
      have g0 : DataW.trod enc Tryd.prog w base spare held m 28 [c0, c1] = some y0 := by simpa [Value.cells] using hg 0 (by omega)
      have g1 : DataW.trod enc Tryd.prog w base spare held m 28 [c2, c3] = some y1 := by simpa [Value.cells] using hg 1 (by omega)
      obtain ⟨k, s, rfl, rfl⟩ := trod_value g0
      obtain ⟨k', s', rfl, rfl⟩ := trod_value g1
      exact ⟨k, s, k', s', rfl⟩
end

theorem parses_b (s : ByteArray) (w : World) (hT : Civ.CTab w) : Calls Tryd.prog 3 #[.string s] w fun r w' => r = .returned (.bool true) ∧ Below w.heap.size w w' := Mom.walk_parses s w hT
theorem tells_b (k s k' s' : Int) (w : World) (hT : Civ.CTab w) : Calls Tryd.prog 4 #[.agg #[.int .u8 k, .int .i64 s, .int .u8 k', .int .i64 s']] w fun r w' => r = .returned (.bool true) ∧ Below w.heap.size w w' := Mom.walk_tells k s k' s' w hT
theorem back_b (k z : Int) (s : ByteArray) (hk : (Lit.int .u8 k).wf = true) (hz : (Lit.int .u64 z).wf = true) (w : World) (hT : Civ.CTab w) : Calls Tryd.prog 5 #[.int .u8 k, .int .u64 z, .string s] w fun r w' => r = .returned (.bool true) ∧ Below w.heap.size w w' := Mom.walk_back k z s (u8_lo hk) (u64_lo hz) w hT
theorem order_b (k n m : Int) (hk : (Lit.int .u8 k).wf = true) (hn : 0 ≤ n) (hm : 0 ≤ m) (w : World) (hT : Civ.CTab w) : Calls Tryd.prog 6 #[.int .u8 k, .agg #[.int .u64 n, .int .u64 m]] w fun r w' => r = .returned (.bool true) ∧ Below w.heap.size w w' := Mom.walk_order k n m (u8_lo hk) hn hm w hT
end Go.Proofs.YtiimkkhjejcmfaaDoor
