/- A row of two states of the document that comes in, opened; and a slice of texts. -/
import Derived.Test.YtkglolnghihegaaGreatDoorOpn
namespace Go.Proofs.YtkglolnghihegaaGreatDoor
open Go.ChangeShapes Go.WideShapes Go.ChangeAt Go.RowKit Go.Deep
open Go.Proofs.YtkglolnghihegaaGreatDoor.Dsk
section
variable {H : Type} {enc : TypeId × Value → H} {w : World} {base : Nat} {spare : Nat → Bool} {held : Bool}

theorem list9 {α : Type} {l : List α} (h : l.length = 9) : ∃ c0 c1 c2 c3 c4 c5 c6 c7 c8, l = [c0, c1, c2, c3, c4, c5, c6, c7, c8] := by
  match l, h with
  | [c0, c1, c2, c3, c4, c5, c6, c7, c8], _ => exact ⟨c0, c1, c2, c3, c4, c5, c6, c7, c8, rfl⟩

set_option maxRecDepth 100000 in
/-- The cells of one state. -/
theorem state_of {n : Nat} {l : List Value} {y : DataW H × List MemPlace} (hl : l.length = 9) (h : DataW.trod enc Tryz.prog w base spare held n 37 l = some y) :
    ∃ (A : Option Addr) (n c : Nat) (A' : Option Addr) (m c' : Nat) (f x0 x1 x2 x3 x4 : Int) (x5 : Bool) (S : List ByteArray) (V : List Wr), l = [.slice A n c, .slice A' m c', .int .i64 f, .int .i64 x0, .int .i64 x1, .int .i64 x2, .int .i64 x3, .int .i64 x4, .bool x5] ∧
      RV w A n 1 (SV S) ∧ RV w A' m 2 (WV V) ∧ (-9223372036854775808 ≤ f ∧ f ≤ 9223372036854775807) ∧ (-9223372036854775808 ≤ x0 ∧ x0 ≤ 9223372036854775807) ∧ x3 ≤ 9223372036854775807 := by
  have e25 : Tryz.prog.cellsOf 25 = 3 := by kernel_rfl
  have e3 : Tryz.prog.cellsOf 3 = 1 := by kernel_rfl
  have e4 : Tryz.prog.cellsOf 4 = 1 := by kernel_rfl
  have e22 : Tryz.prog.cellsOf 22 = 1 := by kernel_rfl
  have e23 : Tryz.prog.cellsOf 23 = 1 := by kernel_rfl
  obtain ⟨c0, c1, c2, c3, c4, c5, c6, c7, c8, rfl⟩ := list9 hl
  obtain ⟨xs, m, _, hx, _, hlen, hg⟩ := DataW.trod_struct Tryz.underlying37 h
  match xs, hlen with
  | [y0, y1, y2, y3, y4, y5, y6], _ =>
    have g0 : DataW.trod enc Tryz.prog w base spare held m 25 [c0, c1, c2] = some y0 := by simpa [Value.cells, e25] using hg 0 _ rfl
    have g1 : DataW.trod enc Tryz.prog w base spare held m 3 [c3] = some y1 := by simpa [Value.cells, e3] using hg 1 _ rfl
    have g2 : DataW.trod enc Tryz.prog w base spare held m 3 [c4] = some y2 := by simpa [Value.cells, e3] using hg 2 _ rfl
    have g3 : DataW.trod enc Tryz.prog w base spare held m 3 [c5] = some y3 := by simpa [Value.cells, e3] using hg 3 _ rfl
    have g4 : DataW.trod enc Tryz.prog w base spare held m 3 [c6] = some y4 := by simpa [Value.cells, e3] using hg 4 _ rfl
    have g5 : DataW.trod enc Tryz.prog w base spare held m 3 [c7] = some y5 := by simpa [Value.cells, e3] using hg 5 _ rfl
    have g6 : DataW.trod enc Tryz.prog w base spare held m 4 [c8] = some y6 := by simpa [Value.cells, e4] using hg 6 _ rfl
    obtain ⟨z0, z1, z2, n', _, _, k0, k1, k2⟩ := trod_struct3 Tryz.underlying25 g0
    have k0' : DataW.trod enc Tryz.prog w base spare held n' 22 [c0] = some z0 := by simpa [e22] using k0
    have k1' : DataW.trod enc Tryz.prog w base spare held n' 23 [c1] = some z1 := by simpa [e23] using k1
    have k2' : DataW.trod enc Tryz.prog w base spare held n' 3 [c2] = some z2 := by simpa [e3] using k2
    obtain ⟨A, n1, c, S, rfl, hS⟩ := secs_of k0'
    obtain ⟨A', m1, c', V, rfl, hV⟩ := wrs_of k1'
    obtain ⟨f, q0, -, wf⟩ := DataW.trod_int Tryz.underlying3 k2'
    obtain ⟨x0, q1, -, w0⟩ := DataW.trod_int Tryz.underlying3 g1
    obtain ⟨x1, q2, -, -⟩ := DataW.trod_int Tryz.underlying3 g2
    obtain ⟨x2, q3, -, -⟩ := DataW.trod_int Tryz.underlying3 g3
    obtain ⟨x3, q4, -, w3⟩ := DataW.trod_int Tryz.underlying3 g4
    obtain ⟨x4, q5, -, -⟩ := DataW.trod_int Tryz.underlying3 g5
    obtain ⟨x5, q6, -⟩ := DataW.trod_bool Tryz.underlying4 g6
    simp only [List.cons.injEq, and_true] at q0 q1 q2 q3 q4 q5 q6
    subst q0 q1 q2 q3 q4 q5 q6
    exact ⟨A, n1, c, A', m1, c', f, x0, x1, x2, x3, x4, x5, S, V, rfl, hS, hV, bounds_i64 wf, bounds_i64 w0, (bounds_i64 w3).2⟩

set_option maxRecDepth 100000 in
theorem open_two {r : Reach} {b0 : Nat} {v : Value} {dd : DataW H} {pp : List MemPlace} (hv : Value.okWide Tryz.prog w r b0 44 v) (h : DataW.Trod enc Tryz.prog w base spare held 44 v dd pp) :
    ∃ (A : Option Addr) (n c : Nat) (A' : Option Addr) (m c' : Nat) (f x0 x1 x2 x3 x4 : Int) (x5 : Bool) (S : List ByteArray) (V : List Wr) (B : Option Addr) (p d : Nat) (B' : Option Addr) (q d' : Nat) (g y0 y1 y2 y3 y4 : Int) (y5 : Bool) (Z : List ByteArray) (U : List Wr),
      v = .agg #[.slice A n c, .slice A' m c', .int .i64 f, .int .i64 x0, .int .i64 x1, .int .i64 x2, .int .i64 x3, .int .i64 x4, .bool x5, .slice B p d, .slice B' q d', .int .i64 g, .int .i64 y0, .int .i64 y1, .int .i64 y2, .int .i64 y3, .int .i64 y4, .bool y5] ∧
      RV w A n 1 (SV S) ∧ RV w A' m 2 (WV V) ∧ (-9223372036854775808 ≤ f ∧ f ≤ 9223372036854775807) ∧ (-9223372036854775808 ≤ x0 ∧ x0 ≤ 9223372036854775807) ∧ x3 ≤ 9223372036854775807 ∧
      RV w B p 1 (SV Z) ∧ RV w B' q 2 (WV U) ∧ (-9223372036854775808 ≤ g ∧ g ≤ 9223372036854775807) := by
  obtain ⟨cs, rfl, hsz, _⟩ : ∃ cs, v = .agg cs ∧ cs.size = Tryz.prog.cellsOf 44 ∧ Row.okWide Tryz.prog w r b0 44 cs := by
    simpa [Value.okWide, Tryz.underlying44] using hv
  have e18 : Tryz.prog.cellsOf 44 = 18 := by kernel_rfl
  have e9 : Tryz.prog.cellsOf 37 = 9 := by kernel_rfl
  rw [e18] at hsz
  obtain ⟨l⟩ := cs
  have hl : l.length = 18 := hsz
  obtain ⟨fuel, hf⟩ := h
  obtain ⟨xs, m, _, hx, _, hlen, hg⟩ := DataW.trod_array Tryz.underlying44 hf
  rw [e9] at hg
  match xs, hlen with
  | [y0, y1], _ =>
    have g0 : DataW.trod enc Tryz.prog w base spare held m 37 (l.take 9) = some y0 := by simpa [Value.cells] using hg 0 (by omega)
    have ht : (l.drop 9).take 9 = l.drop 9 := List.take_of_length_le (by simp; omega)
    have g1 : DataW.trod enc Tryz.prog w base spare held m 37 (l.drop 9) = some y1 := by
      have := hg 1 (by omega)
      simpa [Value.cells, ht] using this
    obtain ⟨A, n, c, A', m1, c', f, x0, x1, x2, x3, x4, x5, S, V, hq, hS, hV, hf', hx0, hx3⟩ := state_of (by simp; omega) g0
    obtain ⟨B, p, d, B', q, d', g, z0, z1, z2, z3, z4, z5, Z, U, hq2, hZ, hU, hg', -, -⟩ := state_of (by simp; omega) g1
    have hll : l = l.take 9 ++ l.drop 9 := (List.take_append_drop 9 l).symm
    rw [hq, hq2] at hll
    subst hll
    exact ⟨A, n, c, A', m1, c', f, x0, x1, x2, x3, x4, x5, S, V, B, p, d, B', q, d', g, z0, z1, z2, z3, z4, z5, Z, U, rfl, hS, hV, hf', hx0, hx3, hZ, hU, hg'⟩

set_option maxRecDepth 100000 in
/-- A slice of texts that came in. -/
theorem open_texts {b0 : Nat} {v : Value} {d : DataW H} {p : List MemPlace} (hv : Value.okWide Tryz.prog w .any b0 22 v) (h : DataW.Trod enc Tryz.prog w base spare held 22 v d p) :
    ∃ (A : Option Addr) (m c : Nat) (S : List ByteArray), v = .slice A m c ∧ RV w A m 1 (SV S) := by
  obtain ⟨A, m, c, rfl⟩ := okWide_slice Tryz.underlying22 hv
  obtain ⟨fuel, hf⟩ := h
  obtain ⟨a, l, c', S, e, hS⟩ := secs_of (by simpa [Value.cells] using hf)
  injection e with e1 e2 e3
  subst e1 e2 e3
  exact ⟨_, _, _, S, rfl, hS⟩
end
end Go.Proofs.YtkglolnghihegaaGreatDoor
