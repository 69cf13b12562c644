/- Two devices in an array that came in, opened. -/
import Derived.Test.YtgjhiekcdcicgaaOpenD
namespace Go.Proofs.Ytgjhiekcdcicgaa
open Go.ChangeShapes Go.WideShapes Go.ChangeAt Go.RowKit Go.Deep
section
variable {H : Type} {enc : TypeId × Value → H} {w : World} {base : Nat} {spare : Nat → Bool} {held : Bool}

set_option maxRecDepth 100000 in
theorem state_cells {k : Nat} {c0 c1 c2 : Value} {y : DataW H × List MemPlace} (h : DataW.trod enc Try.prog w base spare held k 25 [c0, c1, c2] = some y) :
    ∃ (A : Option Addr) (n c : Nat) (A' : Option Addr) (m c' : Nat) (f : Int) (S : List ByteArray) (W : List Wr), c0 = .slice A n c ∧ c1 = .slice A' m c' ∧ c2 = .int .i64 f ∧ RV w A n 1 (SV S) ∧ RV w A' m 2 (WV W) ∧ -9223372036854775808 ≤ f ∧ f ≤ 9223372036854775807 := by
  obtain ⟨y0, y1, y2, n, hx, _, t0, t1, t2⟩ := trod_struct3 Try.underlying25 h
  have e0 : Try.prog.cellsOf 22 = 1 := by kernel_rfl
  have e1 : Try.prog.cellsOf 23 = 1 := by kernel_rfl
  have e2 : Try.prog.cellsOf 3 = 1 := by kernel_rfl
  simp [e0, e1, e2] at t0 t1 t2
  obtain ⟨A, n, c, S, rfl, hS⟩ := secs_of t0
  obtain ⟨A', m, c', W, rfl, hW⟩ := wrs_of t1
  obtain ⟨f, e0, _, wf0⟩ := DataW.trod_int Try.underlying3 t2
  simp only [List.cons.injEq, and_true] at e0
  subst e0
  exact ⟨A, n, c, A', m, c', f, S, W, rfl, rfl, rfl, hS, hW, (bounds_i64 wf0).1, (bounds_i64 wf0).2⟩

set_option maxRecDepth 100000 in
theorem open_pair {r : Reach} {b0 : Nat} {v : Value} {d : DataW H} {p : List MemPlace}
    (hv : Value.okWide Try.prog w r b0 49 v) (h : DataW.Trod enc Try.prog w base spare held 49 v d p) :
    ∃ (A : Option Addr) (n c : Nat) (A' : Option Addr) (m c' : Nat) (f : Int) (S : List ByteArray) (W : List Wr) (B : Option Addr) (k e : Nat) (B' : Option Addr) (q e' : Nat) (g : Int) (T : List ByteArray) (V : List Wr),
      v = .agg #[.slice A n c, .slice A' m c', .int .i64 f, .slice B k e, .slice B' q e', .int .i64 g] ∧ (RV w A n 1 (SV S) ∧ RV w A' m 2 (WV W) ∧ -9223372036854775808 ≤ f ∧ f ≤ 9223372036854775807) ∧ (RV w B k 1 (SV T) ∧ RV w B' q 2 (WV V) ∧ -9223372036854775808 ≤ g ∧ g ≤ 9223372036854775807) := by
  obtain ⟨cs, rfl, hsz, _⟩ : ∃ cs, v = .agg cs ∧ cs.size = Try.prog.cellsOf 49 ∧ Row.okWide Try.prog w r b0 49 cs := by
    simpa [Value.okWide, Try.underlying49] using hv
  have e6 : Try.prog.cellsOf 49 = 6 := by kernel_rfl
  have e3 : Try.prog.cellsOf 25 = 3 := by kernel_rfl
  rw [e6] at hsz
  obtain ⟨l⟩ := cs
  match l, hsz with
  | [c0, c1, c2, c3, c4, c5], _ =>
    obtain ⟨fuel, hf⟩ := h
    obtain ⟨xs, m, _, _, _, hl, hx⟩ := DataW.trod_array Try.underlying49 hf
    have h0 := hx 0 (by omega)
    have h1 := hx 1 (by omega)
    rw [List.getElem?_eq_getElem (by omega)] at h0 h1
    simp [e3, Value.cells] at h0 h1
    obtain ⟨A, n, c, A', m, c', f, S, W, rfl, rfl, rfl, a⟩ := state_cells h0
    obtain ⟨B, k, e, B', q, e', g, T, V, rfl, rfl, rfl, b⟩ := state_cells h1
    exact ⟨A, n, c, A', m, c', f, S, W, B, k, e, B', q, e', g, T, V, rfl, a, b⟩
end
end Go.Proofs.Ytgjhiekcdcicgaa
