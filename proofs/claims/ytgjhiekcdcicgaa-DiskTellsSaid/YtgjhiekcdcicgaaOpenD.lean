/- The devices, writes and cuts that come in, opened. -/
import Derived.Test.YtgjhiekcdcicgaaOpen
import Derived.SliceStrings
import Derived.Lib.SmallJoins
namespace Go.Proofs.Ytgjhiekcdcicgaa
open Go.ChangeShapes Go.WideShapes Go.ChangeAt Go.RowKit
section
variable {H : Type} {enc : TypeId × Value → H} {w : World} {base : Nat} {spare : Nat → Bool} {held : Bool}

set_option maxRecDepth 100000 in
theorem secs_of {n : Nat} {v : Value} {y : DataW H × List MemPlace} (h : DataW.trod enc Try.prog w base spare held n 22 [v] = some y) :
    ∃ (a : Option Addr) (len cap : Nat) (S : List ByteArray), v = .slice a len cap ∧ RV w a len 1 (SV S) := by
  rcases open_strings Try.underlying22 Try.underlying9 (by kernel_rfl) h with ⟨hcs, _⟩ | ⟨x, l, c, zs, hcs, _, hl, hm, hz, hlz, hcell, hwz⟩
  · simp only [List.cons.injEq, and_true] at hcs
    subst hcs
    exact ⟨none, 0, 0, [], rfl, RV.nil _ _ _⟩
  · simp only [List.cons.injEq, and_true] at hcs
    subst hcs
    have hzl : l ≤ zs.length := by rw [hz]; split <;> omega
    refine ⟨some x, l, c, zs.take l, rfl, rv_of (by omega) (by rw [SV_length, List.length_take]; omega) (fun i hi => ?_)⟩
    have hi2 : i < l := by rw [SV_length, List.length_take] at hi; omega
    rw [hcell i (by omega)]
    simp only [SV, List.getElem_map, List.getElem_take]
    simp [List.getElem?_eq_getElem (show i < zs.length by omega)]

theorem wrs_get (f : Nat → Wr) (n j : Nat) (hj : j < n * 2) (hl : j < (WV ((List.range n).map f)).length) :
    (WV ((List.range n).map f))[j] = if j % 2 = 0 then .int .i64 (f (j / 2)).1 else .string (f (j / 2)).2 := by
  have hi : j / 2 < ((List.range n).map f).length := by simp; omega
  obtain ⟨h1, h2⟩ := WV_get ((List.range n).map f) (j / 2) hi
  have hr : j % 2 = 0 ∨ j % 2 = 1 := by omega
  apply Option.some_inj.1
  rw [← List.getElem?_eq_getElem hl]
  simp only [List.getElem_map, List.getElem_range] at h1 h2
  rcases hr with h | h
  · rw [if_pos h, ← h1]; congr 1; omega
  · rw [if_neg (by omega), ← h2]; congr 1; omega

set_option maxRecDepth 100000 in
theorem wrs_of {n : Nat} {v : Value} {y : DataW H × List MemPlace} (h : DataW.trod enc Try.prog w base spare held n 23 [v] = some y) :
    ∃ (a : Option Addr) (len cap : Nat) (W : List Wr), v = .slice a len cap ∧ RV w a len 2 (WV W) := by
  rcases open_slice_fields Try.underlying23 Try.underlying27 (by kernel_rfl) (by kernel_rfl) h with ⟨hcs, _⟩ | ⟨x, l, c, m, D, Pl, hcs, _, hl, hm, hmm, _, hi⟩
  · simp only [List.cons.injEq, and_true] at hcs
    subst hcs
    exact ⟨none, 0, 0, [], rfl, RV.nil _ _ _⟩
  · simp only [List.cons.injEq, and_true] at hcs
    subst hcs
    have hlm : l ≤ m := by rw [hmm]; split <;> omega
    have hex : ∀ i, ∃ y : Wr, i < l → (w.cell? (x.add (i * 2)) = some (.int .i64 y.1) ∧ w.cell? (x.add (i * 2 + 1)) = some (.string y.2)) := by
      intro i
      by_cases hil : i < l
      · obtain ⟨ys, n, _, _, _, hfs⟩ := hi i (by omega)
        obtain ⟨v0, y0, c0, _, t0⟩ := hfs 0 _ rfl
        obtain ⟨v1, y1, c1, _, t1⟩ := hfs 1 _ rfl
        obtain ⟨n0, e0, _, wf0⟩ := DataW.trod_int Try.underlying3 t0
        obtain ⟨n1, e1, _⟩ := DataW.trod_string Try.underlying9 t1
        simp only [List.cons.injEq, and_true] at e0 e1
        subst e0 e1
        exact ⟨(n0, n1), fun _ => ⟨c0, c1⟩⟩
      · exact ⟨(0, ByteArray.empty), fun h => absurd h hil⟩
    refine ⟨some x, l, c, (List.range l).map fun i => Classical.choose (hex i), rfl, rv_of (by omega) (by rw [WV_length]; simp) (fun j hj => ?_)⟩
    have hj3 : j < l * 2 := by rw [WV_length] at hj; simpa using hj
    rw [wrs_get _ _ _ hj3]
    have hc := Classical.choose_spec (hex (j / 2)) (by omega)
    have hr : j % 2 = 0 ∨ j % 2 = 1 := by omega
    rcases hr with h | h
    · rw [if_pos h, ← hc.1]; congr 2; omega
    · rw [if_neg (by omega), ← hc.2]; congr 2; omega

set_option maxRecDepth 100000 in
theorem open_cuts {r : Reach} {b0 : Nat} {v : Value} {d : DataW H} {p : List MemPlace}
    (hv : Value.okWide Try.prog w r b0 28 v) (h : DataW.Trod enc Try.prog w base spare held 28 v d p) :
    ∃ (a : Option Addr) (len cap : Nat) (zs : List Int), v = .slice a len cap ∧ RV w a len 1 (IV zs) := by
  obtain ⟨a, len, cap, rfl⟩ := okWide_slice Try.underlying28 hv
  obtain ⟨fuel, hf⟩ := h
  rcases open_ints Try.underlying28 Try.underlying3 (by kernel_rfl) hf with ⟨hcs, _⟩ | ⟨x, l, c, zs, hcs, _, hl, hm, hz, hlz, hcell, hwz⟩
  · simp [Value.cells] at hcs
    obtain ⟨rfl, rfl, rfl⟩ := hcs
    exact ⟨none, 0, 0, [], rfl, RV.nil _ _ _⟩
  · simp [Value.cells] at hcs
    obtain ⟨rfl, rfl, rfl⟩ := hcs
    have hzl : len ≤ zs.length := by rw [hz]; split <;> omega
    refine ⟨some x, len, cap, zs.take len, rfl, rv_of (by omega) (by rw [IV_length, List.length_take]; omega) (fun i hi => ?_)⟩
    have hi2 : i < len := by rw [IV_length, List.length_take] at hi; omega
    rw [hcell i (by omega)]
    simp only [IV, List.getElem_map, List.getElem_take]
    simp [List.getElem?_eq_getElem (show i < zs.length by omega)]

set_option maxRecDepth 100000 in
theorem open_write {r : Reach} {b0 : Nat} {v : Value} {d : DataW H} {p : List MemPlace}
    (hv : Value.okWide Try.prog w r b0 27 v) (h : DataW.Trod enc Try.prog w base spare held 27 v d p) :
    ∃ (z : Int) (s : ByteArray), v = .agg #[.int .i64 z, .string s] := by
  obtain ⟨v0, v1, y0, y1, n, rfl, _, _, t0, t1⟩ := Joins.open_agg2 Try.underlying27 (by kernel_rfl) (by kernel_rfl) hv h
  obtain ⟨n0, e0, _, wf0⟩ := DataW.trod_int Try.underlying3 t0
  obtain ⟨n1, e1, _⟩ := DataW.trod_string Try.underlying9 t1
  simp only [List.cons.injEq, and_true] at e0 e1
  subst e0 e1
  exact ⟨_, _, rfl⟩

set_option maxRecDepth 100000 in
theorem open_state {r : Reach} {b0 : Nat} {v : Value} {d : DataW H} {p : List MemPlace}
    (hv : Value.okWide Try.prog w r b0 25 v) (h : DataW.Trod enc Try.prog w base spare held 25 v d p) :
    ∃ (A : Option Addr) (n c : Nat) (A' : Option Addr) (m c' : Nat) (f : Int) (S : List ByteArray) (W : List Wr), v = DV A n c A' m c' f ∧ RV w A n 1 (SV S) ∧ RV w A' m 2 (WV W) ∧ -9223372036854775808 ≤ f ∧ f ≤ 9223372036854775807 := by
  obtain ⟨v0, v1, v2, y0, y1, y2, n, rfl, _, _, t0, t1, t2⟩ := Joins.open_agg3 Try.underlying25 (by kernel_rfl) (by kernel_rfl) hv h
  obtain ⟨A, n, c, S, rfl, hS⟩ := secs_of t0
  obtain ⟨A', m, c', W, rfl, hW⟩ := wrs_of t1
  obtain ⟨f, e0, _, wf0⟩ := DataW.trod_int Try.underlying3 t2
  simp only [List.cons.injEq, and_true] at e0
  subst e0
  exact ⟨A, n, c, A', m, c', f, S, W, rfl, hS, hW, (bounds_i64 wf0).1, (bounds_i64 wf0).2⟩
end
end Go.Proofs.Ytgjhiekcdcicgaa
