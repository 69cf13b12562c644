/- The document's device, and three numbers, that come in, opened. -/
import Derived.Test.YtpeckeiaonjaaaaGreatDoorSlotsOpenH
import Derived.SliceStrings
import Derived.Lib.SmallJoins
namespace Go.Proofs.YtpeckeiaonjaaaaGreatDoor
open Go.ChangeShapes Go.WideShapes Go.ChangeAt Go.RowKit
open Go.Proofs.YtpeckeiaonjaaaaGreatDoor.Dsk
section
variable {H : Type} {enc : TypeId × Value → H} {w : World} {base : Nat} {spare : Nat → Bool} {held : Bool}

set_option maxRecDepth 100000 in
theorem secs_of {n : Nat} {v : Value} {y : DataW H × List MemPlace} (h : DataW.trod enc Tryz.prog w base spare held n 22 [v] = some y) :
    ∃ (a : Option Addr) (len cap : Nat) (S : List ByteArray), v = .slice a len cap ∧ RV w a len 1 (SV S) := by
  rcases open_strings Tryz.underlying22 Tryz.underlying9 (by kernel_rfl) h with ⟨hcs, _⟩ | ⟨x, l, c, zs, hcs, _, hl, hm, hz, hlz, hcell, hwz⟩
  · simp only [List.cons.injEq, and_true] at hcs
    subst hcs
    exact ⟨none, 0, 0, [], rfl, RV.nil _ _ _⟩
  · simp only [List.cons.injEq, and_true] at hcs
    subst hcs
    have hzl : l ≤ zs.length := by rw [hz]; split <;> omega
    refine ⟨some x, l, c, zs.take l, rfl, rv_of (by omega) (by rw [SV_length, List.length_take]; omega) (fun i hi => ?_)⟩
    have hi2 : i < l := by rw [SV_length, List.length_take] at hi; omega
    rw [hcell i (by omega)]
    simp only [SV, List.getElem_map, List.getElem_take]
    simp [List.getElem?_eq_getElem (show i < zs.length by omega)]

theorem wrs_get (f : Nat → Wr) (n j : Nat) (hj : j < n * 2) (hl : j < (WV ((List.range n).map f)).length) :
    (WV ((List.range n).map f))[j] = if j % 2 = 0 then .int .i64 (f (j / 2)).1 else .string (f (j / 2)).2 := by
  have hi : j / 2 < ((List.range n).map f).length := by simp; omega
  obtain ⟨h1, h2⟩ := WV_get ((List.range n).map f) (j / 2) hi
  have hr : j % 2 = 0 ∨ j % 2 = 1 := by omega
  apply Option.some_inj.1
  rw [← List.getElem?_eq_getElem hl]
  simp only [List.getElem_map, List.getElem_range] at h1 h2
  rcases hr with h | h
  · rw [if_pos h, ← h1]; congr 1; omega
  · rw [if_neg (by omega), ← h2]; congr 1; omega

set_option maxRecDepth 100000 in
theorem wrs_of {n : Nat} {v : Value} {y : DataW H × List MemPlace} (h : DataW.trod enc Tryz.prog w base spare held n 23 [v] = some y) :
    ∃ (a : Option Addr) (len cap : Nat) (W : List Wr), v = .slice a len cap ∧ RV w a len 2 (WV W) := by
  rcases open_slice_fields Tryz.underlying23 Tryz.underlying81 (by kernel_rfl) (by kernel_rfl) h with ⟨hcs, _⟩ | ⟨x, l, c, m, D, Pl, hcs, _, hl, hm, hmm, _, hi⟩
  · simp only [List.cons.injEq, and_true] at hcs
    subst hcs
    exact ⟨none, 0, 0, [], rfl, RV.nil _ _ _⟩
  · simp only [List.cons.injEq, and_true] at hcs
    subst hcs
    have hlm : l ≤ m := by rw [hmm]; split <;> omega
    have hex : ∀ i, ∃ y : Wr, i < l → (w.cell? (x.add (i * 2)) = some (.int .i64 y.1) ∧ w.cell? (x.add (i * 2 + 1)) = some (.string y.2)) := by
      intro i
      by_cases hil : i < l
      · obtain ⟨ys, n, _, _, _, hfs⟩ := hi i (by omega)
        obtain ⟨v0, y0, c0, _, t0⟩ := hfs 0 _ rfl
        obtain ⟨v1, y1, c1, _, t1⟩ := hfs 1 _ rfl
        obtain ⟨n0, e0, _, wf0⟩ := DataW.trod_int Tryz.underlying3 t0
        obtain ⟨n1, e1, _⟩ := DataW.trod_string Tryz.underlying9 t1
        simp only [List.cons.injEq, and_true] at e0 e1
        subst e0 e1
        exact ⟨(n0, n1), fun _ => ⟨c0, c1⟩⟩
      · exact ⟨(0, ByteArray.empty), fun h => absurd h hil⟩
    refine ⟨some x, l, c, (List.range l).map fun i => Classical.choose (hex i), rfl, rv_of (by omega) (by rw [WV_length]; simp) (fun j hj => ?_)⟩
    have hj3 : j < l * 2 := by rw [WV_length] at hj; simpa using hj
    rw [wrs_get _ _ _ hj3]
    have hc := Classical.choose_spec (hex (j / 2)) (by omega)
    have hr : j % 2 = 0 ∨ j % 2 = 1 := by omega
    rcases hr with h | h
    · rw [if_pos h, ← hc.1]; congr 2; omega
    · rw [if_neg (by omega), ← hc.2]; congr 2; omega

set_option maxRecDepth 100000 in
theorem open_state {r : Reach} {b0 : Nat} {v : Value} {d : DataW H} {p : List MemPlace}
    (hv : Value.okWide Tryz.prog w r b0 25 v) (h : DataW.Trod enc Tryz.prog w base spare held 25 v d p) :
    ∃ (A : Option Addr) (n c : Nat) (A' : Option Addr) (m c' : Nat) (f : Int) (S : List ByteArray) (W : List Wr), v = DV A n c A' m c' f ∧ RV w A n 1 (SV S) ∧ RV w A' m 2 (WV W) ∧ -9223372036854775808 ≤ f ∧ f ≤ 9223372036854775807 := by
  obtain ⟨v0, v1, v2, y0, y1, y2, n, rfl, _, _, t0, t1, t2⟩ := Joins.open_agg3 Tryz.underlying25 (by kernel_rfl) (by kernel_rfl) hv h
  obtain ⟨A, n, c, S, rfl, hS⟩ := secs_of t0
  obtain ⟨A', m, c', W, rfl, hW⟩ := wrs_of t1
  obtain ⟨f, e0, _, wf0⟩ := DataW.trod_int Tryz.underlying3 t2
  simp only [List.cons.injEq, and_true] at e0
  subst e0
  exact ⟨A, n, c, A', m, c', f, S, W, rfl, hS, hW, (bounds_i64 wf0).1, (bounds_i64 wf0).2⟩

set_option maxRecDepth 100000 in
theorem open_nums {r : Reach} {b0 : Nat} {v : Value} {d : DataW H} {p : List MemPlace} (hv : Value.okWide Tryz.prog w r b0 48 v) (h : DataW.Trod enc Tryz.prog w base spare held 48 v d p) :
    ∃ x y z : Int, v = .agg #[.int .i64 x, .int .i64 y, .int .i64 z] := by
  obtain ⟨cs, rfl, hsz, _⟩ : ∃ cs, v = .agg cs ∧ cs.size = Tryz.prog.cellsOf 48 ∧ Row.okWide Tryz.prog w r b0 48 cs := by
    simpa [Value.okWide, Tryz.underlying48] using hv
  have e3 : Tryz.prog.cellsOf 48 = 3 := by kernel_rfl
  have e1 : Tryz.prog.cellsOf 3 = 1 := by kernel_rfl
  rw [e3] at hsz
  obtain ⟨l⟩ := cs
  match l, hsz with
  | [c0, c1, c2], _ =>
    obtain ⟨fuel, hf⟩ := h
    obtain ⟨xs, m, _, hx, _, hlen, hg⟩ := DataW.trod_array Tryz.underlying48 hf
    rw [e1] at hg
    match xs, hlen with
    | [y0, y1, y2], _ =>
      have g0 : DataW.trod enc Tryz.prog w base spare held m 3 [c0] = some y0 := by simpa [Value.cells] using hg 0 (by omega)
      have g1 : DataW.trod enc Tryz.prog w base spare held m 3 [c1] = some y1 := by simpa [Value.cells] using hg 1 (by omega)
      have g2 : DataW.trod enc Tryz.prog w base spare held m 3 [c2] = some y2 := by simpa [Value.cells] using hg 2 (by omega)
      obtain ⟨x, e0, -, wx⟩ := DataW.trod_int Tryz.underlying3 g0
      obtain ⟨y, e1, -, wy⟩ := DataW.trod_int Tryz.underlying3 g1
      obtain ⟨z, e2, -, wz⟩ := DataW.trod_int Tryz.underlying3 g2
      simp at e0 e1 e2
      subst e0 e1 e2
      exact ⟨x, y, z, rfl⟩
end
end Go.Proofs.YtpeckeiaonjaaaaGreatDoor
