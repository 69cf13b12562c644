import Derived.Test.YtmgpngfgmfdldaaGreatDoorOpn

/- A slice of texts, and an array of four numbers, that come in, opened. -/
namespace Go.Proofs.YtmgpngfgmfdldaaGreatDoor
open Go.ChangeShapes Go.WideShapes Go.ChangeAt Go.RowKit Go.Deep
open Go.Proofs.YtmgpngfgmfdldaaGreatDoor.Dsk
section
variable {H : Type} {enc : TypeId × Value → H} {w : World} {base : Nat} {spare : Nat → Bool} {held : Bool}

set_option maxRecDepth 100000 in
/-- A slice of texts that came in. -/
theorem open_texts {b0 : Nat} {v : Value} {d : DataW H} {p : List MemPlace} (hv : Value.okWide Tryz.prog w .any b0 22 v) (h : DataW.Trod enc Tryz.prog w base spare held 22 v d p) :
    ∃ (A : Option Addr) (m c : Nat) (S : List ByteArray), v = .slice A m c ∧ RV w A m 1 (SV S) := by
  obtain ⟨A, m, c, rfl⟩ := okWide_slice Tryz.underlying22 hv
  obtain ⟨fuel, hf⟩ := h
  rcases open_strings Tryz.underlying22 Tryz.underlying9 (by kernel_rfl) hf with ⟨hcs, _⟩ | ⟨x, l, c', zs, hcs, _, hl, hm, hz, hlz, hcell, hwz⟩
  · simp [Value.cells] at hcs
    obtain ⟨rfl, rfl, rfl⟩ := hcs
    exact ⟨none, 0, 0, [], rfl, RV.nil _ _ _⟩
  · simp [Value.cells] at hcs
    obtain ⟨rfl, rfl, rfl⟩ := hcs
    have hzl : m ≤ zs.length := by rw [hz]; split <;> omega
    refine ⟨some x, m, c, zs.take m, rfl, rv_of (by omega) (by rw [SV_length, List.length_take]; omega) (fun i hi => ?_)⟩
    have hi2 : i < m := by rw [SV_length, List.length_take] at hi; omega
    rw [hcell i (by omega)]
    simp only [SV, List.getElem_map, List.getElem_take]
    simp [List.getElem?_eq_getElem (show i < zs.length by omega)]
set_option maxRecDepth 100000 in
theorem open_four {r : Reach} {b0 : Nat} {v : Value} {d : DataW H} {p : List MemPlace} (hv : Value.okWide Tryz.prog w r b0 41 v) (h : DataW.Trod enc Tryz.prog w base spare held 41 v d p) :
    ∃ x y z u : Int, v = .agg #[.int .i64 x, .int .i64 y, .int .i64 z, .int .i64 u] ∧ z ≤ 9223372036854775807 := by
  obtain ⟨cs, rfl, hsz, _⟩ : ∃ cs, v = .agg cs ∧ cs.size = Tryz.prog.cellsOf 41 ∧ Row.okWide Tryz.prog w r b0 41 cs := by
    simpa [Value.okWide, Tryz.underlying41] using hv
  have e3 : Tryz.prog.cellsOf 41 = 4 := by kernel_rfl
  have e1 : Tryz.prog.cellsOf 3 = 1 := by kernel_rfl
  rw [e3] at hsz
  obtain ⟨l⟩ := cs
  match l, hsz with
  | [c0, c1, c2, c3], _ =>
    obtain ⟨fuel, hf⟩ := h
    obtain ⟨xs, m, _, hx, _, hlen, hg⟩ := DataW.trod_array Tryz.underlying41 hf
    rw [e1] at hg
    match xs, hlen with
    | [y0, y1, y2, y3], _ =>
      have g0 : DataW.trod enc Tryz.prog w base spare held m 3 [c0] = some y0 := by simpa [Value.cells] using hg 0 (by omega)
      have g1 : DataW.trod enc Tryz.prog w base spare held m 3 [c1] = some y1 := by simpa [Value.cells] using hg 1 (by omega)
      have g2 : DataW.trod enc Tryz.prog w base spare held m 3 [c2] = some y2 := by simpa [Value.cells] using hg 2 (by omega)
      have g3 : DataW.trod enc Tryz.prog w base spare held m 3 [c3] = some y3 := by simpa [Value.cells] using hg 3 (by omega)
      obtain ⟨x, e0, -, wx⟩ := DataW.trod_int Tryz.underlying3 g0
      obtain ⟨y, e1, -, wy⟩ := DataW.trod_int Tryz.underlying3 g1
      obtain ⟨z, e2, -, wz⟩ := DataW.trod_int Tryz.underlying3 g2
      obtain ⟨u, e3, -, wu⟩ := DataW.trod_int Tryz.underlying3 g3
      simp at e0 e1 e2 e3
      subst e0 e1 e2 e3
      exact ⟨x, y, z, u, rfl, (bounds_i64 wz).2⟩
end
end Go.Proofs.YtmgpngfgmfdldaaGreatDoor

/- Small numbers that come in, as natural ones. -/
namespace Go.Proofs.YtmgpngfgmfdldaaGreatDoor
open Go.ChangeShapes Go.WideShapes Go.ChangeAt Go.RowKit
theorem u8_nat {z : Int} (h : (Lit.int .u8 z).wf = true) : ∃ n : Nat, n < 256 ∧ z = n := by
  obtain ⟨h1, h2⟩ := bounds_u8 h
  exact ⟨z.toNat, by omega, by omega⟩
theorem u16_nat {z : Int} (h : (Lit.int .u16 z).wf = true) : ∃ n : Nat, n < 65536 ∧ z = n := by
  simp [Lit.wf, IntKind.min, IntKind.max, IntKind.signed, IntKind.bits] at h
  exact ⟨z.toNat, by omega, by omega⟩
end Go.Proofs.YtmgpngfgmfdldaaGreatDoor
