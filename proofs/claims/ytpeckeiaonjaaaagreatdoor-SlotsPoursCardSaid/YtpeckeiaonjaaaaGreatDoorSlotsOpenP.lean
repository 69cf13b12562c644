/- What is poured, that comes in, opened: three numbers, a head, a stamp and a text. -/
import Derived.Test.YtpeckeiaonjaaaaGreatDoorSlotsOpenL
namespace Go.Proofs.YtpeckeiaonjaaaaGreatDoor
open Go.ChangeShapes Go.WideShapes Go.ChangeAt Go.RowKit Go.Deep
section
variable {H : Type} {enc : TypeId × Value → H} {w : World} {base : Nat} {spare : Nat → Bool} {held : Bool}

theorem list8 {α : Type} {l : List α} (h : l.length = 8) : ∃ c0 c1 c2 c3 c4 c5 c6 c7, l = [c0, c1, c2, c3, c4, c5, c6, c7] := by
  match l, h with
  | [c0, c1, c2, c3, c4, c5, c6, c7], _ => exact ⟨c0, c1, c2, c3, c4, c5, c6, c7, rfl⟩

set_option maxRecDepth 100000 in
theorem open_pouring {r : Reach} {b0 : Nat} {v : Value} {d : DataW H} {p : List MemPlace} (hv : Value.okWide Tryz.prog w r b0 29 v) (h : DataW.Trod enc Tryz.prog w base spare held 29 v d p) :
    ∃ (x y z : Int) (k : Nat) (g n st : Int) (t : ByteArray), v = .agg #[.int .i64 x, .int .i64 y, .int .i64 z, .int .u8 k, .int .i64 g, .int .i64 n, .int .i64 st, .string t] ∧ k < 256 := by
  obtain ⟨cs, rfl, hsz⟩ := okWide_struct Tryz.underlying29 hv
  have e8 : Tryz.prog.cellsOf 29 = 8 := by kernel_rfl
  have e3 : Tryz.prog.cellsOf 27 = 3 := by kernel_rfl
  have e1 : Tryz.prog.cellsOf 3 = 1 := by kernel_rfl
  have e9 : Tryz.prog.cellsOf 9 = 1 := by kernel_rfl
  have e5 : Tryz.prog.cellsOf 5 = 1 := by kernel_rfl
  rw [e8] at hsz
  obtain ⟨l⟩ := cs
  obtain ⟨c0, c1, c2, c3, c4, c5, c6, c7, rfl⟩ := list8 (show l.length = 8 from hsz)
  obtain ⟨fuel, hf⟩ := h
  obtain ⟨xs, m, _, hx, _, hlen, hg⟩ := DataW.trod_struct Tryz.underlying29 hf
  match xs, hlen with
  | [y0, y1, y2, y3, y4, y5], _ =>
    have g0 : DataW.trod enc Tryz.prog w base spare held m 3 [c0] = some y0 := by simpa [Value.cells, e1] using hg 0 _ rfl
    have g1 : DataW.trod enc Tryz.prog w base spare held m 3 [c1] = some y1 := by simpa [Value.cells, e1] using hg 1 _ rfl
    have g2 : DataW.trod enc Tryz.prog w base spare held m 3 [c2] = some y2 := by simpa [Value.cells, e1] using hg 2 _ rfl
    have g3 : DataW.trod enc Tryz.prog w base spare held m 27 [c3, c4, c5] = some y3 := by simpa [Value.cells, e3] using hg 3 _ rfl
    have g4 : DataW.trod enc Tryz.prog w base spare held m 3 [c6] = some y4 := by simpa [Value.cells, e1] using hg 4 _ rfl
    have g5 : DataW.trod enc Tryz.prog w base spare held m 9 [c7] = some y5 := by simpa [Value.cells, e9] using hg 5 _ rfl
    obtain ⟨x, e0, -, -⟩ := DataW.trod_int Tryz.underlying3 g0
    obtain ⟨y, e1', -, -⟩ := DataW.trod_int Tryz.underlying3 g1
    obtain ⟨z, e2, -, -⟩ := DataW.trod_int Tryz.underlying3 g2
    obtain ⟨z0, z1, z2, n', _, _, k0, k1, k2⟩ := trod_struct3 Tryz.underlying27 g3
    have k0' : DataW.trod enc Tryz.prog w base spare held n' 5 [c3] = some z0 := by simpa [e5] using k0
    have k1' : DataW.trod enc Tryz.prog w base spare held n' 3 [c4] = some z1 := by simpa [e1] using k1
    have k2' : DataW.trod enc Tryz.prog w base spare held n' 3 [c5] = some z2 := by simpa [e1] using k2
    obtain ⟨k, e3', -, wk⟩ := DataW.trod_int Tryz.underlying5 k0'
    obtain ⟨g, e4, -, -⟩ := DataW.trod_int Tryz.underlying3 k1'
    obtain ⟨n, e5', -, -⟩ := DataW.trod_int Tryz.underlying3 k2'
    obtain ⟨st, e6, -, -⟩ := DataW.trod_int Tryz.underlying3 g4
    obtain ⟨t, e7, -⟩ := DataW.trod_string Tryz.underlying9 g5
    simp only [List.cons.injEq, and_true] at e0 e1' e2 e3' e4 e5' e6 e7
    subst e0 e1' e2 e3' e4 e5' e6 e7
    obtain ⟨k1, k2⟩ := bounds_u8 wk
    obtain ⟨k, rfl⟩ := Int.eq_ofNat_of_zero_le k1
    exact ⟨x, y, z, k, g, n, st, t, rfl, by omega⟩
end
end Go.Proofs.YtpeckeiaonjaaaaGreatDoor
