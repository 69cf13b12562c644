/- A record that comes in, opened: four numbers and a text. -/
import Derived.Test.YtmgpngfgmfdldaaGreatDoorOpn
namespace Go.Proofs.YtmgpngfgmfdldaaGreatDoor
open Go.ChangeShapes Go.WideShapes Go.ChangeAt Go.RowKit Go.Deep
section
variable {H : Type} {enc : TypeId × Value → H} {w : World} {base : Nat} {spare : Nat → Bool} {held : Bool}

theorem list5 {α : Type} {l : List α} (h : l.length = 5) : ∃ c0 c1 c2 c3 c4, l = [c0, c1, c2, c3, c4] := by
  match l, h with
  | [c0, c1, c2, c3, c4], _ => exact ⟨c0, c1, c2, c3, c4, rfl⟩

set_option maxRecDepth 100000 in
theorem open_record {r : Reach} {b0 : Nat} {v : Value} {d : DataW H} {p : List MemPlace} (hv : Value.okWide Tryz.prog w r b0 27 v) (h : DataW.Trod enc Tryz.prog w base spare held 27 v d p) :
    ∃ (x g n st : Int) (t : ByteArray), v = .agg #[.int .i64 x, .int .i64 g, .int .i64 n, .int .i64 st, .string t] := by
  obtain ⟨cs, rfl, hsz⟩ := okWide_struct Tryz.underlying27 hv
  have e8 : Tryz.prog.cellsOf 27 = 5 := by kernel_rfl
  have e1 : Tryz.prog.cellsOf 3 = 1 := by kernel_rfl
  have e9 : Tryz.prog.cellsOf 9 = 1 := by kernel_rfl
  rw [e8] at hsz
  obtain ⟨l⟩ := cs
  obtain ⟨c0, c1, c2, c3, c4, rfl⟩ := list5 (show l.length = 5 from hsz)
  obtain ⟨fuel, hf⟩ := h
  obtain ⟨xs, m, _, hx, _, hlen, hg⟩ := DataW.trod_struct Tryz.underlying27 hf
  match xs, hlen with
  | [y0, y1, y2, y3, y4], _ =>
    have g0 : DataW.trod enc Tryz.prog w base spare held m 3 [c0] = some y0 := by simpa [Value.cells, e1] using hg 0 _ rfl
    have g1 : DataW.trod enc Tryz.prog w base spare held m 3 [c1] = some y1 := by simpa [Value.cells, e1] using hg 1 _ rfl
    have g2 : DataW.trod enc Tryz.prog w base spare held m 3 [c2] = some y2 := by simpa [Value.cells, e1] using hg 2 _ rfl
    have g3 : DataW.trod enc Tryz.prog w base spare held m 3 [c3] = some y3 := by simpa [Value.cells, e1] using hg 3 _ rfl
    have g4 : DataW.trod enc Tryz.prog w base spare held m 9 [c4] = some y4 := by simpa [Value.cells, e9] using hg 4 _ rfl
    obtain ⟨x, e0, -, -⟩ := DataW.trod_int Tryz.underlying3 g0
    obtain ⟨g, e1', -, -⟩ := DataW.trod_int Tryz.underlying3 g1
    obtain ⟨n, e2, -, -⟩ := DataW.trod_int Tryz.underlying3 g2
    obtain ⟨st, e3, -, -⟩ := DataW.trod_int Tryz.underlying3 g3
    obtain ⟨t, e4, -⟩ := DataW.trod_string Tryz.underlying9 g4
    simp only [List.cons.injEq, and_true] at e0 e1' e2 e3 e4
    subst e0 e1' e2 e3 e4
    exact ⟨x, g, n, st, t, rfl⟩
end
end Go.Proofs.YtmgpngfgmfdldaaGreatDoor
