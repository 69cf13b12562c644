/- Arguments opened to cells: heads, slices of texts, arrays of numbers; and what the rows' condition on the tables gives. -/
import Derived.Test.YtcloakaenkhgpaaDoorCrcOver
import Derived.Test.YtcloakaenkhgpaaDoorDiskBase
import Derived.Test.YtcloakaenkhgpaaDoorSheafSmall
import Derived.Deep.Slices
import Derived.Deep.Fields
import Derived.Deep.Strs
import Derived.ChangeSame
import Derived.ProofKit
import Derived.OpenShut
import Derived.ShutString
import Derived.ChangeOld
import Derived.Lib.SmallJoins
import Derived.LaidMore
import Derived.Lay
import Derived.Lib.LaidTab
import Derived.Stop.Joined
import Derived.SliceStrings
namespace Go.Proofs.YtcloakaenkhgpaaDoor
open Go.ChangeShapes Go.WideShapes Go.ChangeAt Go.RowKit Go.Deep
open Go.Proofs.YtcloakaenkhgpaaDoor.Dsk (RV SV SV_length rv_of)
open Go.Proofs.YtcloakaenkhgpaaDoor.Crc (Tab tab)

theorem own : ownKnob Tryd.prog.godebug = none := by kernel_rfl
theorem laidOut : laidOutB Tryd.prog = true := by kernel_rfl
def laid1 : List (String × DataW Unit) := [("errand/crc.fourSteps", Rows.laid_errand_crc_fourSteps), ("unicode/utf8.acceptRanges", Rows.laid_unicode_utf8_acceptRanges), ("unicode/utf8.first", Rows.laid_unicode_utf8_first)]
theorem gTab : Tryd.prog.globalNamed "errand/crc.fourSteps" = some 0 := by kernel_rfl

theorem laid1_met (os : Os) (args : Array Value) : laidMetH Tryd.prog laid1 ((World.laidAll Tryd.prog os laid1).forCall (fun _ _ => 0) ⟨#[], args, []⟩).memory := by
  rw [MakeChecks.laidMetH_plain _ _ _ (by kernel_rfl)]
  exact laidMet_laidAll _ (by kernel_rfl) (by kernel_rfl)

theorem tTab : (Tryd.prog.globals[0]?).map (·.type) = some 128 := by kernel_rfl
theorem cells66 : Tryd.prog.cellsOf 66 = 1 := by kernel_rfl
theorem cells128 : Tryd.prog.cellsOf 128 = 16 := by kernel_rfl

theorem of_laid {W : World} (h : laidMetH Tryd.prog laid1 W) : Tab W := by
  rw [MakeChecks.laidMetH_plain _ _ _ (by kernel_rfl)] at h
  have hT : Lib.TabIs Tryd.prog W "errand/crc.fourSteps" .u32 (tab.map Int.ofNat) :=
    Lib.tabIs_of_head gTab tTab Tryd.underlying128 Tryd.underlying66 cells66 cells128 h
  intro i hi
  have := hT.cell gTab i (by simpa [tab] using hi)
  rw [this]
  have e : (tab.map Int.ofNat).getD i 0 = ((tab.getD i 0 : Nat) : Int) := by
    simp only [List.getD, List.getElem?_map]
    cases tab[i]? <;> rfl
  rw [e]

section
variable {H : Type} {enc : TypeId × Value → H} {w : World} {base : Nat} {spare : Nat → Bool} {held : Bool}

set_option maxRecDepth 100000 in
/-- A head that came in. -/
theorem open_head {b0 : Nat} {v : Value} {d : DataW H} {p : List MemPlace} (hv : Value.okWide Tryd.prog w .any b0 23 v) (h : DataW.Trod enc Tryd.prog w base spare held 23 v d p) :
    ∃ (k : Nat) (g n : Int), v = Shf.HV k g n ∧ k < 256 := by
  obtain ⟨v0, v1, v2, y0, y1, y2, m, rfl, _, _, t0, t1, t2⟩ := Joins.open_agg3 Tryd.underlying23 (by kernel_rfl) (by kernel_rfl) hv h
  obtain ⟨k, e0, _, wk⟩ := DataW.trod_int Tryd.underlying5 t0
  obtain ⟨g, e1, _, _⟩ := DataW.trod_int Tryd.underlying3 t1
  obtain ⟨n, e2, _, _⟩ := DataW.trod_int Tryd.underlying3 t2
  simp only [List.cons.injEq, and_true] at e0 e1 e2
  subst e0 e1 e2
  obtain ⟨k1, k2⟩ := bounds_u8 wk
  obtain ⟨k, rfl⟩ := Int.eq_ofNat_of_zero_le k1
  exact ⟨k, g, n, rfl, by omega⟩

set_option maxRecDepth 100000 in
/-- A slice of texts that came in. -/
theorem open_texts {b0 : Nat} {v : Value} {d : DataW H} {p : List MemPlace} (hv : Value.okWide Tryd.prog w .any b0 25 v) (h : DataW.Trod enc Tryd.prog w base spare held 25 v d p) :
    ∃ (A : Option Addr) (m c : Nat) (S : List ByteArray), v = .slice A m c ∧ RV w A m 1 (SV S) ∧ m ≤ c ∧ c ≤ maxLen := by
  obtain ⟨A, m, c, rfl⟩ := okWide_slice Tryd.underlying25 hv
  obtain ⟨fuel, hf⟩ := h
  rcases open_strings Tryd.underlying25 Tryd.underlying9 (by kernel_rfl) hf with ⟨hcs, _⟩ | ⟨x, l, c', zs, hcs, _, hl, hm, hz, hlz, hcell, hwz⟩
  · simp [Value.cells] at hcs
    obtain ⟨rfl, rfl, rfl⟩ := hcs
    exact ⟨none, 0, 0, [], rfl, RV.nil _ _ _, Nat.le_refl _, Nat.zero_le _⟩
  · simp [Value.cells] at hcs
    obtain ⟨rfl, rfl, rfl⟩ := hcs
    have hzl : m ≤ zs.length := by rw [hz]; split <;> omega
    refine ⟨some x, m, c, zs.take m, rfl, rv_of (by omega) (by rw [SV_length, List.length_take]; omega) (fun i hi => ?_), hl, hm⟩
    have hi2 : i < m := by rw [SV_length, List.length_take] at hi; omega
    rw [hcell i (by omega)]
    simp only [SV, List.getElem_map, List.getElem_take]
    simp [List.getElem?_eq_getElem (show i < zs.length by omega)]

theorem u16_of {x : Int} (h : (Lit.int .u16 x).wf = true) : 0 ≤ x ∧ x ≤ 65535 := by
  simp [Lit.wf, IntKind.min, IntKind.max, IntKind.signed, IntKind.bits] at h
  omega

set_option maxRecDepth 100000 in
/-- An array of three numbers of 16 bits that came in. -/
theorem open_three {b0 : Nat} {v : Value} {d : DataW H} {p : List MemPlace} (hv : Value.okWide Tryd.prog w .any b0 51 v) (h : DataW.Trod enc Tryd.prog w base spare held 51 v d p) :
    ∃ x y z : Nat, v = .agg #[.int .u16 x, .int .u16 y, .int .u16 z] ∧ (x : Int) ≤ 65535 ∧ (y : Int) ≤ 65535 ∧ (z : Int) ≤ 65535 := by
  obtain ⟨cs, rfl, hsz, _⟩ : ∃ cs, v = .agg cs ∧ cs.size = Tryd.prog.cellsOf 51 ∧ Row.okWide Tryd.prog w .any b0 51 cs := by
    simpa [Value.okWide, Tryd.underlying51] using hv
  have e3 : Tryd.prog.cellsOf 51 = 3 := by kernel_rfl
  have e1 : Tryd.prog.cellsOf 50 = 1 := by kernel_rfl
  rw [e3] at hsz
  obtain ⟨l⟩ := cs
  match l, hsz with
  | [c0, c1, c2], _ =>
    obtain ⟨fuel, hf⟩ := h
    obtain ⟨xs, m, _, hx, _, hlen, hg⟩ := DataW.trod_array Tryd.underlying51 hf
    rw [e1] at hg
    match xs, hlen with
    | [y0, y1, y2], _ =>
      have g0 : DataW.trod enc Tryd.prog w base spare held m 50 [c0] = some y0 := by simpa [Value.cells] using hg 0 (by omega)
      have g1 : DataW.trod enc Tryd.prog w base spare held m 50 [c1] = some y1 := by simpa [Value.cells] using hg 1 (by omega)
      have g2 : DataW.trod enc Tryd.prog w base spare held m 50 [c2] = some y2 := by simpa [Value.cells] using hg 2 (by omega)
      obtain ⟨x, e0, -, wx⟩ := DataW.trod_int Tryd.underlying50 g0
      obtain ⟨y, e1, -, wy⟩ := DataW.trod_int Tryd.underlying50 g1
      obtain ⟨z, e2, -, wz⟩ := DataW.trod_int Tryd.underlying50 g2
      simp at e0 e1 e2
      subst e0 e1 e2
      obtain ⟨x1, x2⟩ := u16_of wx
      obtain ⟨y1, y2⟩ := u16_of wy
      obtain ⟨z1, z2⟩ := u16_of wz
      obtain ⟨x, rfl⟩ := Int.eq_ofNat_of_zero_le x1
      obtain ⟨y, rfl⟩ := Int.eq_ofNat_of_zero_le y1
      obtain ⟨z, rfl⟩ := Int.eq_ofNat_of_zero_le z1
      exact ⟨x, y, z, rfl, x2, y2, z2⟩

set_option maxRecDepth 100000 in
/-- An array of two numbers of 16 bits that came in. -/
theorem open_two {b0 : Nat} {v : Value} {d : DataW H} {p : List MemPlace} (hv : Value.okWide Tryd.prog w .any b0 54 v) (h : DataW.Trod enc Tryd.prog w base spare held 54 v d p) :
    ∃ x y : Nat, v = .agg #[.int .u16 x, .int .u16 y] ∧ (x : Int) ≤ 65535 ∧ (y : Int) ≤ 65535 := by
  obtain ⟨cs, rfl, hsz, _⟩ : ∃ cs, v = .agg cs ∧ cs.size = Tryd.prog.cellsOf 54 ∧ Row.okWide Tryd.prog w .any b0 54 cs := by
    simpa [Value.okWide, Tryd.underlying54] using hv
  have e3 : Tryd.prog.cellsOf 54 = 2 := by kernel_rfl
  have e1 : Tryd.prog.cellsOf 50 = 1 := by kernel_rfl
  rw [e3] at hsz
  obtain ⟨l⟩ := cs
  match l, hsz with
  | [c0, c1], _ =>
    obtain ⟨fuel, hf⟩ := h
    obtain ⟨xs, m, _, hx, _, hlen, hg⟩ := DataW.trod_array Tryd.underlying54 hf
    rw [e1] at hg
    match xs, hlen with
    | [y0, y1], _ =>
      have g0 : DataW.trod enc Tryd.prog w base spare held m 50 [c0] = some y0 := by simpa [Value.cells] using hg 0 (by omega)
      have g1 : DataW.trod enc Tryd.prog w base spare held m 50 [c1] = some y1 := by simpa [Value.cells] using hg 1 (by omega)
      obtain ⟨x, e0, -, wx⟩ := DataW.trod_int Tryd.underlying50 g0
      obtain ⟨y, e1, -, wy⟩ := DataW.trod_int Tryd.underlying50 g1
      simp at e0 e1
      subst e0 e1
      obtain ⟨x1, x2⟩ := u16_of wx
      obtain ⟨y1, y2⟩ := u16_of wy
      obtain ⟨x, rfl⟩ := Int.eq_ofNat_of_zero_le x1
      obtain ⟨y, rfl⟩ := Int.eq_ofNat_of_zero_le y1
      exact ⟨x, y, rfl, x2, y2⟩
end

end Go.Proofs.YtcloakaenkhgpaaDoor
