/-
  Proved: StoreCrash returns true for every list of steps, and leaves it as it was. No conditions beyond the card's own (the tables start as the program's text lays them, which the card ties to the text).
-/
import Derived.Test.YtkglolnghihegaaGreatDoorCrcP
import Derived.Test.YtkglolnghihegaaGreatDoorDskA
import Derived.Test.YtkglolnghihegaaGreatDoorSlotsSmall
import Derived.Deep.Slices
import Derived.Deep.Fields
import Derived.Deep.Strs
import Derived.ChangeSame
import Derived.ProofKit
import Derived.OpenShut
import Derived.ShutString
import Derived.ChangeOld
import Derived.Lib.SmallJoins
import Derived.LaidMore
import Derived.Lay
import Derived.Lib.LaidTab
import Derived.Stop.Joined
import Derived.SliceStrings
import Derived.Test.YtkglolnghihegaaGreatDoorStoStep
import Derived.Test.YtkglolnghihegaaGreatDoorStoCrashW
import Derived.WalkKit
import Derived.Below
import Derived.Test.YtkglolnghihegaaGreatDoorCards
import Derived.Test.YtkglolnghihegaaGreatDoorTie
import Derived.SevenTiedAt

/- Slices of structs opened to cells; and what the rows' condition on the tables gives. -/
namespace Go.Proofs.YtkglolnghihegaaGreatDoor
open Go.ChangeShapes Go.WideShapes Go.ChangeAt Go.RowKit Go.Deep
open Go.Proofs.YtkglolnghihegaaGreatDoor.Dsk (RV SV SV_length rv_of cell_lt add_none)
open Go.Proofs.YtkglolnghihegaaGreatDoor.Crc (Tab tab)

theorem own : ownKnob Tryz.prog.godebug = none := by kernel_rfl
theorem laidOut : laidOutB Tryz.prog = true := by kernel_rfl
def laid1 : List (String × DataW Unit) := [("errand/crc.fourSteps", Rows.laid_errand_crc_fourSteps), ("unicode/utf8.acceptRanges", Rows.laid_unicode_utf8_acceptRanges), ("unicode/utf8.first", Rows.laid_unicode_utf8_first)]
theorem gTab : Tryz.prog.globalNamed "errand/crc.fourSteps" = some 1 := by kernel_rfl

theorem laid1_met (os : Os) (args : Array Value) : laidMetH Tryz.prog laid1 ((World.laidAll Tryz.prog os laid1).forCall (fun _ _ => 0) ⟨#[], args, []⟩).memory := by
  rw [MakeChecks.laidMetH_plain _ _ _ (by kernel_rfl)]
  exact laidMet_laidAll _ (by kernel_rfl) (by kernel_rfl)

theorem tTab : (Tryz.prog.globals[1]?).map (·.type) = some 252 := by kernel_rfl
theorem cells66 : Tryz.prog.cellsOf 187 = 1 := by kernel_rfl
theorem cells128 : Tryz.prog.cellsOf 252 = 16 := by kernel_rfl

theorem of_laid {W : World} (h : laidMetH Tryz.prog laid1 W) : Tab W := by
  rw [MakeChecks.laidMetH_plain _ _ _ (by kernel_rfl)] at h
  have hT : Lib.TabIs Tryz.prog W "errand/crc.fourSteps" .u32 (tab.map Int.ofNat) :=
    Lib.tabIs_of_head gTab tTab Tryz.underlying252 Tryz.underlying187 cells66 cells128 h
  intro i hi
  have := hT.cell gTab i (by simpa [tab] using hi)
  rw [this]
  have e : (tab.map Int.ofNat).getD i 0 = ((tab.getD i 0 : Nat) : Int) := by
    simp only [List.getD, List.getElem?_map]
    cases tab[i]? <;> rfl
  rw [e]

section
variable {H : Type} {enc : TypeId × Value → H} {P : Program} {w : World} {base : Nat} {spare : Nat → Bool} {held : Bool}
theorem open_slice_fields {t e : TypeId} {fs : Array Field} {fuel : Nat} {cs : List Value} {x : DataW H × List MemPlace} (ht : P.underlying t = some (.slice e)) (he : P.underlying e = some (.struct fs))
    (hone : oneCellFields P fs = true) (hC : P.cellsOf e = fs.size) (h : DataW.trod enc P w base spare held fuel t cs = some x) :
    (cs = [.slice none 0 0] ∧ x = (.nil, [])) ∨
    ∃ (a : Addr) (len cap m : Nat) (D : Nat → DataW H) (Pl : Nat → List MemPlace), cs = [.slice (some a) len cap] ∧ base ≤ a.block ∧ len ≤ cap ∧ cap ≤ maxLen ∧ m = (if spare a.block then cap else len) ∧
      x = (.slice ((List.range len).map D) ((List.range (m - len)).map fun j => D (len + j)), MemPlace.row a (m * fs.size) ++ (List.range m).flatMap Pl) ∧
      ∀ i, i < m → ∃ (ys : List (DataW H × List MemPlace)) (n : Nat), D i = .agg (ys.map (·.1)) ∧ Pl i = ys.flatMap (·.2) ∧ ys.length = fs.size ∧
        ∀ (j : Nat) (f : Field), fs[j]? = some f → ∃ (v : Value) (y : DataW H × List MemPlace), w.cell? (a.add (i * fs.size + j)) = some v ∧ ys[j]? = some y ∧ DataW.trod enc P w base spare held n f.type [v] = some y := by
  rcases open_slice ht h with h0 | ⟨a, len, cap, m, n, D, Pl, hcs, hb, hl, hm, hmm, hx, hi⟩
  · exact .inl h0
  · refine .inr ⟨a, len, cap, m, D, Pl, hcs, hb, hl, hm, hmm, by rw [hC] at hx; exact hx, fun i him => ?_⟩
    obtain ⟨cs', hc, ht'⟩ := hi i him
    rw [hC] at hc
    obtain ⟨ys, n', hn', hy, hlen, hyl, hf⟩ := DataW.trod_struct he ht'
    obtain ⟨_, hcl, hat⟩ := World.cells?_some hc
    simp only [Prod.mk.injEq] at hy
    refine ⟨ys, n', hy.1, hy.2, hyl, fun j f hj => ?_⟩
    obtain ⟨ho, hk⟩ := hone_of hone j f hj
    have hjl : j < fs.size := (Array.getElem?_eq_some_iff.1 hj).1
    have hcell := hat j hjl
    have hv : cs'[j]? = some (cs'[j]'(by omega)) := List.getElem?_eq_getElem (by omega)
    have h1 := hf j f hj
    rw [ho, hk] at h1
    have hone' : (cs'.drop j).take 1 = [cs'[j]'(by omega)] := by
      rw [List.drop_eq_getElem_cons (by omega)]
      rfl
    rw [hone'] at h1
    have hys : ys[j]? = some (ys[j]'(by omega)) := List.getElem?_eq_getElem (by omega)
    refine ⟨_, _, ?_, hys, h1.trans hys⟩
    rw [← Go.Deep.add_add, hcell, hv]
end
theorem u8_of {z : Int} (h : (Lit.int .u8 z).wf = true) : ∃ b : UInt8, z = ((b.toNat : Nat) : Int) := by
  obtain ⟨h1, h2⟩ := bounds_u8 h
  refine ⟨UInt8.ofNat z.toNat, ?_⟩
  have e : (UInt8.ofNat z.toNat).toNat = z.toNat := by
    rw [UInt8.toNat_ofNat']; omega
  rw [e]; omega


end Go.Proofs.YtkglolnghihegaaGreatDoor

/- The document's device, and three numbers, that come in, opened. -/
namespace Go.Proofs.YtkglolnghihegaaGreatDoor
open Go.ChangeShapes Go.WideShapes Go.ChangeAt Go.RowKit
open Go.Proofs.YtkglolnghihegaaGreatDoor.Dsk
section
variable {H : Type} {enc : TypeId × Value → H} {w : World} {base : Nat} {spare : Nat → Bool} {held : Bool}

set_option maxRecDepth 100000 in
theorem secs_of {n : Nat} {v : Value} {y : DataW H × List MemPlace} (h : DataW.trod enc Tryz.prog w base spare held n 22 [v] = some y) :
    ∃ (a : Option Addr) (len cap : Nat) (S : List ByteArray), v = .slice a len cap ∧ RV w a len 1 (SV S) := by
  rcases open_strings Tryz.underlying22 Tryz.underlying9 (by kernel_rfl) h with ⟨hcs, _⟩ | ⟨x, l, c, zs, hcs, _, hl, hm, hz, hlz, hcell, hwz⟩
  · simp only [List.cons.injEq, and_true] at hcs
    subst hcs
    exact ⟨none, 0, 0, [], rfl, RV.nil _ _ _⟩
  · simp only [List.cons.injEq, and_true] at hcs
    subst hcs
    have hzl : l ≤ zs.length := by rw [hz]; split <;> omega
    refine ⟨some x, l, c, zs.take l, rfl, rv_of (by omega) (by rw [SV_length, List.length_take]; omega) (fun i hi => ?_)⟩
    have hi2 : i < l := by rw [SV_length, List.length_take] at hi; omega
    rw [hcell i (by omega)]
    simp only [SV, List.getElem_map, List.getElem_take]
    simp [List.getElem?_eq_getElem (show i < zs.length by omega)]

theorem wrs_get (f : Nat → Wr) (n j : Nat) (hj : j < n * 2) (hl : j < (WV ((List.range n).map f)).length) :
    (WV ((List.range n).map f))[j] = if j % 2 = 0 then .int .i64 (f (j / 2)).1 else .string (f (j / 2)).2 := by
  have hi : j / 2 < ((List.range n).map f).length := by simp; omega
  obtain ⟨h1, h2⟩ := WV_get ((List.range n).map f) (j / 2) hi
  have hr : j % 2 = 0 ∨ j % 2 = 1 := by omega
  apply Option.some_inj.1
  rw [← List.getElem?_eq_getElem hl]
  simp only [List.getElem_map, List.getElem_range] at h1 h2
  rcases hr with h | h
  · rw [if_pos h, ← h1]; congr 1; omega
  · rw [if_neg (by omega), ← h2]; congr 1; omega

set_option maxRecDepth 100000 in
theorem wrs_of {n : Nat} {v : Value} {y : DataW H × List MemPlace} (h : DataW.trod enc Tryz.prog w base spare held n 23 [v] = some y) :
    ∃ (a : Option Addr) (len cap : Nat) (W : List Wr), v = .slice a len cap ∧ RV w a len 2 (WV W) := by
  rcases open_slice_fields Tryz.underlying23 Tryz.underlying85 (by kernel_rfl) (by kernel_rfl) h with ⟨hcs, _⟩ | ⟨x, l, c, m, D, Pl, hcs, _, hl, hm, hmm, _, hi⟩
  · simp only [List.cons.injEq, and_true] at hcs
    subst hcs
    exact ⟨none, 0, 0, [], rfl, RV.nil _ _ _⟩
  · simp only [List.cons.injEq, and_true] at hcs
    subst hcs
    have hlm : l ≤ m := by rw [hmm]; split <;> omega
    have hex : ∀ i, ∃ y : Wr, i < l → (w.cell? (x.add (i * 2)) = some (.int .i64 y.1) ∧ w.cell? (x.add (i * 2 + 1)) = some (.string y.2)) := by
      intro i
      by_cases hil : i < l
      · obtain ⟨ys, n, _, _, _, hfs⟩ := hi i (by omega)
        obtain ⟨v0, y0, c0, _, t0⟩ := hfs 0 _ rfl
        obtain ⟨v1, y1, c1, _, t1⟩ := hfs 1 _ rfl
        obtain ⟨n0, e0, _, wf0⟩ := DataW.trod_int Tryz.underlying3 t0
        obtain ⟨n1, e1, _⟩ := DataW.trod_string Tryz.underlying9 t1
        simp only [List.cons.injEq, and_true] at e0 e1
        subst e0 e1
        exact ⟨(n0, n1), fun _ => ⟨c0, c1⟩⟩
      · exact ⟨(0, ByteArray.empty), fun h => absurd h hil⟩
    refine ⟨some x, l, c, (List.range l).map fun i => Classical.choose (hex i), rfl, rv_of (by omega) (by rw [WV_length]; simp) (fun j hj => ?_)⟩
    have hj3 : j < l * 2 := by rw [WV_length] at hj; simpa using hj
    rw [wrs_get _ _ _ hj3]
    have hc := Classical.choose_spec (hex (j / 2)) (by omega)
    have hr : j % 2 = 0 ∨ j % 2 = 1 := by omega
    rcases hr with h | h
    · rw [if_pos h, ← hc.1]; congr 2; omega
    · rw [if_neg (by omega), ← hc.2]; congr 2; omega

set_option maxRecDepth 100000 in
theorem open_state {r : Reach} {b0 : Nat} {v : Value} {d : DataW H} {p : List MemPlace}
    (hv : Value.okWide Tryz.prog w r b0 25 v) (h : DataW.Trod enc Tryz.prog w base spare held 25 v d p) :
    ∃ (A : Option Addr) (n c : Nat) (A' : Option Addr) (m c' : Nat) (f : Int) (S : List ByteArray) (W : List Wr), v = DV A n c A' m c' f ∧ RV w A n 1 (SV S) ∧ RV w A' m 2 (WV W) ∧ -9223372036854775808 ≤ f ∧ f ≤ 9223372036854775807 := by
  obtain ⟨v0, v1, v2, y0, y1, y2, n, rfl, _, _, t0, t1, t2⟩ := Joins.open_agg3 Tryz.underlying25 (by kernel_rfl) (by kernel_rfl) hv h
  obtain ⟨A, n, c, S, rfl, hS⟩ := secs_of t0
  obtain ⟨A', m, c', W, rfl, hW⟩ := wrs_of t1
  obtain ⟨f, e0, _, wf0⟩ := DataW.trod_int Tryz.underlying3 t2
  simp only [List.cons.injEq, and_true] at e0
  subst e0
  exact ⟨A, n, c, A', m, c', f, S, W, rfl, hS, hW, (bounds_i64 wf0).1, (bounds_i64 wf0).2⟩

end
end Go.Proofs.YtkglolnghihegaaGreatDoor

/- Steps that come in, opened. -/
namespace Go.Proofs.YtkglolnghihegaaGreatDoor
open Go.ChangeShapes Go.WideShapes Go.ChangeAt Go.RowKit Go.Deep
open Go.Proofs.YtkglolnghihegaaGreatDoor.Dsk
section
variable {H : Type} {enc : TypeId × Value → H} {w : World} {base : Nat} {spare : Nat → Bool} {held : Bool}

theorem u8_of_ {z : Int} (h : (Lit.int .u8 z).wf = true) : ∃ b : UInt8, z = ((b.toNat : Nat) : Int) := by
  obtain ⟨h1, h2⟩ := bounds_u8 h
  refine ⟨UInt8.ofNat z.toNat, ?_⟩
  rw [UInt8.toNat_ofNat']
  omega

set_option maxRecDepth 100000 in
theorem bytes_of {n : Nat} {v : Value} {y : DataW H × List MemPlace} (h : DataW.trod enc Tryz.prog w base spare held n 59 [v] = some y) :
    ∃ (a : Option Addr) (m c : Nat) (cs : List UInt8), v = .slice a m c ∧ RV w a m 1 (Sto.UV cs) ∧ m ≤ c := by
  rcases open_ints Tryz.underlying59 Tryz.underlying5 (by kernel_rfl) h with ⟨hcs, _⟩ | ⟨x', l', c', zs, hcs, _, hl', hm', hz', hlz', hcell', hwz'⟩
  · simp only [List.cons.injEq, and_true] at hcs
    exact ⟨none, 0, 0, [], hcs, RV.nil _ _ _, Nat.le_refl _⟩
  · simp only [List.cons.injEq, and_true] at hcs
    have hzl : l' ≤ zs.length := by rw [hz']; split <;> omega
    have hub : ∀ i, ∃ b : UInt8, i < zs.length → zs.getD i 0 = ((b.toNat : Nat) : Int) := by
      intro i
      by_cases h : i < zs.length
      · have : zs.getD i 0 ∈ zs := by simp [List.getElem?_eq_getElem h]
        obtain ⟨b, hb⟩ := u8_of_ (hwz' _ this)
        exact ⟨b, fun _ => hb⟩
      · exact ⟨0, fun h' => absurd h' h⟩
    refine ⟨some x', l', c', (List.range l').map fun i => Classical.choose (hub i), hcs, rv_of (by omega) (by simp [Sto.UV]) (fun i hi => ?_), hl'⟩
    have hi2 : i < l' := by simpa [Sto.UV] using hi
    rw [hcell' i (by omega), Classical.choose_spec (hub i) (by omega)]
    simp [Sto.UV]

set_option maxRecDepth 100000 in
/-- A slice of steps that came in. -/
theorem open_steps {r : Reach} {b0 : Nat} {v : Value} {d : DataW H} {p : List MemPlace} (hv : Value.okWide Tryz.prog w r b0 54 v) (h : DataW.Trod enc Tryz.prog w base spare held 54 v d p) :
    ∃ (a : Option Addr) (n cap : Nat) (L : List Sto.Sp), v = .slice a n cap ∧ Sto.SpV w a n L := by
  obtain ⟨a, len, cap, rfl⟩ := okWide_slice Tryz.underlying54 hv
  obtain ⟨fuel, hf⟩ := h
  rcases open_slice_fields Tryz.underlying54 Tryz.underlying61 (by kernel_rfl) (by kernel_rfl) hf with ⟨hcs, _⟩ | ⟨x, l, c, m, D, Pl, hcs, _, hl, hm, hmm, _, hi⟩
  · simp [Value.cells] at hcs
    obtain ⟨rfl, rfl, rfl⟩ := hcs
    exact ⟨none, 0, 0, [], rfl, rfl, fun h => by omega⟩
  · simp [Value.cells] at hcs
    obtain ⟨rfl, rfl, rfl⟩ := hcs
    have hlm : len ≤ m := by rw [hmm]; split <;> omega
    have hex : ∀ i, ∃ y : Sto.Sp, i < len → (w.cell? (x.add (i * 4)) = some (.bool y.sv) ∧ w.cell? (x.add (i * 4 + 1)) = some (.string y.t) ∧ w.cell? (x.add (i * 4 + 2)) = some (.int .u8 y.f) ∧ y.f < 256 ∧ ∃ a m c, w.cell? (x.add (i * 4 + 3)) = some (.slice a m c) ∧ RV w a m 1 (Sto.UV y.cs) ∧ m ≤ c) := by
      intro i
      by_cases hil : i < len
      · obtain ⟨ys, n, _, _, _, hfs⟩ := hi i (by omega)
        obtain ⟨v0, y0, c0, _, t0⟩ := hfs 0 _ rfl
        obtain ⟨v1, y1, c1, _, t1⟩ := hfs 1 _ rfl
        obtain ⟨v2, y2, c2, _, t2⟩ := hfs 2 _ rfl
        obtain ⟨v3, y3, c3, _, t3⟩ := hfs 3 _ rfl
        obtain ⟨n0, e0, _⟩ := DataW.trod_bool Tryz.underlying4 t0
        obtain ⟨n1, e1, _⟩ := DataW.trod_string Tryz.underlying9 t1
        obtain ⟨n2, e2, _, wf2⟩ := DataW.trod_int Tryz.underlying5 t2
        obtain ⟨b2, rfl⟩ := u8_of_ wf2
        simp only [List.cons.injEq, and_true] at e0 e1 e2
        subst e0 e1 e2
        obtain ⟨a, m', c', cs, rfl, hr, hmc⟩ := bytes_of t3
        exact ⟨⟨n0, n1, b2.toNat, cs⟩, fun _ => ⟨c0, c1, c2, by have := b2.toNat_lt; simp only; omega, a, m', c', c3, hr, hmc⟩⟩
      · exact ⟨⟨false, ByteArray.empty, 0, []⟩, fun h => absurd h hil⟩
    have hsp : 0 < len → ∃ b off, x = ⟨b, off, none⟩ ∧ b < w.heap.size := by
      intro h0
      obtain ⟨c0, _⟩ := Classical.choose_spec (hex 0) h0
      obtain ⟨b, off, spot⟩ := x
      have hs : spot = none := by simpa [Addr.add] using World.cell?_spot c0
      subst hs
      exact ⟨b, off, rfl, by have := cell_lt c0; simpa [Addr.add] using this⟩
    refine ⟨some x, len, cap, (List.range len).map fun i => Classical.choose (hex i), rfl, by simp, fun h0 => ?_⟩
    obtain ⟨b, off, rfl, hb⟩ := hsp h0
    refine ⟨b, off, rfl, hb, fun i hi => ?_⟩
    have hi2 : i < len := by simpa using hi
    obtain ⟨g0, g1, g2, g3, a', m', c', g4, g5, g6⟩ := Classical.choose_spec (hex i) hi2
    simp only [List.getElem_map, List.getElem_range]
    exact ⟨(congrArg w.cell? (add_none b off (i * 4))).symm.trans g0, (congrArg w.cell? (add_none b off (i * 4 + 1))).symm.trans g1, (congrArg w.cell? (add_none b off (i * 4 + 2))).symm.trans g2, g3, a', m', c', (congrArg w.cell? (add_none b off (i * 4 + 3))).symm.trans g4, g5, g6⟩
end
end Go.Proofs.YtkglolnghihegaaGreatDoor

namespace Go.Proofs.YtkglolnghihegaaGreatDoor.storeCrash
open Go.ChangeShapes Go.WideShapes Go.ChangeAt Go.RowKit
open Go.ChangeMaps (open_string shut_string)
set_option linter.unusedVariables false

set_option maxRecDepth 100000 in
set_option maxHeartbeats 2000000 in
theorem lifted (os : Os) (started : os.Started) (H : Type) (enc : TypeId × Value → H) :
    ReturnsInHanded {} Tryz.checked os 5 .any (fun w args => (Rows.storeCrashSpec.pre enc Tryz.prog Tryz.f5 [] false w args ∧ laidMetH Tryz.prog laid1 w) ∧ sizedMet enc Tryz.prog Tryz.f5 (OpenSpec.ofChange Rows.storeCrashSpec) false w args) (Rows.storeCrashSpec.post enc Tryz.prog Tryz.f5 false true false false) := by
  refine returnsInHanded_of_change_and (C := Tryz.checked) (X := fun w _ => laidMetH Tryz.prog laid1 w) (fun _ _ _ hh h => h.of_heap hh) own started (by kernel_rfl) Tryz.func5
    (ChangeSpec.witness_shaped (enc := enc) (C := Tryz.checked) (os := os) (X := fun w _ => laidMetH Tryz.prog laid1 w) false (World.laidAll Tryz.prog os laid1) #[.slice none 0 0] 8 (World.laidAll_os _ _ _) (World.shaped_of_ZipB (by kernel_rfl) (by kernel_rfl)) (by kernel_rfl) (by kernel_rfl) (by kernel_rfl) (laid1_met os _)) ?_
  intro W base args ds gs before hval0 hW _ _ hL _
  have hval : ∀ (j : Nat) t v, Tryz.f5.params[j]? = some t → args[j]? = some v → Value.okWide Tryz.prog W .any base t v := hval0
  have hW' := hW
  obtain ⟨p, q, hA0, hV, rfl, hfz, hnd⟩ := hW
  have hA : DataW.TrodAll enc Tryz.prog W 0 (fun _ => true) true Tryz.f5.params.toList args.toList ds p := hA0
  rw [Tryz.params5] at hA hval
  obtain ⟨v0, vs0, d0, ds0, p0, q0, hargs, rfl, rfl, h0, r0⟩ := trodAll_cons hA
  obtain ⟨rfl, rfl, rfl⟩ := trodAll_nil r0
  obtain rfl : args = #[v0] := by cases args; simp_all
  obtain ⟨rfl, rfl⟩ := trodVars_none hV
  have k0 := h0
  have lt0 : ∀ x ∈ p0, x.block < W.heap.size := by obtain ⟨m, hm⟩ := k0; exact DataW.trod_lt m _ _ _ hm
  obtain ⟨A1_, n1_, c1_, L1_, rfl, hL1⟩ := open_steps (hval 0 54 v0 rfl rfl) h0
  have hT := of_laid hL
  clear hA0 hval0
  refine (Sto.walk_store Sto.openC Sto.saveC Sto.logC Sto.awakeS_any A1_ n1_ c1_ L1_ W hT hL1).mono fun e W' ⟨he, bel⟩ => ?_
  subst he
  exact ⟨_, rfl, _, _, _, [], _, [], hW', trodAll_mk1 (shut_bool Tryz.underlying4 _), (trodAll_cons_mk (Below.trod laidOut (by kernel_rfl) (of_decide_eq_true (by kernel_rfl)) k0 bel lt0) trodAll_mk0), rfl, bel.frame _, fun h => by cases h⟩

theorem over : Rows.StoreCrashSaid :=
  OpenClaim.holds_of_wide 5 Tryz.f5 rfl rfl rfl rfl rfl rfl rfl ⟨rfl, rfl, rfl, rfl, rfl⟩ rfl rfl rfl rfl rfl (by kernel_rfl) Tryz.func5 (by kernel_rfl)
    (of_decide_eq_true (by kernel_rfl)) (by unfold Func.isWrapper; first | (rw [if_pos (by decide +kernel)]; kernel_rfl) | (rw [if_neg (by decide +kernel)]; exact ⟨rfl, rfl⟩))
    (fun os started H enc _ => lifted os started H enc)

/-- The given statement. -/
theorem proved : Rows.StoreCrashCardSaid :=
  Claim7.holds_tied_plain_at .later [] [.data, .data, .pinned] true (true, "a2c418a0776009a8be782ca08ea464429b6e72c20b560c72c88b37a31bf93ed8") false
    over (fun _ h => by cases h) (by kernel_rfl) (fun _ h => by cases h) storeCrash_row_tie rfl ⟨rfl, rfl⟩ (by kernel_rfl) rfl
    (fun f fn hf hfn => by
      obtain rfl : f = 5 := Option.some.inj ((show Tryz.prog.funcNamed "errand/errandlaw08.StoreCrash" = some 5 by kernel_rfl).symm.trans hf) |>.symm
      obtain rfl : fn = Tryz.f5 := (Option.some.inj (Tryz.func5.symm.trans hfn)).symm
      exact ⟨by kernel_rfl, fun j t ht => by
        rw [Tryz.params5] at ht
        rcases j with _ | j
        · obtain rfl : 54 = t := by simpa using ht
          exact (show Tryz.prog.wantsStandIn 54 = false by kernel_rfl)
        · simp at ht⟩)
    (by kernel_rfl)
#print axioms proved
end Go.Proofs.YtkglolnghihegaaGreatDoor.storeCrash
