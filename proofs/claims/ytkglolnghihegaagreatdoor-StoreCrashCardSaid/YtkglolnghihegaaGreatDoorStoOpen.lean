/- Contract of open of the law StoreCrash, over what Open and Save of the store answer. -/
import Derived.Test.YtkglolnghihegaaGreatDoorStoAfter
import Derived.Test.YtkglolnghihegaaGreatDoorStoC
import Derived.Test.YtkglolnghihegaaGreatDoorStoUnpack
import Derived.Test.YtkglolnghihegaaGreatDoorStoSame
import Derived.Test.YtkglolnghihegaaGreatDoorShfB
import Derived.Deep.RegionWith
namespace Go.Proofs.YtkglolnghihegaaGreatDoor.Sto
open Go.RowKit Go.Proofs.YtkglolnghihegaaGreatDoor.Dsk
open Go.Proofs.YtkglolnghihegaaGreatDoor.Crc (Tab)

/-- What Open answers. -/
def RetO (w : World) (S : List ByteArray) (V : List Wr) (f : Int) (r : Ending) (w' : World) : Prop :=
  ∃ A n c A' m c' B q d, r = .returned (.tuple #[TV A n c A' m c' f (opnX S V f), .string (opnT S V f), .slice B q d, .int .i64 0]) ∧ Dev w' A n c A' m c' f S V ∧ RV w' B q 1 (SV (opnL S V f)) ∧ Below w.heap.size w w'
def OpenC : Prop := ∀ W A n c A' m c' f S V, Dev W A n c A' m c' f S V → Tab W → opnE S V f = 0 → Calls Tryz.prog 8 #[DV A n c A' m c' f] W (RetO W S V f)
def SaveC : Prop := ∀ W A n c A' m c' f S V x t, Dev W A n c A' m c' f S V → Tab W → -9223372036854775808 ≤ x.slot → x.slot ≤ 9223372036854775807 → Calls Tryz.prog 15 #[TV A n c A' m c' f x, .string t] W (RetT W (savX S V f x t))
def LogC : Prop := ∀ W A n c A' m c' f S V x t, Dev W A n c A' m c' f S V → Tab W → Calls Tryz.prog 17 #[TV A n c A' m c' f x, .string t] W (RetT W (logX S V f x t))

theorem openC : OpenC := fun W A n c A' m c' f S V hD hT h => open_is A n c A' m c' f S V W hD hT h
theorem saveC : SaveC := fun W A n c A' m c' f S V x t hD hT h1 h2 => sav_any A n c A' m c' f S V W hD hT x t h1 h2
theorem logC : LogC := fun W A n c A' m c' f S V x t hD hT => log_any A n c A' m c' f S V W hD hT x t

theorem bst_z (S : List ByteArray) (V : List Wr) (f : Int) : 0 ≤ (Slt.bestR S V f).z ∧ (Slt.bestR S V f).z ≤ 1 := by
  have h : ∀ b : Slt.Bst, ∀ z : Int, 0 ≤ b.z → b.z ≤ 1 → 0 ≤ z → z ≤ 1 → 0 ≤ (Slt.bstep S V f b z).z ∧ (Slt.bstep S V f b z).z ≤ 1 := fun b z a1 a2 a3 a4 => by
    unfold Slt.bstep
    split
    · exact ⟨a3, a4⟩
    · exact ⟨a1, a2⟩
  unfold Slt.bestR
  split
  · obtain ⟨h1, h2⟩ := h ⟨0, 0, ⟨#[]⟩, 6⟩ 0 (by decide) (by decide) (by decide) (by decide)
    exact h _ 1 h1 h2 (by decide) (by decide)
  · exact ⟨by decide, by decide⟩
theorem opnX_slot (S : List ByteArray) (V : List Wr) (f : Int) : 0 ≤ (opnX S V f).slot ∧ (opnX S V f).slot ≤ 1 := by
  unfold opnX
  split
  · exact bst_z S V f
  · exact ⟨by show (0 : Int) ≤ 1; decide, by show (1 : Int) ≤ 1; decide⟩
theorem WI.slot {i : Nat} {S : List ByteArray} {x : Nm} {H M : List ByteArray} (h : WI i S x H M) (hx : x.live = true) : 0 ≤ x.slot ∧ x.slot ≤ 1 := by
  obtain ⟨-, -, st, -, ⟨h1, -⟩ | ⟨-, -, k, G, T, R, rfl, hL, -⟩⟩ := h
  · rw [hx] at h1; exact absurd h1 (by decide)
  · have := hL.bs.kk
    dsimp only
    omega

/-- A variable that holds a state. -/
structure Sx (w : World) (b : Nat) (A : Option Addr) (n c : Nat) (A' : Option Addr) (m c' : Nat) (f : Int) (x : Nm) : Prop where
  blk : Blk w b 31 [.slice A n c, .slice A' m c', .int .i64 f, .int .i64 x.slot, .int .i64 x.gen, .int .i64 x.stamp, .int .i64 x.at_, .int .i64 x.no, .bool x.live]
section
variable {w w' : World} {b : Nat} {A : Option Addr} {n c : Nat} {A' : Option Addr} {m c' : Nat} {f : Int} {x : Nm}
theorem Sx.call (h : Sx w b A n c A' m c' f x) (hb : Below w.heap.size w w') : Sx w' b A n c A' m c' f x := ⟨h.blk.call hb⟩
theorem Sx.lt (h : Sx w b A n c A' m c' f x) : b < w.heap.size := h.blk.lt
theorem Sx.ns (h : Sx w b A n c A' m c' f x) : NoStr w b := NoStr.of_blk h.blk (by simp)
theorem Sx.new (w : World) (A : Option Addr) (n c : Nat) (A' : Option Addr) (m c' : Nat) (f : Int) (x : Nm) : Sx (w.alloc (.cells #[.slice A n c, .slice A' m c', .int .i64 f, .int .i64 x.slot, .int .i64 x.gen, .int .i64 x.stamp, .int .i64 x.at_, .int .i64 x.no, .bool x.live] 31)) w.heap.size A n c A' m c' f x := ⟨Blk.new _ _ _⟩
theorem Sx.cells (h : Sx w b A n c A' m c' f x) :
    w.cell? ⟨b, 0, none⟩ = some (.slice A n c) ∧ w.cell? ⟨b, 1, none⟩ = some (.slice A' m c') ∧ w.cell? ⟨b, 2, none⟩ = some (.int .i64 f) ∧ w.cell? ⟨b, 3, none⟩ = some (.int .i64 x.slot) ∧ w.cell? ⟨b, 4, none⟩ = some (.int .i64 x.gen) ∧ w.cell? ⟨b, 5, none⟩ = some (.int .i64 x.stamp) ∧
    w.cell? ⟨b, 6, none⟩ = some (.int .i64 x.at_) ∧ w.cell? ⟨b, 7, none⟩ = some (.int .i64 x.no) ∧ w.cell? ⟨b, 8, none⟩ = some (.bool x.live) :=
  ⟨h.blk.cell (i := 0) (by simp), h.blk.cell (i := 1) (by simp), h.blk.cell (i := 2) (by simp), h.blk.cell (i := 3) (by simp), h.blk.cell (i := 4) (by simp), h.blk.cell (i := 5) (by simp), h.blk.cell (i := 6) (by simp), h.blk.cell (i := 7) (by simp), h.blk.cell (i := 8) (by simp)⟩
theorem Sx.live (h : Sx w b A n c A' m c' f x) :
    w.frozen? ⟨b, 0, none⟩ = false ∧ w.frozen? ⟨b, 1, none⟩ = false ∧ w.frozen? ⟨b, 2, none⟩ = false ∧ w.frozen? ⟨b, 3, none⟩ = false ∧ w.frozen? ⟨b, 4, none⟩ = false ∧ w.frozen? ⟨b, 5, none⟩ = false ∧
    w.frozen? ⟨b, 6, none⟩ = false ∧ w.frozen? ⟨b, 7, none⟩ = false ∧ w.frozen? ⟨b, 8, none⟩ = false :=
  ⟨h.blk.frozen 0, h.blk.frozen 1, h.blk.frozen 2, h.blk.frozen 3, h.blk.frozen 4, h.blk.frozen 5, h.blk.frozen 6, h.blk.frozen 7, h.blk.frozen 8⟩
/-- A new state is stored. -/
theorem Sx.put (h : Sx w b A n c A' m c' f x) (B : Option Addr) (p d : Nat) (B' : Option Addr) (r d' : Nat) (g : Int) (y : Nm) (e : w' = (((((((((w.setCell ⟨b, 0, none⟩ (.slice B p d)).setCell ⟨b, 1, none⟩ (.slice B' r d')).setCell ⟨b, 2, none⟩ (.int .i64 g)).setCell ⟨b, 3, none⟩ (.int .i64 y.slot)).setCell ⟨b, 4, none⟩ (.int .i64 y.gen)).setCell ⟨b, 5, none⟩ (.int .i64 y.stamp)).setCell ⟨b, 6, none⟩ (.int .i64 y.at_)).setCell ⟨b, 7, none⟩ (.int .i64 y.no)).setCell ⟨b, 8, none⟩ (.bool y.live))) :
    Sx w' b B p d B' r d' g y ∧ w.grownBy w' (some b) := by
  subst e
  have hg := grown_set (grown_set (grown_set (grown_set (grown_set (grown_set (grown_set (grown_set (grown_set (World.grownBy.refl w (some b)) 0 (.slice B p d)) 1 (.slice B' r d')) 2 (.int .i64 g)) 3 (.int .i64 y.slot)) 4 (.int .i64 y.gen)) 5 (.int .i64 y.stamp)) 6 (.int .i64 y.at_)) 7 (.int .i64 y.no)) 8 (.bool y.live)
  have hB := ((((((((h.blk.set_ 0 (.slice B p d)).set_ 1 (.slice B' r d')).set_ 2 (.int .i64 g)).set_ 3 (.int .i64 y.slot)).set_ 4 (.int .i64 y.gen)).set_ 5 (.int .i64 y.stamp)).set_ 6 (.int .i64 y.at_)).set_ 7 (.int .i64 y.no)).set_ 8 (.bool y.live)
  exact ⟨⟨by simpa using hB⟩, hg⟩
end
/-- A store into one block leaves a world's block that is another one. -/
theorem Wd.other {w w' : World} {b : Nat} {A : Option Addr} {n c : Nat} {A' : Option Addr} {m c' : Nat} {f : Int} {x : Nm} {hA : Option Addr} {hn hc : Nat} {mA : Option Addr} {mn mc : Nat} {q : Bool} {S : List ByteArray} {V : List Wr} {H M : List ByteArray}
    (h : Wd w b A n c A' m c' f x hA hn hc mA mn mc q S V H M) {g : Nat} (hg : w.grownBy w' (some g)) (hn' : NoStr w g) (hne : b ≠ g) : Wd w' b A n c A' m c' f x hA hn hc mA mn mc q S V H M :=
  ⟨h.blk.of_block (hg.block b h.lt (by simpa using hne)), h.dev.only hn' hg, h.has.secOnly hn' hg, h.may.secOnly hn' hg⟩

set_option maxRecDepth 100000 in
set_option maxHeartbeats 4000000 in
theorem open_any (HO : OpenC) (HS : SaveC) (i : Nat) (hi : i ≤ 23) (w : World) (b : Nat) (A : Option Addr) (n c : Nat) (A' : Option Addr) (m c' : Nat) (x : Nm) (hA : Option Addr) (hn hc : Nat) (mA : Option Addr) (mn mc : Nat) (S : List ByteArray) (H M : List ByteArray)
    (hT : Tab w) (hW : Wd w b A n c A' m c' (-1) x hA hn hc mA mn mc false S [] H M) (hI : WI i S x H M) (hx : x.live = false) (sv : Bool) (t : ByteArray) (z : Nat) (cA : Option Addr) (cm cc : Nat) (cs : List UInt8) (hC : RV w cA cm 1 (UV cs)) (hcm : (cm : Int) ≤ 30) (hz : z < 256) :
    Calls Tryz.prog 23 #[.pointer (some ⟨b, 0, none⟩), DV A n c A' m c' (-1), PV8 sv t z cA cm cc] w fun r w' => r = .returned (.tuple #[]) ∧ ∃ S' x' F, WdP w w' b x' S' [] F F ∧ WI (i + 1) S' x' F F := by
  obtain ⟨hopn, hts, F, hF, hFo, hOk, S2, W2, f2, x2, e2, hsv, hck2, hf2, hcs⟩ := hI.open_ hi hx (armF ((z : Int) - 1)) (by unfold armF; omega) (ints cs)
  have hchk : chk S [] (-1) = 0 := hI.good.chk (by omega)
  have hb0 : Below w.heap.size w ((w.alloc (.cells #[.slice A n c, .slice A' m c', .int .i64 (-1)] 29)).alloc (.cells #[.bool sv, .string t, .int .u8 z, .slice cA cm cc] 61)) := (new1 _ _).push _
  have hX0 : St ((w.alloc (.cells #[.slice A n c, .slice A' m c', .int .i64 (-1)] 29)).alloc (.cells #[.bool sv, .string t, .int .u8 z, .slice cA cm cc] 61)) w.heap.size A n c A' m c' (-1) := (St.new w A n c A' m c' (-1) 29).alloc _
  have hY0 : Blk ((w.alloc (.cells #[.slice A n c, .slice A' m c', .int .i64 (-1)] 29)).alloc (.cells #[.bool sv, .string t, .int .u8 z, .slice cA cm cc] 61)) (w.heap.size + 1) 61 [.bool sv, .string t, .int .u8 z, .slice cA cm cc] := by
    have := Blk.new (w.alloc (.cells #[.slice A n c, .slice A' m c', .int .i64 (-1)] 29)) 61 #[.bool sv, .string t, .int .u8 z, .slice cA cm cc]
    rwa [World.size_alloc] at this
  have HBf := Lib.hid (fun W (hb : Below ((w.alloc (.cells #[.slice A n c, .slice A' m c', .int .i64 (-1)] 29)).alloc (.cells #[.bool sv, .string t, .int .u8 z, .slice cA cm cc] 61)).heap.size ((w.alloc (.cells #[.slice A n c, .slice A' m c', .int .i64 (-1)] 29)).alloc (.cells #[.bool sv, .string t, .int .u8 z, .slice cA cm cc] 61)) W) => grown_below (hb0.call hb) (some b))
  have HT0 := Lib.hid (Shf.tab_call hT hb0)
  have HW0 := Lib.hid (hW.call hb0)
  have HC0 := Lib.hid (hC.below hb0)
  have hbl := hW.lt
  have HY0 := Lib.hid hY0
  have HX0 := Lib.hid hX0
  have HOpn := Lib.hid hopn
  have HFe := Lib.hid hF
  have HFo := Lib.hid hFo
  have HOk := Lib.hid hOk
  have HSv := Lib.hid hsv
  have HCk2 := Lib.hid hck2
  have HCs := Lib.hid hcs
  have HTs := Lib.hid hts
  have HHl := Lib.hid hW.has.sec
  have HMl := Lib.hid hW.may.sec
  have HHO : Hid (H.length ≤ 23 ∧ M.length ≤ 23) := Lib.hid ⟨Nat.le_trans hI.1.len hi, Nat.le_trans hI.2.1.len hi⟩
  have HArm : Hid (∀ W, Below ((w.alloc (.cells #[.slice A n c, .slice A' m c', .int .i64 (-1)] 29)).alloc (.cells #[.bool sv, .string t, .int .u8 z, .slice cA cm cc] 61)).heap.size ((w.alloc (.cells #[.slice A n c, .slice A' m c', .int .i64 (-1)] 29)).alloc (.cells #[.bool sv, .string t, .int .u8 z, .slice cA cm cc] 61)) W → Calls Tryz.prog 24 #[DV A n c A' m c' (-1), .int .i64 ((z : Int) - 1)] W (RetD W S [] (armF ((z : Int) - 1)))) := Lib.hid (fun W hb => by
    have := arm_any A n c A' m c' (-1) S [] ((z : Int) - 1) W ((HW0.out.dev).below hb)
    rwa [if_pos hchk] at this)
  unfold RetD at HArm
  clear hT hW hI hC hb0 hX0 hY0 hopn hts hF hFo hOk hsv hck2 hcs hchk
  have hw1 : IntKind.i64.wrap (z : Int) = z := IntWalk.i64_in _ (by omega)
  have hw2 : IntKind.i64.wrap ((z : Int) - 1) = (z : Int) - 1 := IntWalk.i64_in _ (by omega)
  go_enter Tryz.func23, Tryz.ntmps23
  go_upto_region 1 with fail
  generalize (w.alloc (.cells #[.slice A n c, .slice A' m c', .int .i64 (-1)] 29)).alloc (.cells #[.bool sv, .string t, .int .u8 z, .slice cA cm cc] 61) = w0 at *
  obtain ⟨d0, d1, d2, -, -, -⟩ := HX0.out.box
  have hld := HX0.out.lt
  have s2 : w0.cell? ⟨w.heap.size + 1, 2, none⟩ = some (.int .u8 z) := HY0.out.cell (i := 2) (by simp)
  have hls := HY0.out.lt
  generalize armF ((z : Int) - 1) = af at *
  go_wp2_with fail
  with_reducible refine (HArm.out _ (Below.refl _ _)).mono ?_
  rintro r w1 ⟨A1, n1, c1, A1', m1, c1', rfl, hd1, hb1⟩
  have HO1 := Lib.hid (HO w1 A1 n1 c1 A1' m1 c1' af S [] hd1 (Shf.tab_call HT0.out hb1) HOpn.out)
  have HB1 := Lib.hid hb1
  unfold RetO at HO1
  clear hd1 hb1 HArm d0 d1 d2 hld s2 hls
  go_wp2_with fail
  with_reducible refine HO1.out.mono ?_
  rintro r w2 ⟨A2, n2, c2, A2', m2, c2', B2, q2, k2, rfl, hd2, hr2, hb2⟩
  generalize hox : opnX S [] af = x1 at *
  have hb3 := (HB1.out.call hb2).push (.cells #[.slice A2 n2 c2, .slice A2' m2 c2', .int .i64 af, .int .i64 x1.slot, .int .i64 x1.gen, .int .i64 x1.stamp, .int .i64 x1.at_, .int .i64 x1.no, .bool x1.live] 31)
  have HB3 := Lib.hid hb3
  have HS3 := Lib.hid (Sx.new w2 A2 n2 c2 A2' m2 c2' af x1)
  have HD3 := Lib.hid (hd2.new (.cells #[.slice A2 n2 c2, .slice A2' m2 c2', .int .i64 af, .int .i64 x1.slot, .int .i64 x1.gen, .int .i64 x1.stamp, .int .i64 x1.at_, .int .i64 x1.no, .bool x1.live] 31))
  have HR3 := Lib.hid (hr2.below (new1 w2 (.cells #[.slice A2 n2 c2, .slice A2' m2 c2', .int .i64 af, .int .i64 x1.slot, .int .i64 x1.gen, .int .i64 x1.stamp, .int .i64 x1.at_, .int .i64 x1.no, .bool x1.live] 31)))
  have HSb : Hid (w0.heap.size ≤ w2.heap.size) := Lib.hid (HB1.out.call hb2).size
  have hq2 := hr2.sec
  have HOx := Lib.hid hox
  clear hd2 hr2 hb2 hb3 HO1 HB1 hox
  go_upto_region 2 with fail
  generalize w2.alloc (.cells #[.slice A2 n2 c2, .slice A2' m2 c2', .int .i64 af, .int .i64 x1.slot, .int .i64 x1.gen, .int .i64 x1.stamp, .int .i64 x1.at_, .int .i64 x1.no, .bool x1.live] 31) = w3 at *
  generalize w2.heap.size = tb at *
  have HUn := Lib.hid (by
    have hFl : (un (opnT S [] af)).length + (opnL S [] af).length ≤ 23 := by rw [← List.length_append, HFe.out]; have := HOk.out.len; omega
    have := unpack_any (opnT S [] af) B2 q2 k2 (opnL S [] af) w3 HR3.out (by have := HTs.out; omega) (by omega)
    rwa [HFe.out] at this)
  generalize opnT S [] af = ot at *
  clear hq2
  go_wp2_with fail
  with_reducible refine HUn.out.mono ?_
  rintro r w4 ⟨B4, q4, k4, rfl, hr4, hb4⟩
  have HB4 := Lib.hid (HB3.out.call hb4)
  have HS4 := Lib.hid (HS3.out.call hb4)
  have HD4 := Lib.hid (HD3.out.below hb4)
  have HR4 := Lib.hid hr4
  have HQ4 := Lib.hid hr4.sec
  have hq4 : (q4 : Int) ≤ 23 := by have := hr4.sec; have := HOk.out.len; omega
  have HW4 := Lib.hid (HW0.out.call HB4.out)
  clear hr4 hb4 HUn HB3 HS3 HD3 HR3
  go_upto_region 3 with fail
  go_cut [45] (fun s45 wx => s45 = .bool false ∧ Hid (Below w4.heap.size w4 wx))
  case first =>
    obtain ⟨-, -, -, -, -, -, -, -, -, b9, b10, -⟩ := HW4.out.cells
    have hlb := HW4.out.lt
    have HSa := Lib.hid (sames_any B4 q4 k4 hA hn hc F H w4 HR4.out HW4.out.has (by omega))
    by_cases hFH : F = H
    · rw [decide_eq_true hFH] at HSa
      go_wp2_with (go_at_call 13; with_reducible refine HSa.out.mono ?_; rintro r w5 ⟨rfl, hb5⟩; have HB5 := Lib.hid hb5; clear hb5)
      go_meet
      exact ⟨rfl, HB5⟩
    · rw [decide_eq_false hFH] at HSa
      have hFM : F = M := HFo.out.resolve_left hFH
      have HSm := Lib.hid (fun W (hb : Below w4.heap.size w4 W) => sames_any B4 q4 k4 mA mn mc F M W (HR4.out.below hb) (HW4.out.may.below hb) (by omega))
      simp only [decide_eq_true hFM] at HSm
      go_wp2_with fail
      with_reducible refine HSa.out.mono ?_
      rintro r w5 ⟨rfl, hb5⟩
      have HB5 := Lib.hid hb5
      have b10' := (hb5.cell (p := ⟨b, 10, none⟩) hlb).trans b10
      have hlb5 : b < w5.heap.size := Nat.lt_of_lt_of_le hlb hb5.size
      clear b9 b10 hlb hb5 HSa
      go_wp2_with (go_at_call 13; with_reducible refine (HSm.out _ HB5.out).mono ?_; rintro r w6 ⟨rfl, hb6⟩; have HB6 := Lib.hid (HB5.out.call hb6); clear hb6)
      go_meet
      exact ⟨rfl, HB6⟩
  case rest =>
    obtain ⟨rfl, HB5⟩ := hcut
    have HG5 := Lib.hid (HBf.out _ (HB4.out.call HB5.out))
    have HT5 := Lib.hid (Shf.tab_call HT0.out (HB4.out.call HB5.out))
    have HW5 := Lib.hid (HW4.out.call HB5.out)
    have HS5 := Lib.hid (HS4.out.call HB5.out)
    have HD5 := Lib.hid (HD4.out.below HB5.out)
    have HR5 := Lib.hid (HR4.out.below HB5.out)
    have HC5 := Lib.hid (HC0.out.below (HB4.out.call HB5.out))
    have HY5 := Lib.hid (HY0.out.call (HB4.out.call HB5.out))
    obtain ⟨c0, c1, c2_, c3, c4, c5, c6, c7, c8, c9, c10, c11⟩ := HW5.out.cells
    obtain ⟨f0, f1, f2_, f3, f4, f5, f6, f7, f8, f9, f10, f11⟩ := HW5.out.live
    have hlw := HW5.out.lt
    have hbw0 := HW0.out.lt
    go_upto_region 6 with fail
    obtain ⟨hWa, hga⟩ := HW5.out.setHas (d := k4) HR5.out
    obtain ⟨hW6, hgb⟩ := hWa.setMay (d := k4) hWa.has
    have hg6 := grown_trans hga hgb
    have hnb : ¬ b = tb := by have := HSb.out; omega
    have hns : ¬ b = w.heap.size + 1 := by omega
    have HW6 := Lib.hid hW6
    have HG6 := Lib.hid (grown_trans HG5.out hg6)
    have HT6 := Lib.hid (HW5.out.tab HT5.out hg6)
    have HS6 : Hid (Sx _ tb A2 n2 c2 A2' m2 c2' af x1) := Lib.hid ⟨HS5.out.blk.of_block (hg6.block tb HS5.out.lt (by simp; omega))⟩
    have HD6 := Lib.hid (HD5.out.only HW5.out.ns hg6)
    have HC6 := Lib.hid (uv_only HC5.out HW5.out.nb hg6)
    have HY6 := Lib.hid (HY5.out.of_block (hg6.block (w.heap.size + 1) HY5.out.lt (by simp; omega)))
    have HRf := Lib.hid hW6.has
    have HPk := Lib.hid (fun W (hr : RV W B4 q4 1 (SV F)) => pack_any B4 q4 k4 F W hr HOk.out.sz (by omega))
    have HSa : Hid (∀ W, Dev W A2 n2 c2 A2' m2 c2' af S [] → Tab W → Calls Tryz.prog 15 #[TV A2 n2 c2 A2' m2 c2' af x1, .string (pk F)] W (RetT W ⟨S2, W2, f2, x2, e2⟩)) := Lib.hid (fun W hD hT => by
      have := HS W A2 n2 c2 A2' m2 c2' af S [] x1 (pk F) hD hT (by have := opnX_slot S [] af; rw [HOx.out] at this; omega) (by have := opnX_slot S [] af; rw [HOx.out] at this; omega)
      rwa [HSv.out] at this)
    unfold RetT at HSa
    dsimp only at HSa
    generalize pk F = pf at *
    clear c0 c1 c2_ c3 c4 c5 c6 c7 c8 c9 c10 c11 f0 f1 f2_ f3 f4 f5 f6 f7 f8 f9 f10 f11 hlw hWa hga hW6 hgb hg6 HW5 HS5 HD5 HR5 HC5 HY5 HT5 HG5 HW4 HS4 HD4 HR4 HB4 HB5
    generalize (wc.setCell ⟨b, 9, none⟩ (.slice B4 q4 k4)).setCell ⟨b, 10, none⟩ (.slice B4 q4 k4) = w6 at *
    go_cut [9] (fun s9 wx => s9 = .int .i64 e2 ∧ Hid (∃ A3 n3 c3 A3' m3 c3', Sx wx tb A3 n3 c3 A3' m3 c3' f2 x2 ∧ Dev wx A3 n3 c3 A3' m3 c3' f2 S2 W2 ∧ w6.grownBy wx (some tb)))
    case first =>
      obtain ⟨e0, e1, e2_, e3, e4, e5, e6, e7, e8⟩ := HS6.out.cells
      obtain ⟨g0, g1, g2, g3, g4, g5, g6, g7, g8⟩ := HS6.out.live
      have hlt := HS6.out.lt
      go_region_with (first
        | (go_at_call 25; with_reducible refine (HPk.out _ (by first | exact HRf.out | exact HRf.out.below (Below.drew (Below.refl _ _)))).mono ?_; rintro r w7 ⟨rfl, hb7⟩; have HB7 := Lib.hid (Dsk.undrew hb7); obtain ⟨e0, e1, e2_, e3, e4, e5, e6, e7, e8⟩ := (HS6.out.call (Dsk.undrew hb7)).cells; obtain ⟨g0, g1, g2, g3, g4, g5, g6, g7, g8⟩ := (HS6.out.call (Dsk.undrew hb7)).live; have hlt := (HS6.out.call (Dsk.undrew hb7)).lt; clear hb7)
        | (go_at_call 15; with_reducible refine (HSa.out _ (HD6.out.below HB7.out) (Shf.tab_call HT6.out HB7.out)).mono ?_; rintro r w8 ⟨A3, n3, c3_, A3', m3, c3', rfl, hd8, hb8⟩; have HB8 := Lib.hid (HB7.out.call hb8); have HD8 := Lib.hid hd8; obtain ⟨e0, e1, e2_, e3, e4, e5, e6, e7, e8⟩ := (HS6.out.call HB8.out).cells; obtain ⟨g0, g1, g2, g3, g4, g5, g6, g7, g8⟩ := (HS6.out.call HB8.out).live; have hlt := (HS6.out.call HB8.out).lt; clear hd8 hb8))
      all_goals
        go_wp2_with fail
        go_meet
        have hS8 := HS6.out.call HB8.out
        obtain ⟨hS9, hg9⟩ := hS8.put A3 n3 c3_ A3' m3 c3' f2 x2 rfl
        exact ⟨rfl, Lib.hid ⟨_, _, _, _, _, _, hS9, HD8.out.only hS8.ns hg9, grown_trans (grown_below HB8.out _) hg9⟩⟩
    case rest =>
      obtain ⟨rfl, HE⟩ := hcut
      obtain ⟨A3, n3, c3, A3', m3, c3', hS9, hD9, hg9⟩ := HE.out
      have HS9 := Lib.hid hS9
      have HD9 := Lib.hid hD9
      have HW9 := Lib.hid (HW6.out.other hg9 HS6.out.ns hnb)
      have HC9 := Lib.hid (uv_only HC6.out (NoByte.of_blk HS6.out.blk (by simp)) hg9)
      have HY9 := Lib.hid (HY6.out.of_block (hg9.block (w.heap.size + 1) HY6.out.lt (by simp; have := HSb.out; have := HY0.out.lt; omega)))
      have HG9 := Lib.hid (grown_far HG6.out hg9 (by have := HSb.out; have := HY0.out.lt; omega))
      clear hS9 hD9 hg9 HE HSa HPk HD6 HS6 HT6 HRf HC6 HY6
      obtain ⟨c0, c1, c2_, c3_, c4, c5, c6, c7, c8, c9, c10, c11⟩ := HW9.out.cells
      obtain ⟨f0, f1, f2_, f3, f4, f5, f6, f7, f8, f9, f10, f11⟩ := HW9.out.live
      have hlw := HW9.out.lt
      obtain ⟨e0, e1, e2_, e3, e4, e5, e6, e7, e8⟩ := HS9.out.cells
      have hlt := HS9.out.lt
      go_upto_region 8 with fail
      obtain ⟨hW10, hg10⟩ := HW9.out.state HD9.out x2 rfl
      have HW10 := Lib.hid hW10
      have HG10 := Lib.hid (grown_trans HG9.out hg10)
      have HC10 := Lib.hid (uv_only HC9.out HW9.out.nb hg10)
      have hY10 := HY9.out.of_block (hg10.block (w.heap.size + 1) HY9.out.lt (by simp; omega))
      have y0 := hY10.cell (i := 0) (by simp)
      have y1 := hY10.cell (i := 1) (by simp)
      have y2 := hY10.cell (i := 2) (by simp)
      have y3 := hY10.cell (i := 3) (by simp)
      have hly := hY10.lt
      simp only [List.getElem_cons_zero, List.getElem_cons_succ] at y0 y1 y2 y3
      clear c0 c1 c2_ c3_ c4 c5 c6 c7 c8 c9 c10 c11 f0 f1 f2_ f3 f4 f5 f6 f7 f8 f9 f10 f11 hlw e0 e1 e2_ e3 e4 e5 e6 e7 e8 hlt hW10 hg10 hY10
      generalize ((((((((wc.setCell ⟨b, 0, none⟩ (.slice A3 n3 c3)).setCell ⟨b, 1, none⟩ (.slice A3' m3 c3')).setCell ⟨b, 2, none⟩ (.int .i64 f2)).setCell ⟨b, 3, none⟩ (.int .i64 x2.slot)).setCell ⟨b, 4, none⟩ (.int .i64 x2.gen)).setCell ⟨b, 5, none⟩ (.int .i64 x2.stamp)).setCell ⟨b, 6, none⟩ (.int .i64 x2.at_)).setCell ⟨b, 7, none⟩ (.int .i64 x2.no)).setCell ⟨b, 8, none⟩ (.bool x2.live) = w10 at *
      rcases HCs.out with ⟨rfl, rfl, hWI⟩ | ⟨rfl, hWI⟩
      · have HAf := Lib.hid (after_ok w10 b A3 n3 c3 A3' m3 c3' f2 x2 B4 q4 k4 B4 q4 k4 S2 [] F F HW10.out HCk2.out sv t z cA cm cc cs HC10.out (by omega))
        have HWI := Lib.hid hWI
        clear hWI
        go_wp2_with (go_at_call 26; with_reducible refine HAf.out.mono ?_; rintro r w11 ⟨rfl, hP⟩; have HP := Lib.hid hP; clear hP)
        go_end0
        obtain ⟨a1, a2, a3, a4, a5, a6, a7, a8, a9, a10, a11, a12, hw, hg⟩ := HP.out
        exact ⟨rfl, S2, x2, F, ⟨a1, a2, a3, a4, a5, a6, a7, a8, a9, a10, a11, a12, hw, grown_trans HG10.out hg⟩, HWI.out⟩
      · have HAf := Lib.hid (after_down w10 b A3 n3 c3 A3' m3 c3' f2 x2 B4 q4 k4 B4 q4 k4 S2 W2 F F HW10.out HCk2.out sv t z cA cm cc cs HC10.out (by omega))
        have HWI := Lib.hid (hWI zx rfl)
        clear hWI
        go_wp2_with (go_at_call 26; with_reducible refine HAf.out.mono ?_; rintro r w11 ⟨rfl, hP⟩; have HP := Lib.hid hP; clear hP)
        go_end0
        obtain ⟨a1, a2, a3, a4, a5, a6, a7, a8, a9, a10, a11, a12, hw, hg⟩ := HP.out
        exact ⟨rfl, _, zx, F, ⟨a1, a2, a3, a4, a5, a6, a7, a8, a9, a10, a11, a12, hw, grown_trans HG10.out hg⟩, HWI.out⟩

end Go.Proofs.YtkglolnghihegaaGreatDoor.Sto
