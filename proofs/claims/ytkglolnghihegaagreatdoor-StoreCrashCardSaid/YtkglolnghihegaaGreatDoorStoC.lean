import Derived.Test.YtkglolnghihegaaGreatDoorStoP
import Derived.Test.YtkglolnghihegaaGreatDoorStoWorld
import Derived.Test.YtkglolnghihegaaGreatDoorSltP
import Derived.Test.YtkglolnghihegaaGreatDoorDskB
import Derived.Deep.RegionHeld3
import Derived.Deep.RegionWith
import Derived.Test.YtkglolnghihegaaGreatDoorSlotsSave
import Derived.Test.YtkglolnghihegaaGreatDoorJrnPut
import Derived.Test.YtkglolnghihegaaGreatDoorDskS
import Derived.Test.YtkglolnghihegaaGreatDoorSlotsTop
import Derived.Test.YtkglolnghihegaaGreatDoorJrnC

/- States of a store in variables; own, best and saved of package store. -/
namespace Go.Proofs.YtkglolnghihegaaGreatDoor.Sto
open Go.RowKit Go.Proofs.YtkglolnghihegaaGreatDoor.Dsk Go.Proofs.YtkglolnghihegaaGreatDoor.Slt
open Go.Proofs.YtkglolnghihegaaGreatDoor.Crc (Tab)

/-- The state of nothing. -/
abbrev zN : Nm := ⟨0, 0, 0, 0, 0, false⟩
abbrev D79 (A : Option Addr) (n c : Nat) (A' : Option Addr) (m c' : Nat) (f : Int) : Obj := .cells #[.slice A n c, .slice A' m c', .int .i64 f] 79
/-- A variable of a state. -/
abbrev TO (T : TypeId) (A : Option Addr) (n c : Nat) (A' : Option Addr) (m c' : Nat) (f x0 x1 x2 x3 x4 : Int) (x5 : Bool) : Obj := .cells #[.slice A n c, .slice A' m c', .int .i64 f, .int .i64 x0, .int .i64 x1, .int .i64 x2, .int .i64 x3, .int .i64 x4, .bool x5] T

theorem below_grown {a w w' : World} {g : Nat} (h : Below a.heap.size a w) (hg : w.grownBy w' (some g)) (hl : a.heap.size ≤ g) : Below a.heap.size a w' :=
  ⟨hg.os.trans h.os, hg.tape.trans h.tape, hg.output.trans h.output, Nat.le_trans h.size hg.size, fun k hk => (hg.block k (Nat.lt_of_lt_of_le hk h.size) (by simp; omega)).trans (h.block k hk)⟩

/-- A variable that holds a state (of the program's, or of the document's). -/
structure Sy (T : TypeId) (w : World) (b : Nat) (A : Option Addr) (n c : Nat) (A' : Option Addr) (m c' : Nat) (f x0 x1 x2 x3 x4 : Int) (x5 : Bool) : Prop where
  blk : Blk w b T [.slice A n c, .slice A' m c', .int .i64 f, .int .i64 x0, .int .i64 x1, .int .i64 x2, .int .i64 x3, .int .i64 x4, .bool x5]
section
variable {T : TypeId} {w w' : World} {b : Nat} {A : Option Addr} {n c : Nat} {A' : Option Addr} {m c' : Nat} {f x0 x1 x2 x3 x4 : Int} {x5 : Bool}
theorem Sy.call (h : Sy T w b A n c A' m c' f x0 x1 x2 x3 x4 x5) (hb : Below w.heap.size w w') : Sy T w' b A n c A' m c' f x0 x1 x2 x3 x4 x5 := ⟨h.blk.call hb⟩
theorem Sy.alloc (h : Sy T w b A n c A' m c' f x0 x1 x2 x3 x4 x5) (o : Obj) : Sy T (w.alloc o) b A n c A' m c' f x0 x1 x2 x3 x4 x5 := ⟨h.blk.call (new1 _ _)⟩
theorem Sy.lt (h : Sy T w b A n c A' m c' f x0 x1 x2 x3 x4 x5) : b < w.heap.size := h.blk.lt
theorem Sy.ns (h : Sy T w b A n c A' m c' f x0 x1 x2 x3 x4 x5) : NoStr w b := NoStr.of_blk h.blk (by simp)
theorem Sy.new (T : TypeId) (w : World) (A : Option Addr) (n c : Nat) (A' : Option Addr) (m c' : Nat) (f x0 x1 x2 x3 x4 : Int) (x5 : Bool) : Sy T (w.alloc (TO T A n c A' m c' f x0 x1 x2 x3 x4 x5)) w.heap.size A n c A' m c' f x0 x1 x2 x3 x4 x5 := ⟨Blk.new _ _ _⟩
theorem Sy.cells (h : Sy T w b A n c A' m c' f x0 x1 x2 x3 x4 x5) :
    w.cell? ⟨b, 0, none⟩ = some (.slice A n c) ∧ w.cell? ⟨b, 1, none⟩ = some (.slice A' m c') ∧ w.cell? ⟨b, 2, none⟩ = some (.int .i64 f) ∧ w.cell? ⟨b, 3, none⟩ = some (.int .i64 x0) ∧ w.cell? ⟨b, 4, none⟩ = some (.int .i64 x1) ∧ w.cell? ⟨b, 5, none⟩ = some (.int .i64 x2) ∧
    w.cell? ⟨b, 6, none⟩ = some (.int .i64 x3) ∧ w.cell? ⟨b, 7, none⟩ = some (.int .i64 x4) ∧ w.cell? ⟨b, 8, none⟩ = some (.bool x5) :=
  ⟨h.blk.cell (i := 0) (by simp), h.blk.cell (i := 1) (by simp), h.blk.cell (i := 2) (by simp), h.blk.cell (i := 3) (by simp), h.blk.cell (i := 4) (by simp), h.blk.cell (i := 5) (by simp), h.blk.cell (i := 6) (by simp), h.blk.cell (i := 7) (by simp), h.blk.cell (i := 8) (by simp)⟩
theorem Sy.live (h : Sy T w b A n c A' m c' f x0 x1 x2 x3 x4 x5) :
    w.frozen? ⟨b, 0, none⟩ = false ∧ w.frozen? ⟨b, 1, none⟩ = false ∧ w.frozen? ⟨b, 2, none⟩ = false ∧ w.frozen? ⟨b, 3, none⟩ = false ∧ w.frozen? ⟨b, 4, none⟩ = false ∧ w.frozen? ⟨b, 5, none⟩ = false ∧
    w.frozen? ⟨b, 6, none⟩ = false ∧ w.frozen? ⟨b, 7, none⟩ = false ∧ w.frozen? ⟨b, 8, none⟩ = false :=
  ⟨h.blk.frozen 0, h.blk.frozen 1, h.blk.frozen 2, h.blk.frozen 3, h.blk.frozen 4, h.blk.frozen 5, h.blk.frozen 6, h.blk.frozen 7, h.blk.frozen 8⟩
theorem Sy.other (h : Sy T w b A n c A' m c' f x0 x1 x2 x3 x4 x5) {g : Nat} (hg : w.grownBy w' (some g)) (hne : b ≠ g) : Sy T w' b A n c A' m c' f x0 x1 x2 x3 x4 x5 :=
  ⟨h.blk.of_block (hg.block b h.lt (by simpa using hne))⟩
/-- A new disk is stored. -/
theorem Sy.put3 (h : Sy T w b A n c A' m c' f x0 x1 x2 x3 x4 x5) (B : Option Addr) (p d : Nat) (B' : Option Addr) (r d' : Nat) (g : Int) (e : w' = (((w.setCell ⟨b, 0, none⟩ (.slice B p d)).setCell ⟨b, 1, none⟩ (.slice B' r d')).setCell ⟨b, 2, none⟩ (.int .i64 g))) :
    Sy T w' b B p d B' r d' g x0 x1 x2 x3 x4 x5 ∧ w.grownBy w' (some b) := by
  subst e
  have hg := grown_set (grown_set (grown_set (World.grownBy.refl w (some b)) 0 (.slice B p d)) 1 (.slice B' r d')) 2 (.int .i64 g)
  have hB := ((h.blk.set_ 0 (.slice B p d)).set_ 1 (.slice B' r d')).set_ 2 (.int .i64 g)
  exact ⟨⟨by simpa using hB⟩, hg⟩
/-- A new state is stored. -/
theorem Sy.put (h : Sy T w b A n c A' m c' f x0 x1 x2 x3 x4 x5) (B : Option Addr) (p d : Nat) (B' : Option Addr) (r d' : Nat) (g y0 y1 y2 y3 y4 : Int) (y5 : Bool) (e : w' = (((((((((w.setCell ⟨b, 0, none⟩ (.slice B p d)).setCell ⟨b, 1, none⟩ (.slice B' r d')).setCell ⟨b, 2, none⟩ (.int .i64 g)).setCell ⟨b, 3, none⟩ (.int .i64 y0)).setCell ⟨b, 4, none⟩ (.int .i64 y1)).setCell ⟨b, 5, none⟩ (.int .i64 y2)).setCell ⟨b, 6, none⟩ (.int .i64 y3)).setCell ⟨b, 7, none⟩ (.int .i64 y4)).setCell ⟨b, 8, none⟩ (.bool y5))) :
    Sy T w' b B p d B' r d' g y0 y1 y2 y3 y4 y5 ∧ w.grownBy w' (some b) := by
  subst e
  have hg := grown_set (grown_set (grown_set (grown_set (grown_set (grown_set (grown_set (grown_set (grown_set (World.grownBy.refl w (some b)) 0 (.slice B p d)) 1 (.slice B' r d')) 2 (.int .i64 g)) 3 (.int .i64 y0)) 4 (.int .i64 y1)) 5 (.int .i64 y2)) 6 (.int .i64 y3)) 7 (.int .i64 y4)) 8 (.bool y5)
  have hB := ((((((((h.blk.set_ 0 (.slice B p d)).set_ 1 (.slice B' r d')).set_ 2 (.int .i64 g)).set_ 3 (.int .i64 y0)).set_ 4 (.int .i64 y1)).set_ 5 (.int .i64 y2)).set_ 6 (.int .i64 y3)).set_ 7 (.int .i64 y4)).set_ 8 (.bool y5)
  exact ⟨⟨by simpa using hB⟩, hg⟩
end

section
variable (A : Option Addr) (n c : Nat) (A' : Option Addr) (m c' : Nat) (f : Int) (S : List ByteArray) (V : List Wr) (w : World)

set_option maxRecDepth 100000 in
set_option maxHeartbeats 1000000 in
theorem dev_own (hD : Dev w A n c A' m c' f S V) : Calls Tryz.prog 36 #[DV A n c A' m c' f] w (RetD w S V f) := by
  have hb0 : Below w.heap.size w ((w.alloc (D79 A n c A' m c' f)).alloc (D33 none 0 0 none 0 0 0)) := (new1 _ _).push _
  have hX0 : Box ((w.alloc (D79 A n c A' m c' f)).alloc (D33 none 0 0 none 0 0 0)) w.heap.size (.slice A n c) (.slice A' m c') (.int .i64 f) := (Box.new w (.slice A n c) (.slice A' m c') (.int .i64 f) 79).alloc (D33 none 0 0 none 0 0 0)
  have hY0 : Box ((w.alloc (D79 A n c A' m c' f)).alloc (D33 none 0 0 none 0 0 0)) (w.heap.size + 1) (.slice none 0 0) (.slice none 0 0) (.int .i64 0) := by have := Box.new (w.alloc (D79 A n c A' m c' f)) (.slice none 0 0) (.slice none 0 0) (.int .i64 0) 29; rwa [World.size_alloc] at this
  have HD := Lib.hid hD
  clear hD
  go_enter Tryz.func36, Tryz.ntmps36
  go_wp2_with fail
  generalize (w.alloc (D79 A n c A' m c' f)).alloc (D33 none 0 0 none 0 0 0) = w1 at *
  have HB := Lib.hid hb0
  have HX := Lib.hid hX0
  have HY := Lib.hid hY0
  have hzz : w.heap.size + 1 < w1.heap.size := HY.out.lt
  obtain ⟨c0, c1, c2, f0, f1, f2⟩ := HX.out
  clear hb0 hX0 hY0
  have HT := Lib.hid (clone_any A n c S w1.drew (HD.out.sec.below HB.out.drew) (by have := HD.out.sec.sec; have := HD.out.ns; omega))
  go_region_held3 (fun W => W.cell? ⟨w.heap.size, 0, none⟩ = some (.slice A n c) ∧ W.cell? ⟨w.heap.size, 1, none⟩ = some (.slice A' m c') ∧ W.cell? ⟨w.heap.size, 2, none⟩ = some (.int .i64 f)) (go_keep)
    (first
      | (go_at_call 53; ((with_reducible refine HT.out.mono ?_)); rintro r w4 ⟨v, rfl, hown, hb4⟩; obtain ⟨a4, cap4, rfl⟩ := own_val hown; obtain ⟨hc, hf⟩ := bcell hb4; have q0 : w4.cell? ⟨w.heap.size, 0, none⟩ = some (.slice A n c) := (by rw [hc _ _ (by simp; omega)]; simp [*]); have q2 : w4.cell? ⟨w.heap.size, 1, none⟩ = some (.slice A' m c') := (by rw [hc _ _ (by simp; omega)]; simp [*]); have q3 : w4.cell? ⟨w.heap.size, 2, none⟩ = some (.int .i64 f) := (by rw [hc _ _ (by simp; omega)]; simp [*]); have HB4 := Lib.hid (HB.out.call (undrew hb4)); have HY4 := Lib.hid (HY.out.call (undrew hb4)); have HO := Lib.hid hown; have hz4 := hb4.size; have HU := Lib.hid (wclone_any A' m c' V w4 (HD.out.wr.below HB4.out) (by have := HD.out.wr.wr; have := HD.out.nw; omega)); clear hc hf hown hb4)
      | (go_at_call 54; ((with_reducible refine HU.out.mono ?_)); rintro r w5 ⟨v, rfl, hown, hb5⟩; obtain ⟨a5, cap5, rfl⟩ := own_val hown; obtain ⟨hc, hf⟩ := bcell hb5; have r0 : w5.cell? ⟨w.heap.size, 0, none⟩ = some (.slice A n c) := (by rw [hc _ _ (by simp at hz4; omega)]; simp [*]); have r2 : w5.cell? ⟨w.heap.size, 1, none⟩ = some (.slice A' m c') := (by rw [hc _ _ (by simp at hz4; omega)]; simp [*]); have r3 : w5.cell? ⟨w.heap.size, 2, none⟩ = some (.int .i64 f) := (by rw [hc _ _ (by simp at hz4; omega)]; simp [*]); have HB5 := Lib.hid (HB4.out.call hb5); have HY5 := Lib.hid (HY4.out.call hb5); have HO5 := Lib.hid hown; have HO4 := Lib.hid (HO.out.kept ⟨hb5.os, hb5.tape, hb5.output, hb5.size, fun k hk _ => hb5.block k hk⟩ (row := none) (by cases a4 <;> simp [Value.ownBlock])); obtain ⟨z0, z1, z2, v0, v1, v2⟩ := HY5.out; have hz5 := hb5.size; clear hc hf hown hb5))
  go_wp2_with fail
  simp only [World.size_drew] at hz4
  have K5 := fun z : Int => keep3 HO4.out HO5.out HB5.out (show w.heap.size + 1 < w1.drew.heap.size by simp; omega) (show w.heap.size + 1 < w4.heap.size by omega) (.slice a4 n cap4) (.slice a5 m cap5) (.int .i64 z)
  exact bodyPost_ret (v := DV a4 n cap4 a5 m cap5 f) (by simp [results, Tryz.results36, go_sem, z0, z1, z2]) rfl ⟨_, n, cap4, _, m, cap5, rfl, ⟨(K5 f).1, (K5 f).2.1, HD.out.lo, HD.out.hi, HD.out.ns, HD.out.nw⟩, (K5 f).2.2⟩

theorem dev_best (hD : Dev w A n c A' m c' f S V) (hT : Tab w) : Calls Tryz.prog 34 #[DV A n c A' m c' f] w (RetB w (bestR S V f)) := by
  have b0 : Below w.heap.size w ((w.alloc (D79 A n c A' m c' f)).alloc (.cells #[.int .i64 0, .string ⟨#[]⟩] 75)) := (new1 _ _).push _
  have X0 : Bx2 ((w.alloc (D79 A n c A' m c' f)).alloc (.cells #[.int .i64 0, .string ⟨#[]⟩] 75)) (w.heap.size + 1) (.int .i64 0) (.string ⟨#[]⟩) := by have := Bx2.new (w.alloc (D79 A n c A' m c' f)) (.int .i64 0) (.string ⟨#[]⟩) 75; rwa [World.size_alloc] at this
  have HB := Lib.hid (best_any A n c A' m c' f S V _ (hD.below b0) (Shf.tab_call hT b0))
  unfold RetB at HB
  unfold RetB
  generalize bestR S V f = b at *
  obtain ⟨bz, bg, bt, be⟩ := b
  dsimp only at HB ⊢
  have HB0 := Lib.hid b0
  have HX0 := Lib.hid X0
  clear hD hT b0 X0
  go_enter Tryz.func34, Tryz.ntmps34
  go_wp2_with (go_at_call 66; with_reducible refine HB.out.mono ?_; rintro r w1 ⟨rfl, hb1⟩; have HB1 := Lib.hid (HB0.out.call hb1); have HX1 := Lib.hid (HX0.out.call hb1); obtain ⟨r0, r1, g0, g1⟩ := HX0.out.call hb1; clear hb1)
  have hr4 := HX1.out.set2 (.int .i64 bg) (.string bt)
  have hb4 := set2_below HB1.out (show w.heap.size ≤ w.heap.size + 1 by omega) (.int .i64 bg) (.string bt)
  generalize ((w1.setCell ⟨w.heap.size + 1, 0, none⟩ (.int .i64 bg)).setCell ⟨w.heap.size + 1, 1, none⟩ (.string bt)) = wf at *
  obtain ⟨k0, k1, -, -⟩ := hr4
  refine bodyPost_ret (v := .tuple #[.int .i64 bz, SNV bg bt, .int .i64 be]) (by simp [results, Tryz.results34, go_sem, k0, k1]) rfl ?_
  exact ⟨rfl, hb4⟩

/-- What is taken for the slot that was saved last. -/
def savZ (b : Bst) : Int := if b.e = 0 then b.z else 1
def savG (b : Bst) : Int := if b.e = 0 then b.g else 0
def savT (b : Bst) : ByteArray := if b.e = 0 then b.t else ⟨#[]⟩
set_option maxHeartbeats 1000000 in
theorem saved_any (hD : Dev w A n c A' m c' f S V) (hT : Tab w) : Calls Tryz.prog 33 #[.func (.func 34) #[DV A n c A' m c' f] #[]] w fun r w' => r = .returned (.tuple #[.int .i64 (savZ (bestR S V f)), SNV (savG (bestR S V f)) (savT (bestR S V f))]) ∧ Below w.heap.size w w' := by
  have b0 : Below w.heap.size w (w.alloc (.cells #[.int .i64 0, .string ⟨#[]⟩] 75)) := new1 _ _
  have X0 := Bx2.new w (.int .i64 0) (.string ⟨#[]⟩) 75
  have HB := Lib.hid (dev_best A n c A' m c' f S V _ (hD.below b0) (Shf.tab_call hT b0))
  unfold RetB at HB
  unfold savZ savG savT
  generalize bestR S V f = b at *
  obtain ⟨bz, bg, bt, be⟩ := b
  dsimp only at HB ⊢
  have HB0 := Lib.hid b0
  have HX0 := Lib.hid X0
  clear hD hT b0 X0
  by_cases he : be = 0
  · subst he
    rw [if_pos rfl, if_pos rfl, if_pos rfl]
    go_enter Tryz.func33, Tryz.ntmps33
    go_wp2_with (go_at_call 34; with_reducible refine HB.out.mono ?_; rintro r w1 ⟨rfl, hb1⟩; have HB1 := Lib.hid (HB0.out.call hb1); have HX1 := Lib.hid (HX0.out.call hb1); clear hb1)
    have HX2 := Lib.hid (HX1.out.alloc (.cells #[.int .i64 bg, .string bt] 75))
    have HB2 := Lib.hid (HB1.out.push (.cells #[.int .i64 bg, .string bt] 75))
    obtain ⟨r0, r1, g0, g1⟩ := HX2.out
    obtain ⟨n0, n1, -, -⟩ := Bx2.new w1 (.int .i64 bg) (.string bt) 75
    generalize w1.alloc (.cells #[.int .i64 bg, .string bt] 75) = w2 at *
    go_region
    all_goals (
      go_wp2_with fail
      have hr4 := HX2.out.set2 (.int .i64 bg) (.string bt)
      have hb4 := (set2_below HB2.out (Nat.le_refl _) (.int .i64 bg) (.string bt)).drew
      have k0 : ((w2.setCell ⟨w.heap.size, 0, none⟩ (.int .i64 bg)).setCell ⟨w.heap.size, 1, none⟩ (.string bt)).drew.cell? ⟨w.heap.size, 0, none⟩ = some (.int .i64 bg) := hr4.c0
      have k1 : ((w2.setCell ⟨w.heap.size, 0, none⟩ (.int .i64 bg)).setCell ⟨w.heap.size, 1, none⟩ (.string bt)).drew.cell? ⟨w.heap.size, 1, none⟩ = some (.string bt) := hr4.c1
      generalize ((w2.setCell ⟨w.heap.size, 0, none⟩ (.int .i64 bg)).setCell ⟨w.heap.size, 1, none⟩ (.string bt)).drew = wf at *
      refine bodyPost_ret (v := .tuple #[.int .i64 bz, SNV bg bt]) (by simp [results, Tryz.results33, go_sem, k0, k1]) rfl ?_
      exact ⟨rfl, hb4⟩)
  · rw [if_neg he, if_neg he, if_neg he]
    have hne := neq0 he
    go_enter Tryz.func33, Tryz.ntmps33
    go_wp2_with (go_at_call 34; with_reducible refine HB.out.mono ?_; rintro r w1 ⟨rfl, hb1⟩; have HX2 := Lib.hid ((HX0.out.call hb1).alloc (.cells #[.int .i64 bg, .string bt] 75)); have HB2 := Lib.hid ((HB0.out.call hb1).push (.cells #[.int .i64 bg, .string bt] 75)); obtain ⟨r0, r1, g0, g1⟩ := HX2.out; clear hb1)
    have hr4 := HX2.out.set2 (.int .i64 0) (.string ⟨#[]⟩)
    have hb4 := set2_below HB2.out (Nat.le_refl _) (.int .i64 0) (.string ⟨#[]⟩)
    generalize (((w1.alloc (.cells #[.int .i64 bg, .string bt] 75)).setCell ⟨w.heap.size, 0, none⟩ (.int .i64 0)).setCell ⟨w.heap.size, 1, none⟩ (.string ⟨#[]⟩)) = wf at *
    obtain ⟨k0, k1, -, -⟩ := hr4
    refine bodyPost_ret (v := .tuple #[.int .i64 1, SNV 0 ⟨#[]⟩]) (by simp [results, Tryz.results33, go_sem, k0, k1]) rfl ?_
    exact ⟨rfl, hb4⟩
end

end Go.Proofs.YtkglolnghihegaaGreatDoor.Sto

/- Contracts of Save, Log, Fits and Same of package store. -/
namespace Go.Proofs.YtkglolnghihegaaGreatDoor.Sto
open Go.RowKit Go.Proofs.YtkglolnghihegaaGreatDoor.Dsk Go.Proofs.YtkglolnghihegaaGreatDoor.Slt Go.Proofs.YtkglolnghihegaaGreatDoor.Shf
open Go.Proofs.YtkglolnghihegaaGreatDoor.Crc (Tab)

/-- What Save and Log answer. -/
def RetT (w : World) (X : Std) (r : Ending) (w' : World) : Prop :=
  ∃ A n c A' m c', r = .returned (.tuple #[TV A n c A' m c' X.f X.x, .int .i64 X.e]) ∧ Dev w' A n c A' m c' X.f X.S X.V ∧ Below w.heap.size w w'

theorem wrap_slot {x : Int} (h1 : -9223372036854775808 ≤ x) (h2 : x ≤ 9223372036854775807) (h : ¬ (x = 0 ∨ x = 1)) : isS (IntKind.i64.wrap (1 - x)) = false := by
  by_cases h3 : -9223372036854775806 ≤ x
  · rw [IntWalk.i64_in _ (by omega)]
    unfold isS
    simp
    omega
  · obtain rfl | rfl : x = -9223372036854775808 ∨ x = -9223372036854775807 := by omega
    · decide
    · decide
theorem savX_eq {S : List ByteArray} {V : List Wr} {f : Int} {x : Nm} {t : ByteArray} (h1 : -9223372036854775808 ≤ x.slot) (h2 : x.slot ≤ 9223372036854775807) {z : Int} (hz : IntKind.i64.wrap (1 - x.slot) = z) {S2 : List ByteArray} {V2 : List Wr} {F2 p2 st2 e2 : Int} (hR : saveR S V f z x.stamp x.stamp t = ⟨S2, V2, F2, p2, st2, e2⟩) :
    savX S V f x t = if e2 = 0 then ⟨S2, V2, F2, ⟨z, x.stamp, st2, 2 * sizR S2.length, 0, true⟩, 0⟩ else ⟨S2, V2, F2, x, e2⟩ := by
  unfold savX
  by_cases h : x.slot = 0 ∨ x.slot = 1
  · have e : IntKind.i64.wrap (1 - x.slot) = 1 - x.slot := IntWalk.i64_in _ (by omega)
    rw [if_pos h, show 1 - x.slot = z by rw [← hz, e], hR]
  · rw [if_neg h]
    have hn := wrap_slot h1 h2 h
    rw [hz] at hn
    unfold saveR at hR
    rw [hn, if_neg (by decide)] at hR
    injection hR with a1 a2 a3 a4 a5 a6
    subst a1 a2 a3 a6
    rw [if_neg (by decide)]

section
variable (A : Option Addr) (n c : Nat) (A' : Option Addr) (m c' : Nat) (f : Int) (S : List ByteArray) (V : List Wr) (w : World) (hD : Dev w A n c A' m c' f S V)
include hD

set_option maxHeartbeats 2000000 in
theorem sav_walk (hT : Tab w) (x0 x1 x2 x3 x4 : Int) (x5 : Bool) (t : ByteArray) (z : Int) (hz : IntKind.i64.wrap (1 - x0) = z) (S2 : List ByteArray) (V2 : List Wr) (F2 p2 st2 e2 : Int) (HPR : Hid (saveR S V f z x2 x2 t = ⟨S2, V2, F2, p2, st2, e2⟩)) :
    Calls Tryz.prog 15 #[.agg #[.slice A n c, .slice A' m c', .int .i64 f, .int .i64 x0, .int .i64 x1, .int .i64 x2, .int .i64 x3, .int .i64 x4, .bool x5], .string t] w (RetT w (if e2 = 0 then ⟨S2, V2, F2, ⟨z, x2, st2, 2 * sizR S2.length, 0, true⟩, 0⟩ else ⟨S2, V2, F2, ⟨x0, x1, x2, x3, x4, x5⟩, e2⟩)) := by
  have hb0 : Below w.heap.size w ((w.alloc (TO 31 A n c A' m c' f x0 x1 x2 x3 x4 x5)).alloc (TO 31 none 0 0 none 0 0 0 0 0 0 0 0 false)) := (new1 _ _).push _
  have hX0 : Sy 31 ((w.alloc (TO 31 A n c A' m c' f x0 x1 x2 x3 x4 x5)).alloc (TO 31 none 0 0 none 0 0 0 0 0 0 0 0 false)) w.heap.size A n c A' m c' f x0 x1 x2 x3 x4 x5 := (Sy.new 31 w A n c A' m c' f x0 x1 x2 x3 x4 x5).alloc _
  have hY0 : Sy 31 ((w.alloc (TO 31 A n c A' m c' f x0 x1 x2 x3 x4 x5)).alloc (TO 31 none 0 0 none 0 0 0 0 0 0 0 0 false)) (w.heap.size + 1) none 0 0 none 0 0 0 0 0 0 0 0 false := by
    have := Sy.new 31 (w.alloc (TO 31 A n c A' m c' f x0 x1 x2 x3 x4 x5)) none 0 0 none 0 0 0 0 0 0 0 0 false
    rwa [World.size_alloc] at this
  have HS := Lib.hid (save_any A n c A' m c' f S V z x2 x2 t _ (hD.below hb0) (Shf.tab_call hT hb0))
  rw [HPR.out] at HS
  unfold RetS at HS
  dsimp only at HS
  have HBg := Lib.hid (fun W => (begin_any S2.length W).mono (R' := fun r w' => r = .returned (.int .i64 (2 * sizR S2.length)) ∧ Below W.heap.size W w') (fun _ _ h => ⟨h.1, h.2 ▸ Below.refl _ _⟩))
  have HB0 := Lib.hid hb0
  have HX0 := Lib.hid hX0
  have HY0 := Lib.hid hY0
  clear hD hT hb0 hX0 hY0 HPR
  unfold RetT
  by_cases he : e2 = 0
  · subst he
    rw [if_pos rfl]
    dsimp only
    generalize 2 * sizR S2.length = yb at *
    go_enter Tryz.func15, Tryz.ntmps15
    go_upto_region 1 with fail
    generalize (w.alloc (TO 31 A n c A' m c' f x0 x1 x2 x3 x4 x5)).alloc (TO 31 none 0 0 none 0 0 0 0 0 0 0 0 false) = w0 at *
    obtain ⟨c0, c1, c2, c3, c4, c5, c6, c7, c8⟩ := HX0.out.cells
    have hlx := HX0.out.lt
    go_wp2_with fail
    with_reducible refine HS.out.mono ?_
    rintro r w1 ⟨A2, n2, j2, A2', m2, j2', rfl, hd2, hb2⟩
    have ne1 : ¬ w.heap.size + 1 = w1.heap.size := by have := (HY0.out.call hb2).lt; omega
    have ne2 : ¬ w1.heap.size = w.heap.size + 1 := fun e => ne1 e.symm
    have hwa : IntKind.i64.wrap 1 = 1 := by decide
    have hwb : IntKind.i64.wrap 0 = 0 := by decide
    have hwc : IntKind.i64.wrap (1 - 1) = 0 := by decide
    have hwd : IntKind.i64.wrap (1 - 0) = 1 := by decide
    have hn2 := hd2.sec.sec
    have HXa := Lib.hid ((HX0.out.call hb2).alloc (D33 A2 n2 j2 A2' m2 j2' F2))
    have HYa := Lib.hid ((HY0.out.call hb2).alloc (D33 A2 n2 j2 A2' m2 j2' F2))
    have HBa := Lib.hid ((HB0.out.call hb2).push (D33 A2 n2 j2 A2' m2 j2' F2))
    have HDa := Lib.hid (hd2.new (D33 A2 n2 j2 A2' m2 j2' F2))
    have HVa := Lib.hid (St.new w1 A2 n2 j2 A2' m2 j2' F2 29)
    rw [hn2] at HBg
    clear hd2 hb2 HS c0 c1 c2 c3 c4 c5 c6 c7 c8 hlx hn2
    obtain ⟨c0, c1, c2, c3, c4, c5, c6, c7, c8⟩ := HXa.out.cells
    have hlx := HXa.out.lt
    obtain ⟨y0, y1, y2, y3, y4, y5, y6, y7, y8⟩ := HYa.out.cells
    obtain ⟨g0, g1, g2, g3, g4, g5, g6, g7, g8⟩ := HYa.out.live
    have hly := HYa.out.lt
    obtain ⟨v0, v1, v2, u0, u1, u2⟩ := HVa.out.box
    have hlv := HVa.out.lt
    go_upto_region 6 with fail
    generalize w1.alloc (D33 A2 n2 j2 A2' m2 j2' F2) = w2 at *
    go_region_held3 (fun W => W.cell? ⟨w1.heap.size, 0, none⟩ = some (.slice A2 n2 j2) ∧ W.cell? ⟨w1.heap.size, 1, none⟩ = some (.slice A2' m2 j2') ∧ W.cell? ⟨w1.heap.size, 2, none⟩ = some (.int .i64 F2) ∧ W.cell? ⟨w.heap.size, 5, none⟩ = some (.int .i64 x2)) (go_keep)
      (first | (go_at_call 30; ((with_reducible refine (HBg.out _).mono ?_)); rintro r w6 ⟨rfl, hb6⟩; have hbw6 : Below w2.heap.size w2 w6 := (Below.call (by repeat (first | exact Below.refl _ _ | refine Below.drew ?_)) hb6); have q0 : w6.cell? ⟨w1.heap.size, 0, none⟩ = some (.slice A2 n2 j2) := (by rw [hbw6.cell (p := ⟨w1.heap.size, 0, none⟩) hlv]; exact v0); have q1 : w6.cell? ⟨w1.heap.size, 1, none⟩ = some (.slice A2' m2 j2') := (by rw [hbw6.cell (p := ⟨w1.heap.size, 1, none⟩) hlv]; exact v1); have q2 : w6.cell? ⟨w1.heap.size, 2, none⟩ = some (.int .i64 F2) := (by rw [hbw6.cell (p := ⟨w1.heap.size, 2, none⟩) hlv]; exact v2); have q3 : w6.cell? ⟨w.heap.size, 5, none⟩ = some (.int .i64 x2) := (by rw [hbw6.cell (p := ⟨w.heap.size, 5, none⟩) hlx]; exact c5); have HD6 := Lib.hid (HDa.out.below hbw6); have HY6 := Lib.hid (HYa.out.call hbw6); have HB6 := Lib.hid (HBa.out.call hbw6); obtain ⟨y0, y1, y2, y3, y4, y5, y6, y7, y8⟩ := HY6.out.cells; obtain ⟨g0, g1, g2, g3, g4, g5, g6, g7, g8⟩ := HY6.out.live; have hly := HY6.out.lt; clear hb6))
    all_goals (
      go_wp2_with fail
      obtain ⟨hY4, hg4⟩ := HY6.out.put A2 n2 j2 A2' m2 j2' F2 z x2 st2 yb 0 true rfl
      have hD4 := HD6.out.only HY6.out.ns hg4
      have hb4 := below_grown HB6.out hg4 (by omega)
      generalize (((((((((w6.setCell ⟨w.heap.size + 1, 0, none⟩ (.slice A2 n2 j2)).setCell ⟨w.heap.size + 1, 1, none⟩ (.slice A2' m2 j2')).setCell ⟨w.heap.size + 1, 2, none⟩ (.int .i64 F2)).setCell ⟨w.heap.size + 1, 3, none⟩ (.int .i64 z)).setCell ⟨w.heap.size + 1, 4, none⟩ (.int .i64 x2)).setCell ⟨w.heap.size + 1, 5, none⟩ (.int .i64 st2)).setCell ⟨w.heap.size + 1, 6, none⟩ (.int .i64 yb)).setCell ⟨w.heap.size + 1, 7, none⟩ (.int .i64 0)).setCell ⟨w.heap.size + 1, 8, none⟩ (.bool true)) = wf at *
      obtain ⟨k0, k1, k2, k3, k4, k5, k6, k7, k8⟩ := hY4.cells
      refine bodyPost_ret (v := .tuple #[.agg #[.slice A2 n2 j2, .slice A2' m2 j2', .int .i64 F2, .int .i64 z, .int .i64 x2, .int .i64 st2, .int .i64 yb, .int .i64 0, .bool true], .int .i64 0]) (by simp [results, Tryz.results15, go_sem, k0, k1, k2, k3, k4, k5, k6, k7, k8]) rfl ?_
      exact ⟨_, _, _, _, _, _, rfl, hD4, hb4⟩)
  · rw [if_neg he]
    dsimp only
    have hne := neq0 he
    go_enter Tryz.func15, Tryz.ntmps15
    go_upto_region 1 with fail
    generalize (w.alloc (TO 31 A n c A' m c' f x0 x1 x2 x3 x4 x5)).alloc (TO 31 none 0 0 none 0 0 0 0 0 0 0 0 false) = w0 at *
    obtain ⟨c0, c1, c2, c3, c4, c5, c6, c7, c8⟩ := HX0.out.cells
    have hlx := HX0.out.lt
    go_wp2_with fail
    with_reducible refine HS.out.mono ?_
    rintro r w1 ⟨A2, n2, j2, A2', m2, j2', rfl, hd2, hb2⟩
    have HXa := Lib.hid ((HX0.out.call hb2).alloc (D33 A2 n2 j2 A2' m2 j2' F2))
    have HYa := Lib.hid ((HY0.out.call hb2).alloc (D33 A2 n2 j2 A2' m2 j2' F2))
    have HBa := Lib.hid ((HB0.out.call hb2).push (D33 A2 n2 j2 A2' m2 j2' F2))
    have HDa := Lib.hid (hd2.new (D33 A2 n2 j2 A2' m2 j2' F2))
    have HVa := Lib.hid (St.new w1 A2 n2 j2 A2' m2 j2' F2 29)
    clear hd2 hb2 HS c0 c1 c2 c3 c4 c5 c6 c7 c8 hlx
    obtain ⟨c0, c1, c2, c3, c4, c5, c6, c7, c8⟩ := HXa.out.cells
    obtain ⟨f0, f1, f2, -, -, -, -, -, -⟩ := HXa.out.live
    have hlx := HXa.out.lt
    obtain ⟨v0, v1, v2, u0, u1, u2⟩ := HVa.out.box
    have hlv := HVa.out.lt
    go_upto_region 5 with fail
    obtain ⟨hX3, hg3⟩ := HXa.out.put3 A2 n2 j2 A2' m2 j2' F2 rfl
    have hD3 := HDa.out.only HXa.out.ns hg3
    have hb3 := below_grown HBa.out hg3 (Nat.le_refl _)
    have hY3 := HYa.out.other hg3 (by omega)
    generalize (((w1.alloc (D33 A2 n2 j2 A2' m2 j2' F2)).setCell ⟨w.heap.size, 0, none⟩ (.slice A2 n2 j2)).setCell ⟨w.heap.size, 1, none⟩ (.slice A2' m2 j2')).setCell ⟨w.heap.size, 2, none⟩ (.int .i64 F2) = w3 at *
    clear c0 c1 c2 c3 c4 c5 c6 c7 c8 f0 f1 f2 hlx v0 v1 v2 u0 u1 u2 hlv HXa HYa HBa HDa HVa hg3
    have HX3 := Lib.hid hX3
    have HY3 := Lib.hid hY3
    have HD3 := Lib.hid hD3
    have HB3 := Lib.hid hb3
    obtain ⟨c0, c1, c2, c3, c4, c5, c6, c7, c8⟩ := hX3.cells
    have hlx := hX3.lt
    obtain ⟨y0, y1, y2, y3, y4, y5, y6, y7, y8⟩ := hY3.cells
    obtain ⟨g0, g1, g2, g3, g4, g5, g6, g7, g8⟩ := hY3.live
    have hly := hY3.lt
    clear hX3 hY3 hD3 hb3
    go_wp2_with fail
    obtain ⟨hY4, hg4⟩ := HY3.out.put A2 n2 j2 A2' m2 j2' F2 x0 x1 x2 x3 x4 x5 rfl
    have hD4 := HD3.out.only HY3.out.ns hg4
    have hb4 := below_grown HB3.out hg4 (by omega)
    generalize (((((((((w3.setCell ⟨w.heap.size + 1, 0, none⟩ (.slice A2 n2 j2)).setCell ⟨w.heap.size + 1, 1, none⟩ (.slice A2' m2 j2')).setCell ⟨w.heap.size + 1, 2, none⟩ (.int .i64 F2)).setCell ⟨w.heap.size + 1, 3, none⟩ (.int .i64 x0)).setCell ⟨w.heap.size + 1, 4, none⟩ (.int .i64 x1)).setCell ⟨w.heap.size + 1, 5, none⟩ (.int .i64 x2)).setCell ⟨w.heap.size + 1, 6, none⟩ (.int .i64 x3)).setCell ⟨w.heap.size + 1, 7, none⟩ (.int .i64 x4)).setCell ⟨w.heap.size + 1, 8, none⟩ (.bool x5)) = wf at *
    obtain ⟨q0, q1, q2, q3, q4, q5, q6, q7, q8⟩ := hY4.cells
    refine bodyPost_ret (v := .tuple #[.agg #[.slice A2 n2 j2, .slice A2' m2 j2', .int .i64 F2, .int .i64 x0, .int .i64 x1, .int .i64 x2, .int .i64 x3, .int .i64 x4, .bool x5], .int .i64 e2]) (by simp [results, Tryz.results15, go_sem, q0, q1, q2, q3, q4, q5, q6, q7, q8]) rfl ?_
    exact ⟨_, _, _, _, _, _, rfl, hD4, hb4⟩

theorem sav_any (hT : Tab w) (x : Nm) (t : ByteArray) (h1 : -9223372036854775808 ≤ x.slot) (h2 : x.slot ≤ 9223372036854775807) :
    Calls Tryz.prog 15 #[TV A n c A' m c' f x, .string t] w (RetT w (savX S V f x t)) := by
  obtain ⟨z, hz⟩ : ∃ z, IntKind.i64.wrap (1 - x.slot) = z := ⟨_, rfl⟩
  obtain ⟨S2, V2, F2, p2, st2, e2, hR⟩ : ∃ S2 V2 F2 p2 st2 e2, saveR S V f z x.stamp x.stamp t = ⟨S2, V2, F2, p2, st2, e2⟩ := ⟨_, _, _, _, _, _, rfl⟩
  rw [savX_eq h1 h2 hz hR]
  exact sav_walk A n c A' m c' f S V w hD hT x.slot x.gen x.stamp x.at_ x.no x.live t z hz S2 V2 F2 p2 st2 e2 (Lib.hid hR)
end

end Go.Proofs.YtkglolnghihegaaGreatDoor.Sto

/- Contracts of Log, Fits and Same of package store. -/
namespace Go.Proofs.YtkglolnghihegaaGreatDoor.Sto
open Go.RowKit Go.Proofs.YtkglolnghihegaaGreatDoor.Dsk Go.Proofs.YtkglolnghihegaaGreatDoor.Slt Go.Proofs.YtkglolnghihegaaGreatDoor.Shf Go.Proofs.YtkglolnghihegaaGreatDoor.Jrn
open Go.Proofs.YtkglolnghihegaaGreatDoor.Crc (Tab)

theorem putR_err {S : List ByteArray} {V : List Wr} {f p g no st : Int} {t : ByteArray} (h : ¬ (Jrn.putR S V f p g no st t).e = 0) : (Jrn.putR S V f p g no st t).p = p ∧ (Jrn.putR S V f p g no st t).st = st := by
  unfold Jrn.putR at h ⊢
  by_cases h1 : 2 * sizR S.length ≤ p
  · rw [if_pos h1] at h ⊢
    unfold pourR at h ⊢
    by_cases h2 : pourE S V f p S.length 2 g no st t = 0
    · rw [if_pos h2] at h ⊢
      by_cases h3 : (flushR S (lays S (layS 2 g no t) st p V f)).2.2.2 = 0
      · rw [if_pos h3] at h; exact absurd rfl h
      · rw [if_neg h3]; exact ⟨rfl, rfl⟩
    · rw [if_neg h2]; exact ⟨rfl, rfl⟩
  · rw [if_neg h1]; exact ⟨rfl, rfl⟩
theorem putR_no {S : List ByteArray} {V : List Wr} {f p g no st : Int} {t : ByteArray} (h : (Jrn.putR S V f p g no st t).e = 0) : 0 ≤ no ∧ no ≤ 4294967295 := by
  have hE : errL g no t = 0 := by
    unfold Jrn.putR at h
    by_cases h1 : 2 * sizR S.length ≤ p
    · rw [if_pos h1] at h
      unfold pourR at h
      by_cases h2 : pourE S V f p S.length 2 g no st t = 0
      · exact (pourE_ok h2).2.1
      · rw [if_neg h2] at h; exact absurd h h2
    · rw [if_neg h1] at h; exact absurd (show (2 : Int) = 0 from h) (by decide)
  unfold errL at hE
  split at hE
  · rename_i hf
    unfold fineH at hf
    simp at hf
    omega
  · omega

theorem Sy.log {T : TypeId} {w w' : World} {b : Nat} {A : Option Addr} {n c : Nat} {A' : Option Addr} {m c' : Nat} {f x0 x1 x2 x3 x4 : Int} {x5 : Bool} (h : Sy T w b A n c A' m c' f x0 x1 x2 x3 x4 x5) (B : Option Addr) (p d : Nat) (B' : Option Addr) (r d' : Nat) (g y2 y3 : Int) (e : w' = (((((w.setCell ⟨b, 0, none⟩ (.slice B p d)).setCell ⟨b, 1, none⟩ (.slice B' r d')).setCell ⟨b, 2, none⟩ (.int .i64 g)).setCell ⟨b, 6, none⟩ (.int .i64 y3)).setCell ⟨b, 5, none⟩ (.int .i64 y2))) :
    Sy T w' b B p d B' r d' g x0 x1 y2 y3 x4 x5 ∧ w.grownBy w' (some b) := by
  subst e
  have hg := grown_set (grown_set (grown_set (grown_set (grown_set (World.grownBy.refl w (some b)) 0 (.slice B p d)) 1 (.slice B' r d')) 2 (.int .i64 g)) 6 (.int .i64 y3)) 5 (.int .i64 y2)
  have hB := ((((h.blk.set_ 0 (.slice B p d)).set_ 1 (.slice B' r d')).set_ 2 (.int .i64 g)).set_ 6 (.int .i64 y3)).set_ 5 (.int .i64 y2)
  exact ⟨⟨by simpa using hB⟩, hg⟩
theorem Sy.num {T : TypeId} {w w' : World} {b : Nat} {A : Option Addr} {n c : Nat} {A' : Option Addr} {m c' : Nat} {f x0 x1 x2 x3 x4 : Int} {x5 : Bool} (h : Sy T w b A n c A' m c' f x0 x1 x2 x3 x4 x5) (y4 : Int) (e : w' = w.setCell ⟨b, 7, none⟩ (.int .i64 y4)) :
    Sy T w' b A n c A' m c' f x0 x1 x2 x3 y4 x5 ∧ w.grownBy w' (some b) := by
  subst e
  have hg := grown_set (World.grownBy.refl w (some b)) 7 (.int .i64 y4)
  have hB := h.blk.set_ 7 (.int .i64 y4)
  exact ⟨⟨by simpa using hB⟩, hg⟩

section
variable (A : Option Addr) (n c : Nat) (A' : Option Addr) (m c' : Nat) (f : Int) (S : List ByteArray) (V : List Wr) (w : World) (hD : Dev w A n c A' m c' f S V)
include hD

theorem log_dead (x0 x1 x2 x3 x4 : Int) (t : ByteArray) :
    Calls Tryz.prog 17 #[.agg #[.slice A n c, .slice A' m c', .int .i64 f, .int .i64 x0, .int .i64 x1, .int .i64 x2, .int .i64 x3, .int .i64 x4, .bool false], .string t] w (RetT w ⟨S, V, f, ⟨x0, x1, x2, x3, x4, false⟩, 9⟩) := by
  have hb0 : Below w.heap.size w ((w.alloc (TO 31 A n c A' m c' f x0 x1 x2 x3 x4 false)).alloc (TO 31 none 0 0 none 0 0 0 0 0 0 0 0 false)) := (new1 _ _).push _
  have hX0 : Sy 31 ((w.alloc (TO 31 A n c A' m c' f x0 x1 x2 x3 x4 false)).alloc (TO 31 none 0 0 none 0 0 0 0 0 0 0 0 false)) w.heap.size A n c A' m c' f x0 x1 x2 x3 x4 false := (Sy.new 31 w A n c A' m c' f x0 x1 x2 x3 x4 false).alloc _
  have hY0 : Sy 31 ((w.alloc (TO 31 A n c A' m c' f x0 x1 x2 x3 x4 false)).alloc (TO 31 none 0 0 none 0 0 0 0 0 0 0 0 false)) (w.heap.size + 1) none 0 0 none 0 0 0 0 0 0 0 0 false := by
    have := Sy.new 31 (w.alloc (TO 31 A n c A' m c' f x0 x1 x2 x3 x4 false)) none 0 0 none 0 0 0 0 0 0 0 0 false
    rwa [World.size_alloc] at this
  have HB0 := Lib.hid hb0
  have HD0 := Lib.hid (hD.below hb0)
  have HY0 := Lib.hid hY0
  obtain ⟨c0, c1, c2, c3, c4, c5, c6, c7, c8⟩ := hX0.cells
  have hlx := hX0.lt
  obtain ⟨y0, y1, y2, y3, y4, y5, y6, y7, y8⟩ := hY0.cells
  obtain ⟨g0, g1, g2, g3, g4, g5, g6, g7, g8⟩ := hY0.live
  have hly := hY0.lt
  unfold RetT
  dsimp only
  clear hD hb0 hX0 hY0
  go_enter Tryz.func17, Tryz.ntmps17
  go_upto_region 1 with fail
  generalize (w.alloc (TO 31 A n c A' m c' f x0 x1 x2 x3 x4 false)).alloc (TO 31 none 0 0 none 0 0 0 0 0 0 0 0 false) = w0 at *
  go_wp2_with fail
  obtain ⟨hY9, hg9⟩ := HY0.out.put A n c A' m c' f x0 x1 x2 x3 x4 false rfl
  have hD9 := HD0.out.only HY0.out.ns hg9
  have hb9 := below_grown HB0.out hg9 (by omega)
  generalize ((((((((w0.setCell ⟨w.heap.size + 1, 0, none⟩ (.slice A n c)).setCell ⟨w.heap.size + 1, 1, none⟩ (.slice A' m c')).setCell ⟨w.heap.size + 1, 2, none⟩ (.int .i64 f)).setCell ⟨w.heap.size + 1, 3, none⟩ (.int .i64 x0)).setCell ⟨w.heap.size + 1, 4, none⟩ (.int .i64 x1)).setCell ⟨w.heap.size + 1, 5, none⟩ (.int .i64 x2)).setCell ⟨w.heap.size + 1, 6, none⟩ (.int .i64 x3)).setCell ⟨w.heap.size + 1, 7, none⟩ (.int .i64 x4)).setCell ⟨w.heap.size + 1, 8, none⟩ (.bool false) = wf at *
  obtain ⟨q0, q1, q2, q3, q4, q5, q6, q7, q8⟩ := hY9.cells
  refine bodyPost_ret (v := .tuple #[.agg #[.slice A n c, .slice A' m c', .int .i64 f, .int .i64 x0, .int .i64 x1, .int .i64 x2, .int .i64 x3, .int .i64 x4, .bool false], .int .i64 9]) (by simp [results, Tryz.results17, go_sem, q0, q1, q2, q3, q4, q5, q6, q7, q8]) rfl ?_
  exact ⟨_, _, _, _, _, _, rfl, hD9, hb9⟩

set_option maxHeartbeats 2000000 in
theorem log_walk (hT : Tab w) (x0 x1 x2 x3 x4 : Int) (t : ByteArray) (S2 : List ByteArray) (V2 : List Wr) (F2 p2 st2 e2 : Int) (HPR : Hid (Jrn.putR S V f x3 x1 x4 x2 t = ⟨S2, V2, F2, p2, st2, e2⟩)) :
    Calls Tryz.prog 17 #[.agg #[.slice A n c, .slice A' m c', .int .i64 f, .int .i64 x0, .int .i64 x1, .int .i64 x2, .int .i64 x3, .int .i64 x4, .bool true], .string t] w (RetT w (if e2 = 0 then ⟨S2, V2, F2, ⟨x0, x1, st2, p2, x4 + 1, true⟩, 0⟩ else ⟨S2, V2, F2, ⟨x0, x1, x2, x3, x4, true⟩, e2⟩)) := by
  have hb0 : Below w.heap.size w ((w.alloc (TO 31 A n c A' m c' f x0 x1 x2 x3 x4 true)).alloc (TO 31 none 0 0 none 0 0 0 0 0 0 0 0 false)) := (new1 _ _).push _
  have hX0 : Sy 31 ((w.alloc (TO 31 A n c A' m c' f x0 x1 x2 x3 x4 true)).alloc (TO 31 none 0 0 none 0 0 0 0 0 0 0 0 false)) w.heap.size A n c A' m c' f x0 x1 x2 x3 x4 true := (Sy.new 31 w A n c A' m c' f x0 x1 x2 x3 x4 true).alloc _
  have hY0 : Sy 31 ((w.alloc (TO 31 A n c A' m c' f x0 x1 x2 x3 x4 true)).alloc (TO 31 none 0 0 none 0 0 0 0 0 0 0 0 false)) (w.heap.size + 1) none 0 0 none 0 0 0 0 0 0 0 0 false := by
    have := Sy.new 31 (w.alloc (TO 31 A n c A' m c' f x0 x1 x2 x3 x4 true)) none 0 0 none 0 0 0 0 0 0 0 0 false
    rwa [World.size_alloc] at this
  have HS := Lib.hid (Jrn.put_any A n c A' m c' f S V x3 x1 x4 x2 t _ (hD.below hb0) (Shf.tab_call hT hb0))
  have HN : Hid (e2 = 0 → 0 ≤ x4 ∧ x4 ≤ 4294967295) := Lib.hid (fun he => putR_no (S := S) (V := V) (f := f) (p := x3) (g := x1) (st := x2) (t := t) (by rw [HPR.out]; exact he))
  have HE : Hid (¬ e2 = 0 → p2 = x3 ∧ st2 = x2) := Lib.hid (fun he => by have := putR_err (S := S) (V := V) (f := f) (p := x3) (g := x1) (no := x4) (st := x2) (t := t) (by rw [HPR.out]; exact he); rw [HPR.out] at this; exact this)
  rw [HPR.out] at HS
  unfold RetP at HS
  dsimp only at HS
  have HB0 := Lib.hid hb0
  have HX0 := Lib.hid hX0
  have HY0 := Lib.hid hY0
  clear hD hT hb0 hX0 hY0 HPR
  obtain ⟨X, hX⟩ : ∃ X, (if e2 = 0 then (⟨S2, V2, F2, ⟨x0, x1, st2, p2, x4 + 1, true⟩, 0⟩ : Std) else ⟨S2, V2, F2, ⟨x0, x1, x2, x3, x4, true⟩, e2⟩) = X := ⟨_, rfl⟩
  rw [hX]
  have HX := Lib.hid hX
  clear hX
  go_enter Tryz.func17, Tryz.ntmps17
  go_upto_region 1 with fail
  generalize (w.alloc (TO 31 A n c A' m c' f x0 x1 x2 x3 x4 true)).alloc (TO 31 none 0 0 none 0 0 0 0 0 0 0 0 false) = w0 at *
  obtain ⟨c0, c1, c2, c3, c4, c5, c6, c7, c8⟩ := HX0.out.cells
  have hlx := HX0.out.lt
  go_wp2_with fail
  with_reducible refine HS.out.mono ?_
  rintro r w1 ⟨A2, n2, j2, A2', m2, j2', rfl, hd2, hb2⟩
  have HXa := Lib.hid (HX0.out.call hb2)
  have HYa := Lib.hid (HY0.out.call hb2)
  have HBa := Lib.hid (HB0.out.call hb2)
  have HDa := Lib.hid hd2
  clear hd2 hb2 HS c0 c1 c2 c3 c4 c5 c6 c7 c8 hlx
  obtain ⟨c0, c1, c2, c3, c4, c5, c6, c7, c8⟩ := HXa.out.cells
  obtain ⟨f0, f1, f2, f3, f4, f5, f6, f7, f8⟩ := HXa.out.live
  have hlx := HXa.out.lt
  go_upto_region 5 with fail
  obtain ⟨hX3, hg3⟩ := HXa.out.log A2 n2 j2 A2' m2 j2' F2 st2 p2 rfl
  have hD3 := HDa.out.only HXa.out.ns hg3
  have hb3 := below_grown HBa.out hg3 (Nat.le_refl _)
  have hY3 := HYa.out.other hg3 (by omega)
  generalize ((((w1.setCell ⟨w.heap.size, 0, none⟩ (.slice A2 n2 j2)).setCell ⟨w.heap.size, 1, none⟩ (.slice A2' m2 j2')).setCell ⟨w.heap.size, 2, none⟩ (.int .i64 F2)).setCell ⟨w.heap.size, 6, none⟩ (.int .i64 p2)).setCell ⟨w.heap.size, 5, none⟩ (.int .i64 st2) = w3 at *
  clear c0 c1 c2 c3 c4 c5 c6 c7 c8 f0 f1 f2 f3 f4 f5 f6 f7 f8 hlx HXa HYa HBa HDa hg3
  have HX3 := Lib.hid hX3
  have HY3 := Lib.hid hY3
  have HD3 := Lib.hid hD3
  have HB3 := Lib.hid hb3
  clear hX3 hY3 hD3 hb3
  by_cases he : e2 = 0
  · subst he
    rw [if_pos rfl] at HX
    have hw : IntKind.i64.wrap (x4 + 1) = x4 + 1 := IntWalk.i64_in _ (by have := HN.out rfl; omega)
    obtain ⟨c0, c1, c2, c3, c4, c5, c6, c7, c8⟩ := HX3.out.cells
    obtain ⟨f0, f1, f2, f3, f4, f5, f6, f7, f8⟩ := HX3.out.live
    have hlx := HX3.out.lt
    go_upto_region 7 with fail
    obtain ⟨hX4, hg4⟩ := HX3.out.num (x4 + 1) rfl
    have hD4 := HD3.out.only HX3.out.ns hg4
    have hb4 := below_grown HB3.out hg4 (Nat.le_refl _)
    have hY4 := HY3.out.other hg4 (by omega)
    generalize w3.setCell ⟨w.heap.size, 7, none⟩ (.int .i64 (x4 + 1)) = w4 at *
    clear c0 c1 c2 c3 c4 c5 c6 c7 c8 f0 f1 f2 f3 f4 f5 f6 f7 f8 hlx HX3 HY3 HD3 HB3 hg4
    have HY4 := Lib.hid hY4
    have HD4 := Lib.hid hD4
    have HB4 := Lib.hid hb4
    obtain ⟨c0, c1, c2, c3, c4, c5, c6, c7, c8⟩ := hX4.cells
    have hlx := hX4.lt
    obtain ⟨y0, y1, y2, y3, y4, y5, y6, y7, y8⟩ := hY4.cells
    obtain ⟨g0, g1, g2, g3, g4, g5, g6, g7, g8⟩ := hY4.live
    have hly := hY4.lt
    clear hX4 hY4 hD4 hb4
    go_wp2_with fail
    obtain ⟨hY9, hg9⟩ := HY4.out.put A2 n2 j2 A2' m2 j2' F2 x0 x1 st2 p2 (x4 + 1) true rfl
    have hD9 := HD4.out.only HY4.out.ns hg9
    have hb9 := below_grown HB4.out hg9 (by omega)
    generalize ((((((((w4.setCell ⟨w.heap.size + 1, 0, none⟩ (.slice A2 n2 j2)).setCell ⟨w.heap.size + 1, 1, none⟩ (.slice A2' m2 j2')).setCell ⟨w.heap.size + 1, 2, none⟩ (.int .i64 F2)).setCell ⟨w.heap.size + 1, 3, none⟩ (.int .i64 x0)).setCell ⟨w.heap.size + 1, 4, none⟩ (.int .i64 x1)).setCell ⟨w.heap.size + 1, 5, none⟩ (.int .i64 st2)).setCell ⟨w.heap.size + 1, 6, none⟩ (.int .i64 p2)).setCell ⟨w.heap.size + 1, 7, none⟩ (.int .i64 (x4 + 1))).setCell ⟨w.heap.size + 1, 8, none⟩ (.bool true) = wf at *
    obtain ⟨q0, q1, q2, q3, q4, q5, q6, q7, q8⟩ := hY9.cells
    refine bodyPost_ret (v := .tuple #[.agg #[.slice A2 n2 j2, .slice A2' m2 j2', .int .i64 F2, .int .i64 x0, .int .i64 x1, .int .i64 st2, .int .i64 p2, .int .i64 (x4 + 1), .bool true], .int .i64 0]) (by simp [results, Tryz.results17, go_sem, q0, q1, q2, q3, q4, q5, q6, q7, q8]) rfl ?_
    rw [← HX.out]
    unfold RetT
    exact ⟨_, _, _, _, _, _, rfl, hD9, hb9⟩
  · rw [if_neg he] at HX
    obtain ⟨rfl, rfl⟩ := HE.out he
    have hne := neq0 he
    obtain ⟨c0, c1, c2, c3, c4, c5, c6, c7, c8⟩ := HX3.out.cells
    have hlx := HX3.out.lt
    obtain ⟨y0, y1, y2, y3, y4, y5, y6, y7, y8⟩ := HY3.out.cells
    obtain ⟨g0, g1, g2, g3, g4, g5, g6, g7, g8⟩ := HY3.out.live
    have hly := HY3.out.lt
    go_wp2_with fail
    obtain ⟨hY9, hg9⟩ := HY3.out.put A2 n2 j2 A2' m2 j2' F2 x0 x1 st2 p2 x4 true rfl
    have hD9 := HD3.out.only HY3.out.ns hg9
    have hb9 := below_grown HB3.out hg9 (by omega)
    generalize ((((((((w3.setCell ⟨w.heap.size + 1, 0, none⟩ (.slice A2 n2 j2)).setCell ⟨w.heap.size + 1, 1, none⟩ (.slice A2' m2 j2')).setCell ⟨w.heap.size + 1, 2, none⟩ (.int .i64 F2)).setCell ⟨w.heap.size + 1, 3, none⟩ (.int .i64 x0)).setCell ⟨w.heap.size + 1, 4, none⟩ (.int .i64 x1)).setCell ⟨w.heap.size + 1, 5, none⟩ (.int .i64 st2)).setCell ⟨w.heap.size + 1, 6, none⟩ (.int .i64 p2)).setCell ⟨w.heap.size + 1, 7, none⟩ (.int .i64 x4)).setCell ⟨w.heap.size + 1, 8, none⟩ (.bool true) = wf at *
    obtain ⟨q0, q1, q2, q3, q4, q5, q6, q7, q8⟩ := hY9.cells
    refine bodyPost_ret (v := .tuple #[.agg #[.slice A2 n2 j2, .slice A2' m2 j2', .int .i64 F2, .int .i64 x0, .int .i64 x1, .int .i64 st2, .int .i64 p2, .int .i64 x4, .bool true], .int .i64 e2]) (by simp [results, Tryz.results17, go_sem, q0, q1, q2, q3, q4, q5, q6, q7, q8]) rfl ?_
    rw [← HX.out]
    unfold RetT
    exact ⟨_, _, _, _, _, _, rfl, hD9, hb9⟩

theorem log_any (hT : Tab w) (x : Nm) (t : ByteArray) :
    Calls Tryz.prog 17 #[TV A n c A' m c' f x, .string t] w (RetT w (logX S V f x t)) := by
  obtain ⟨x0, x1, x2, x3, x4, x5⟩ := x
  unfold logX
  dsimp only
  cases x5 with
  | false => rw [if_neg (by decide)]; exact log_dead A n c A' m c' f S V w hD x0 x1 x2 x3 x4 t
  | true =>
    rw [if_pos rfl]
    obtain ⟨S2, V2, F2, p2, st2, e2, hR⟩ : ∃ S2 V2 F2 p2 st2 e2, Jrn.putR S V f x3 x1 x4 x2 t = ⟨S2, V2, F2, p2, st2, e2⟩ := ⟨_, _, _, _, _, _, rfl⟩
    rw [hR]
    exact log_walk A n c A' m c' f S V w hD hT x0 x1 x2 x3 x4 t S2 V2 F2 p2 st2 e2 (Lib.hid hR)

theorem sfits_any (x : Nm) (z : Int) (hx : x.at_ ≤ 9223372036854775807) :
    Calls Tryz.prog 19 #[TV A n c A' m c' f x, .int .i64 z] w fun r w' => r = .returned (.bool (fitsR S.length x.at_ z)) ∧ Below w.heap.size w w' := by
  obtain ⟨x0, x1, x2, x3, x4, x5⟩ := x
  dsimp only at hx ⊢
  have HF := Lib.hid (fun W => Jrn.fits_any n x3 z W hx)
  rw [hD.sec.sec]
  clear hD
  go_enter Tryz.func19, Tryz.ntmps19
  go_wp2_with (go_at_call 48; with_reducible refine (HF.out _).mono ?_; rintro r w3 ⟨rfl, rfl⟩)
  go_ret
  exact ⟨rfl, new1 _ _⟩
end

/-- Two states are one. -/
def sameT (S : List ByteArray) (V : List Wr) (f : Int) (x : Nm) (S' : List ByteArray) (V' : List Wr) (f' : Int) (y : Nm) : Bool :=
  sameD S V f S' V' f' && (decide (x.slot = y.slot) && (decide (x.gen = y.gen) && (decide (x.stamp = y.stamp) && (decide (x.at_ = y.at_) && (decide (x.no = y.no) && decide (x.live = y.live))))))

section
variable (A : Option Addr) (n c : Nat) (A' : Option Addr) (m c' : Nat) (f : Int) (S : List ByteArray) (V : List Wr) (B : Option Addr) (p d : Nat) (B' : Option Addr) (q d' : Nat) (g : Int) (Z : List ByteArray) (U : List Wr) (w : World) (hD : Dev w A n c A' m c' f S V) (hE : Dev w B p d B' q d' g Z U)
include hD hE
set_option maxHeartbeats 4000000 in
theorem ssame_any (x y : Nm) :
    Calls Tryz.prog 21 #[TV A n c A' m c' f x, TV B p d B' q d' g y] w fun r w' => r = .returned (.bool (sameT S V f x Z U g y)) ∧ Below w.heap.size w w' := by
  obtain ⟨x0, x1, x2, x3, x4, x5⟩ := x
  obtain ⟨y0, y1, y2, y3, y4, y5⟩ := y
  have hb0 : Below w.heap.size w ((w.alloc (TO 31 A n c A' m c' f x0 x1 x2 x3 x4 x5)).alloc (TO 31 B p d B' q d' g y0 y1 y2 y3 y4 y5)) := (new1 _ _).push _
  have hX0 : Sy 31 ((w.alloc (TO 31 A n c A' m c' f x0 x1 x2 x3 x4 x5)).alloc (TO 31 B p d B' q d' g y0 y1 y2 y3 y4 y5)) w.heap.size A n c A' m c' f x0 x1 x2 x3 x4 x5 := (Sy.new 31 w A n c A' m c' f x0 x1 x2 x3 x4 x5).alloc _
  have hY0 : Sy 31 ((w.alloc (TO 31 A n c A' m c' f x0 x1 x2 x3 x4 x5)).alloc (TO 31 B p d B' q d' g y0 y1 y2 y3 y4 y5)) (w.heap.size + 1) B p d B' q d' g y0 y1 y2 y3 y4 y5 := by
    have := Sy.new 31 (w.alloc (TO 31 A n c A' m c' f x0 x1 x2 x3 x4 x5)) B p d B' q d' g y0 y1 y2 y3 y4 y5
    rwa [World.size_alloc] at this
  have HC := Lib.hid (Dsk.same_any A n c A' m c' f S V B p d B' q d' g Z U _ (hD.below hb0) (hE.below hb0))
  unfold sameT
  generalize sameD S V f Z U g = sd at *
  have HX0 := Lib.hid hX0
  have HY0 := Lib.hid hY0
  have HB0 := Lib.hid hb0
  clear hD hE hb0 hX0 hY0
  cases sd with
  | false =>
    go_enter Tryz.func21, Tryz.ntmps21
    go_wp2_with (go_at_call 50; with_reducible refine HC.out.mono ?_; rintro r w1 ⟨rfl, hb1⟩; have HB1 := Lib.hid (HB0.out.call hb1); obtain ⟨c0, c1, c2, c3, c4, c5, c6, c7, c8⟩ := (HX0.out.call hb1).cells; have hlx := (HX0.out.call hb1).lt; obtain ⟨k0, k1, k2, k3, k4, k5, k6, k7, k8⟩ := (HY0.out.call hb1).cells; have hly := (HY0.out.call hb1).lt; clear hb1)
    go_ret
    exact ⟨by simp [*], HB1.out⟩
  | true =>
    by_cases h0 : x0 = y0
    · subst h0
      have e0 : (x0 == x0) = true := by simp
      by_cases h1 : x1 = y1
      · subst h1
        have e1 : (x1 == x1) = true := by simp
        by_cases h2 : x2 = y2
        · subst h2
          have e2 : (x2 == x2) = true := by simp
          by_cases h3 : x3 = y3
          · subst h3
            have e3 : (x3 == x3) = true := by simp
            by_cases h4 : x4 = y4
            · subst h4
              have e4 : (x4 == x4) = true := by simp
              by_cases h5 : x5 = y5
              · subst h5
                have e5 : (x5 == x5) = true := by simp
                go_enter Tryz.func21, Tryz.ntmps21
                go_wp2_with (go_at_call 50; with_reducible refine HC.out.mono ?_; rintro r w1 ⟨rfl, hb1⟩; have HB1 := Lib.hid (HB0.out.call hb1); obtain ⟨c0, c1, c2, c3, c4, c5, c6, c7, c8⟩ := (HX0.out.call hb1).cells; have hlx := (HX0.out.call hb1).lt; obtain ⟨k0, k1, k2, k3, k4, k5, k6, k7, k8⟩ := (HY0.out.call hb1).cells; have hly := (HY0.out.call hb1).lt; clear hb1)
                go_ret
                exact ⟨by simp [*], HB1.out⟩
              · have e5 : (x5 == y5) = false := by simpa using h5
                go_enter Tryz.func21, Tryz.ntmps21
                go_wp2_with (go_at_call 50; with_reducible refine HC.out.mono ?_; rintro r w1 ⟨rfl, hb1⟩; have HB1 := Lib.hid (HB0.out.call hb1); obtain ⟨c0, c1, c2, c3, c4, c5, c6, c7, c8⟩ := (HX0.out.call hb1).cells; have hlx := (HX0.out.call hb1).lt; obtain ⟨k0, k1, k2, k3, k4, k5, k6, k7, k8⟩ := (HY0.out.call hb1).cells; have hly := (HY0.out.call hb1).lt; clear hb1)
                go_ret
                exact ⟨by simp [*], HB1.out⟩
            · have e4 : (x4 == y4) = false := by simpa using h4
              go_enter Tryz.func21, Tryz.ntmps21
              go_wp2_with (go_at_call 50; with_reducible refine HC.out.mono ?_; rintro r w1 ⟨rfl, hb1⟩; have HB1 := Lib.hid (HB0.out.call hb1); obtain ⟨c0, c1, c2, c3, c4, c5, c6, c7, c8⟩ := (HX0.out.call hb1).cells; have hlx := (HX0.out.call hb1).lt; obtain ⟨k0, k1, k2, k3, k4, k5, k6, k7, k8⟩ := (HY0.out.call hb1).cells; have hly := (HY0.out.call hb1).lt; clear hb1)
              go_ret
              exact ⟨by simp [*], HB1.out⟩
          · have e3 : (x3 == y3) = false := by simpa using h3
            go_enter Tryz.func21, Tryz.ntmps21
            go_wp2_with (go_at_call 50; with_reducible refine HC.out.mono ?_; rintro r w1 ⟨rfl, hb1⟩; have HB1 := Lib.hid (HB0.out.call hb1); obtain ⟨c0, c1, c2, c3, c4, c5, c6, c7, c8⟩ := (HX0.out.call hb1).cells; have hlx := (HX0.out.call hb1).lt; obtain ⟨k0, k1, k2, k3, k4, k5, k6, k7, k8⟩ := (HY0.out.call hb1).cells; have hly := (HY0.out.call hb1).lt; clear hb1)
            go_ret
            exact ⟨by simp [*], HB1.out⟩
        · have e2 : (x2 == y2) = false := by simpa using h2
          go_enter Tryz.func21, Tryz.ntmps21
          go_wp2_with (go_at_call 50; with_reducible refine HC.out.mono ?_; rintro r w1 ⟨rfl, hb1⟩; have HB1 := Lib.hid (HB0.out.call hb1); obtain ⟨c0, c1, c2, c3, c4, c5, c6, c7, c8⟩ := (HX0.out.call hb1).cells; have hlx := (HX0.out.call hb1).lt; obtain ⟨k0, k1, k2, k3, k4, k5, k6, k7, k8⟩ := (HY0.out.call hb1).cells; have hly := (HY0.out.call hb1).lt; clear hb1)
          go_ret
          exact ⟨by simp [*], HB1.out⟩
      · have e1 : (x1 == y1) = false := by simpa using h1
        go_enter Tryz.func21, Tryz.ntmps21
        go_wp2_with (go_at_call 50; with_reducible refine HC.out.mono ?_; rintro r w1 ⟨rfl, hb1⟩; have HB1 := Lib.hid (HB0.out.call hb1); obtain ⟨c0, c1, c2, c3, c4, c5, c6, c7, c8⟩ := (HX0.out.call hb1).cells; have hlx := (HX0.out.call hb1).lt; obtain ⟨k0, k1, k2, k3, k4, k5, k6, k7, k8⟩ := (HY0.out.call hb1).cells; have hly := (HY0.out.call hb1).lt; clear hb1)
        go_ret
        exact ⟨by simp [*], HB1.out⟩
    · have e0 : (x0 == y0) = false := by simpa using h0
      go_enter Tryz.func21, Tryz.ntmps21
      go_wp2_with (go_at_call 50; with_reducible refine HC.out.mono ?_; rintro r w1 ⟨rfl, hb1⟩; have HB1 := Lib.hid (HB0.out.call hb1); obtain ⟨c0, c1, c2, c3, c4, c5, c6, c7, c8⟩ := (HX0.out.call hb1).cells; have hlx := (HX0.out.call hb1).lt; obtain ⟨k0, k1, k2, k3, k4, k5, k6, k7, k8⟩ := (HY0.out.call hb1).cells; have hly := (HY0.out.call hb1).lt; clear hb1)
      go_ret
      exact ⟨by simp [*], HB1.out⟩
end

end Go.Proofs.YtkglolnghihegaaGreatDoor.Sto

/- Contract of Open of package store. -/
namespace Go.Proofs.YtkglolnghihegaaGreatDoor.Sto
open Go.RowKit Go.Proofs.YtkglolnghihegaaGreatDoor.Dsk Go.Proofs.YtkglolnghihegaaGreatDoor.Slt Go.Proofs.YtkglolnghihegaaGreatDoor.Jrn
open Go.Proofs.YtkglolnghihegaaGreatDoor.Crc (Tab)

/-- What Open answers: a state, a text, records, an error. -/
def RetOG (w : World) (S : List ByteArray) (V : List Wr) (f : Int) (x : Nm) (t : ByteArray) (L : List ByteArray) (e : Int) (r : Ending) (w' : World) : Prop :=
  ∃ A n c A' m c' B q d, r = .returned (.tuple #[TV A n c A' m c' f x, .string t, .slice B q d, .int .i64 e]) ∧ Dev w' A n c A' m c' f S V ∧ RV w' B q 1 (SV L) ∧ Below w.heap.size w w'
/-- The disk, the text, the records, where it is told. -/
def opnS (S : List ByteArray) (V : List Wr) (f : Int) : List ByteArray := if opnE S V f = 0 then S else []
def opnV (S : List ByteArray) (V : List Wr) (f : Int) : List Wr := if opnE S V f = 0 then V else []
def opnF (S : List ByteArray) (V : List Wr) (f : Int) : Int := if opnE S V f = 0 then f else 0
def opnXe (S : List ByteArray) (V : List Wr) (f : Int) : Nm := if opnE S V f = 0 then opnX S V f else zN
def opnTe (S : List ByteArray) (V : List Wr) (f : Int) : ByteArray := if opnE S V f = 0 then opnT S V f else ⟨#[]⟩
def opnLe (S : List ByteArray) (V : List Wr) (f : Int) : List ByteArray := if opnE S V f = 0 then opnL S V f else []

theorem dev_nil (w : World) : Dev w none 0 0 none 0 0 0 [] [] := ⟨RV.nil _ _ _, RV.nil _ _ _, by omega, by omega, by simp, by simp⟩

/-- What is taken of the slot gives the state. -/
theorem opnX_sav {S : List ByteArray} {V : List Wr} {f : Int} (h : chk S V f = 0) :
    opnX S V f = ⟨savZ (bestR S V f), savG (bestR S V f), topD S V f + 1, scanDA S V f (savG (bestR S V f)), ((scanDL S V f (savG (bestR S V f))).length : Int), false⟩ ∧ opnT S V f = savT (bestR S V f) ∧ opnL S V f = scanDL S V f (savG (bestR S V f)) := by
  obtain ⟨z1, z2⟩ := scan_zero S V f
  unfold opnX opnT opnL savZ savG savT
  by_cases he : (bestR S V f).e = 0
  · rw [if_pos he, if_pos he, if_pos he, if_pos he, if_pos he]
    exact ⟨rfl, rfl, rfl⟩
  · rw [if_neg he, if_neg he, if_neg he, if_neg he, if_neg he, z1, z2 h]
    exact ⟨rfl, rfl, rfl⟩
theorem topL_nn (L : List ByteArray) : 0 ≤ topL L := topL_nonneg L
theorem topD_nn (S : List ByteArray) (V : List Wr) (f : Int) : 0 ≤ topD S V f := by
  unfold topD
  split
  · exact topL_nonneg _
  · exact Int.le_refl _

/-- Behind a region: a new variable holds this state. -/
structure NewS (T : TypeId) (w wx : World) (b : Nat) (A : Option Addr) (n c : Nat) (A' : Option Addr) (m c' : Nat) (f x0 x1 x2 x3 x4 : Int) (x5 : Bool) (S : List ByteArray) (W : List Wr) : Prop where
  bel : Below w.heap.size w wx
  st : Sy T wx b A n c A' m c' f x0 x1 x2 x3 x4 x5
  dev : Dev wx A n c A' m c' f S W
  new : w.heap.size ≤ b
section
variable {T : TypeId} {w wx : World} {b : Nat} {A : Option Addr} {n c : Nat} {A' : Option Addr} {m c' : Nat} {f : Int} {S : List ByteArray} {W : List Wr}
theorem NewS.fresh (hb : Below w.heap.size w wx) (hD : Dev wx A n c A' m c' f S W) (x0 x1 x2 x3 x4 : Int) (x5 : Bool) : NewS T w (wx.alloc (TO T A n c A' m c' f x0 x1 x2 x3 x4 x5)) wx.heap.size A n c A' m c' f x0 x1 x2 x3 x4 x5 S W :=
  ⟨hb.push _, Sy.new T wx A n c A' m c' f x0 x1 x2 x3 x4 x5, hD.new _, hb.size⟩
theorem NewS.put {wf : World} {B : Option Addr} {p d : Nat} {B' : Option Addr} {r d' : Nat} {g z0 z1 z2 z3 z4 : Int} {z5 : Bool} (hb : Below w.heap.size w wx) (hD : Dev wx A n c A' m c' f S W) (hs : Sy T wx b B p d B' r d' g z0 z1 z2 z3 z4 z5) (hw : w.heap.size ≤ b) (x0 x1 x2 x3 x4 : Int) (x5 : Bool)
    (e : wf = (((((((((wx.setCell ⟨b, 0, none⟩ (.slice A n c)).setCell ⟨b, 1, none⟩ (.slice A' m c')).setCell ⟨b, 2, none⟩ (.int .i64 f)).setCell ⟨b, 3, none⟩ (.int .i64 x0)).setCell ⟨b, 4, none⟩ (.int .i64 x1)).setCell ⟨b, 5, none⟩ (.int .i64 x2)).setCell ⟨b, 6, none⟩ (.int .i64 x3)).setCell ⟨b, 7, none⟩ (.int .i64 x4)).setCell ⟨b, 8, none⟩ (.bool x5))) : NewS T w wf b A n c A' m c' f x0 x1 x2 x3 x4 x5 S W := by
  obtain ⟨h1, h2⟩ := hs.put A n c A' m c' f x0 x1 x2 x3 x4 x5 e
  exact ⟨below_grown hb h2 hw, h1, hD.only hs.ns h2, hw⟩
end

section
variable (A : Option Addr) (n c : Nat) (A' : Option Addr) (m c' : Nat) (f : Int) (S : List ByteArray) (V : List Wr) (w : World) (hD : Dev w A n c A' m c' f S V)
include hD

theorem open_arg (h : ¬ chk S V f = 0) : Calls Tryz.prog 8 #[DV A n c A' m c' f] w (RetOG w [] [] 0 zN ⟨#[]⟩ [] 2) := by
  have hb0 : Below w.heap.size w ((w.alloc (D33 A n c A' m c' f)).alloc (TO 31 none 0 0 none 0 0 0 0 0 0 0 0 false)) := (new1 _ _).push _
  have hY0 : Sy 31 ((w.alloc (D33 A n c A' m c' f)).alloc (TO 31 none 0 0 none 0 0 0 0 0 0 0 0 false)) (w.heap.size + 1) none 0 0 none 0 0 0 0 0 0 0 0 false := by
    have := Sy.new 31 (w.alloc (D33 A n c A' m c' f)) none 0 0 none 0 0 0 0 0 0 0 0 false
    rwa [World.size_alloc] at this
  have HC := Lib.hid (check_any A n c A' m c' f S V _ (hD.below hb0))
  have hne := neq0 h
  generalize chk S V f = e0 at *
  have HB0 := Lib.hid hb0
  have HY0 := Lib.hid hY0
  clear hD h hb0 hY0
  go_enter Tryz.func8, Tryz.ntmps8
  go_wp2_with (go_at_call 31; (with_reducible refine HC.out.mono ?_); rintro e w1 ⟨rfl, hb1⟩; have HB1 := Lib.hid (HB0.out.call hb1); have HY1 := Lib.hid (HY0.out.call hb1); obtain ⟨y0, y1, y2, y3, y4, y5, y6, y7, y8⟩ := (HY0.out.call hb1).cells; obtain ⟨g0, g1, g2, g3, g4, g5, g6, g7, g8⟩ := (HY0.out.call hb1).live; have hly := (HY0.out.call hb1).lt; clear hb1)
  obtain ⟨hY9, hg9⟩ := HY1.out.put none 0 0 none 0 0 0 0 0 0 0 0 false rfl
  have hb9 := below_grown HB1.out hg9 (by omega)
  generalize ((((((((w1.setCell ⟨w.heap.size + 1, 0, none⟩ (.slice none 0 0)).setCell ⟨w.heap.size + 1, 1, none⟩ (.slice none 0 0)).setCell ⟨w.heap.size + 1, 2, none⟩ (.int .i64 0)).setCell ⟨w.heap.size + 1, 3, none⟩ (.int .i64 0)).setCell ⟨w.heap.size + 1, 4, none⟩ (.int .i64 0)).setCell ⟨w.heap.size + 1, 5, none⟩ (.int .i64 0)).setCell ⟨w.heap.size + 1, 6, none⟩ (.int .i64 0)).setCell ⟨w.heap.size + 1, 7, none⟩ (.int .i64 0)).setCell ⟨w.heap.size + 1, 8, none⟩ (.bool false) = wf at *
  obtain ⟨q0, q1, q2, q3, q4, q5, q6, q7, q8⟩ := hY9.cells
  refine bodyPost_ret (v := .tuple #[TV none 0 0 none 0 0 0 zN, .string ⟨#[]⟩, .slice none 0 0, .int .i64 2]) (by simp [results, Tryz.results8, go_sem, q0, q1, q2, q3, q4, q5, q6, q7, q8]) rfl ?_
  exact ⟨_, _, _, _, _, _, _, _, _, rfl, dev_nil _, RV.nil _ _ _, hb9⟩

theorem open_spent (h : chk S V f = 0) (ht : 1099511627776 ≤ topD S V f) : Calls Tryz.prog 8 #[DV A n c A' m c' f] w (RetOG w [] [] 0 zN ⟨#[]⟩ [] 13) := by
  have hb0 : Below w.heap.size w ((w.alloc (D33 A n c A' m c' f)).alloc (TO 31 none 0 0 none 0 0 0 0 0 0 0 0 false)) := (new1 _ _).push _
  have hX0 : St ((w.alloc (D33 A n c A' m c' f)).alloc (TO 31 none 0 0 none 0 0 0 0 0 0 0 0 false)) w.heap.size A n c A' m c' f := (St.new w A n c A' m c' f 29).alloc _
  have hY0 : Sy 31 ((w.alloc (D33 A n c A' m c' f)).alloc (TO 31 none 0 0 none 0 0 0 0 0 0 0 0 false)) (w.heap.size + 1) none 0 0 none 0 0 0 0 0 0 0 0 false := by
    have := Sy.new 31 (w.alloc (D33 A n c A' m c' f)) none 0 0 none 0 0 0 0 0 0 0 0 false
    rwa [World.size_alloc] at this
  have hc := check_any A n c A' m c' f S V _ (hD.below hb0)
  rw [h] at hc
  have HC := Lib.hid hc
  have HTp := Lib.hid (fun W (hb : Below w.heap.size w W) => topD_any A n c A' m c' f S V W (hD.below hb))
  generalize topD S V f = tp at *
  have htp : (1099511627776 : Int) ≤ tp := ht
  have HB0 := Lib.hid hb0
  have HX0 := Lib.hid hX0
  have HY0 := Lib.hid hY0
  clear hD h hb0 hX0 hY0 hc ht
  go_enter Tryz.func8, Tryz.ntmps8
  go_wp2_with (first | (go_at_call 31; (with_reducible refine HC.out.mono ?_); rintro e w1 ⟨rfl, hb1⟩; have HB1 := Lib.hid (HB0.out.call hb1); have HY1 := Lib.hid (HY0.out.call hb1); obtain ⟨c0, c1, c2, -, -, -⟩ := (HX0.out.call hb1).box; have hlx := (HX0.out.call hb1).lt; clear hb1) | (go_at_call 32; (with_reducible refine (HTp.out _ HB1.out).mono ?_); rintro e w2 ⟨rfl, hb2⟩; have HB2 := Lib.hid (HB1.out.call hb2); have HY2 := Lib.hid (HY1.out.call hb2); obtain ⟨y0, y1, y2, y3, y4, y5, y6, y7, y8⟩ := (HY1.out.call hb2).cells; obtain ⟨g0, g1, g2, g3, g4, g5, g6, g7, g8⟩ := (HY1.out.call hb2).live; have hly := (HY1.out.call hb2).lt; clear hb2))
  obtain ⟨hY9, hg9⟩ := HY2.out.put none 0 0 none 0 0 0 0 0 0 0 0 false rfl
  have hb9 := below_grown HB2.out hg9 (by omega)
  generalize ((((((((w2.setCell ⟨w.heap.size + 1, 0, none⟩ (.slice none 0 0)).setCell ⟨w.heap.size + 1, 1, none⟩ (.slice none 0 0)).setCell ⟨w.heap.size + 1, 2, none⟩ (.int .i64 0)).setCell ⟨w.heap.size + 1, 3, none⟩ (.int .i64 0)).setCell ⟨w.heap.size + 1, 4, none⟩ (.int .i64 0)).setCell ⟨w.heap.size + 1, 5, none⟩ (.int .i64 0)).setCell ⟨w.heap.size + 1, 6, none⟩ (.int .i64 0)).setCell ⟨w.heap.size + 1, 7, none⟩ (.int .i64 0)).setCell ⟨w.heap.size + 1, 8, none⟩ (.bool false) = wf at *
  obtain ⟨q0, q1, q2, q3, q4, q5, q6, q7, q8⟩ := hY9.cells
  refine bodyPost_ret (v := .tuple #[TV none 0 0 none 0 0 0 zN, .string ⟨#[]⟩, .slice none 0 0, .int .i64 13]) (by simp [results, Tryz.results8, go_sem, q0, q1, q2, q3, q4, q5, q6, q7, q8]) rfl ?_
  exact ⟨_, _, _, _, _, _, _, _, _, rfl, dev_nil _, RV.nil _ _ _, hb9⟩

set_option maxRecDepth 100000 in
set_option maxHeartbeats 4000000 in
theorem open_ok (hT : Tab w) (h : chk S V f = 0) (ht : topD S V f < 1099511627776) : Calls Tryz.prog 8 #[DV A n c A' m c' f] w (RetOG w S V f (opnX S V f) (opnT S V f) (opnL S V f) 0) := by
  obtain ⟨ex, et, el⟩ := opnX_sav h
  rw [ex, et, el]
  have hb0 : Below w.heap.size w ((w.alloc (D33 A n c A' m c' f)).alloc (TO 31 none 0 0 none 0 0 0 0 0 0 0 0 false)) := (new1 _ _).push _
  have hX0 : St ((w.alloc (D33 A n c A' m c' f)).alloc (TO 31 none 0 0 none 0 0 0 0 0 0 0 0 false)) w.heap.size A n c A' m c' f := (St.new w A n c A' m c' f 29).alloc _
  have hY0 : Sy 31 ((w.alloc (D33 A n c A' m c' f)).alloc (TO 31 none 0 0 none 0 0 0 0 0 0 0 0 false)) (w.heap.size + 1) none 0 0 none 0 0 0 0 0 0 0 0 false := by
    have := Sy.new 31 (w.alloc (D33 A n c A' m c' f)) none 0 0 none 0 0 0 0 0 0 0 0 false
    rwa [World.size_alloc] at this
  have hc := check_any A n c A' m c' f S V _ (hD.below hb0)
  rw [h] at hc
  have HC := Lib.hid hc
  have HTp := Lib.hid (fun W (hb : Below w.heap.size w W) => topD_any A n c A' m c' f S V W (hD.below hb))
  have HSv := Lib.hid (fun W (hb : Below w.heap.size w W) => saved_any A n c A' m c' f S V W (hD.below hb) (Shf.tab_call hT hb))
  have HSc := Lib.hid (fun W (hb : Below w.heap.size w W) => scan_any A n c A' m c' f S V (savG (bestR S V f)) W (hD.below hb) (Shf.tab_call hT hb))
  have HOw := Lib.hid (fun W (hb : Below w.heap.size w W) => dev_own A n c A' m c' f S V W (hD.below hb))
  have htn := topD_nn S V f
  unfold RetSc at HSc
  unfold RetD at HOw
  generalize savZ (bestR S V f) = bz at *
  generalize savT (bestR S V f) = bt at *
  generalize savG (bestR S V f) = bg at *
  generalize scanDL S V f bg = L at *
  generalize scanDA S V f bg = a at *
  generalize topD S V f = tp at *
  have htp : tp < 1099511627776 := ht
  have hw : IntKind.i64.wrap (tp + 1) = tp + 1 := IntWalk.i64_in _ (by omega)
  obtain ⟨ll, hll⟩ : ∃ ll, L.length = ll := ⟨_, rfl⟩
  rw [hll]
  have HLL := Lib.hid hll
  have HB0 := Lib.hid hb0
  have HX0 := Lib.hid hX0
  have HY0 := Lib.hid hY0
  clear hD h hT hb0 hX0 hY0 hc ht ex et el hll
  go_enter Tryz.func8, Tryz.ntmps8
  go_upto_region 1 with fail
  generalize (w.alloc (D33 A n c A' m c' f)).alloc (TO 31 none 0 0 none 0 0 0 0 0 0 0 0 false) = w0 at *
  obtain ⟨c0, c1, c2, -, -, -⟩ := HX0.out.box
  have hlx := HX0.out.lt
  go_wp2_with fail
  with_reducible refine HC.out.mono ?_
  rintro r w1 ⟨rfl, hb1⟩
  have HB1 := Lib.hid (HB0.out.call hb1)
  have HX1 := Lib.hid (HX0.out.call hb1)
  have HY1 := Lib.hid (HY0.out.call hb1)
  clear hb1 c0 c1 c2 hlx HC HX0 HY0 HB0
  obtain ⟨c0, c1, c2, -, -, -⟩ := HX1.out.box
  have hlx := HX1.out.lt
  go_wp2_with fail
  with_reducible refine (HTp.out _ HB1.out).mono ?_
  rintro r w2 ⟨rfl, hb2⟩
  have HB2 := Lib.hid (HB1.out.call hb2)
  have HX2 := Lib.hid (HX1.out.call hb2)
  have HY2 := Lib.hid (HY1.out.call hb2)
  clear hb2 c0 c1 c2 hlx HTp HX1 HY1 HB1
  obtain ⟨c0, c1, c2, -, -, -⟩ := HX2.out.box
  have hlx := HX2.out.lt
  go_wp2_with fail
  with_reducible refine (HSv.out _ HB2.out).mono ?_
  rintro r w3 ⟨rfl, hb3⟩
  have HB2s : Hid (w.heap.size + 1 < w3.heap.size) := Lib.hid (Nat.lt_of_lt_of_le HY2.out.lt hb3.size)
  have HB3 := Lib.hid ((HB2.out.call hb3).push (.cells #[.int .i64 bg, .string bt] 75))
  have HX3 := Lib.hid ((HX2.out.call hb3).alloc (.cells #[.int .i64 bg, .string bt] 75))
  have HY3 := Lib.hid ((HY2.out.call hb3).alloc (.cells #[.int .i64 bg, .string bt] 75))
  have HS3 := Lib.hid (Bx2.new w3 (.int .i64 bg) (.string bt) 75)
  clear hb3 c0 c1 c2 hlx HSv HX2 HY2 HB2
  obtain ⟨c0, c1, c2, -, -, -⟩ := HX3.out.box
  have hlx := HX3.out.lt
  obtain ⟨s0, s1, -, -⟩ := HS3.out
  have hls := HS3.out.lt
  go_upto_region 7 with fail
  generalize hsb : w3.heap.size = sb at *
  generalize w3.alloc (.cells #[.int .i64 bg, .string bt] 75) = w4 at *
  go_wp2_with fail
  with_reducible refine (HSc.out _ HB3.out).mono ?_
  rintro r w5 ⟨B, q, d, rfl, hr5, hb5⟩
  have HB5 := Lib.hid (HB3.out.call hb5)
  have HX5 := Lib.hid (HX3.out.call hb5)
  have HY5 := Lib.hid (HY3.out.call hb5)
  have HS5 := Lib.hid (HS3.out.call hb5)
  have HR5 := Lib.hid hr5
  obtain rfl : ll = q := by have := hr5.sec; have := HLL.out; omega
  clear hb5 hr5 c0 c1 c2 hlx s0 s1 hls HSc HX3 HY3 HB3 HS3
  obtain ⟨c0, c1, c2, -, -, -⟩ := HX5.out.box
  have hlx := HX5.out.lt
  obtain ⟨s0, s1, -, -⟩ := HS5.out
  have hls := HS5.out.lt
  have hsb5 : w.heap.size < sb := by have := HB2s.out; omega
  have HSB := Lib.hid hsb5
  go_upto_region 8 with fail
  have ne1 : ¬ w5.heap.size = w.heap.size := by omega
  have ne2 : ¬ w5.heap.size = sb := by omega
  have HO5 : Hid (∀ W, Below w5.heap.size w5 W → Calls Tryz.prog 36 #[DV A n c A' m c' f] W (fun r w' => ∃ B p e B' q e', r = .returned (DV B p e B' q e' f) ∧ Dev w' B p e B' q e' f S V ∧ Below W.heap.size W w')) := Lib.hid (fun W hb => HOw.out W (HB5.out.call hb))
  clear HOw
  go_cut [12] (fun s12 wx => ∃ b B2 p2 e2 B2' r2 e2', s12 = .pointer (some ⟨b, 0, none⟩) ∧ Hid (NewS 31 w5 wx b B2 p2 e2 B2' r2 e2' f bz bg (tp + 1) a ll false S V))
  case first =>
    go_region_held3 (fun W => W.cell? ⟨w.heap.size, 0, none⟩ = some (.slice A n c) ∧ W.cell? ⟨w.heap.size, 1, none⟩ = some (.slice A' m c') ∧ W.cell? ⟨w.heap.size, 2, none⟩ = some (.int .i64 f) ∧ W.cell? ⟨sb, 0, none⟩ = some (.int .i64 bg)) (go_keep)
      (first | (go_at_call 36; ((with_reducible refine (HO5.out _ (by repeat (first | exact Below.refl _ _ | refine Below.push ?_ _ | refine Below.drew ?_))).mono ?_)); rintro r w6 ⟨B2, p2, e2, B2', r2, e2', rfl, hd6, hb6⟩; obtain ⟨hc6, hf6⟩ := bcell hb6; have hlt6 := blt hb6; have hbw6 : Below w5.heap.size w5 w6 := (Below.call (by repeat (first | exact Below.refl _ _ | refine Below.push ?_ _ | refine Below.drew ?_)) hb6); have q0 : w6.cell? ⟨w.heap.size, 0, none⟩ = some (.slice A n c) := (by rw [hbw6.cell (p := ⟨w.heap.size, 0, none⟩) hlx]; exact c0); have q1 : w6.cell? ⟨w.heap.size, 1, none⟩ = some (.slice A' m c') := (by rw [hbw6.cell (p := ⟨w.heap.size, 1, none⟩) hlx]; exact c1); have q2 : w6.cell? ⟨w.heap.size, 2, none⟩ = some (.int .i64 f) := (by rw [hbw6.cell (p := ⟨w.heap.size, 2, none⟩) hlx]; exact c2); have q3 : w6.cell? ⟨sb, 0, none⟩ = some (.int .i64 bg) := (by rw [hbw6.cell (p := ⟨sb, 0, none⟩) hls]; exact s0); have ne3 : ¬ w6.heap.size = w.heap.size := (by have := hbw6.size; omega); have ne4 : ¬ w6.heap.size = sb := (by have := hbw6.size; omega); have HD6 := Lib.hid hd6; clear hd6))
    · go_wp2_with fail
      go_meet
      exact ⟨_, _, _, _, _, _, _, rfl, Lib.hid (NewS.fresh hbw6 HD6.out _ _ _ _ _ _)⟩
    · go_wp2_with fail
      go_meet
      exact ⟨_, _, _, _, _, _, _, rfl, Lib.hid (NewS.put hbw6 HD6.out ((Sy.new 31 w5 none 0 0 none 0 0 0 0 0 0 0 0 false).call (undrew hb6)) (Nat.le_refl _) _ _ _ _ _ _ rfl)⟩
  case rest =>
    obtain ⟨b, B2, p2, e2, B2', r2, e2', rfl, HN⟩ := hcut
    have HB9 := Lib.hid (HB5.out.call HN.out.bel)
    have HY9 := Lib.hid (HY5.out.call HN.out.bel)
    have HS9 := Lib.hid (HS5.out.call HN.out.bel)
    have HR9 := Lib.hid (HR5.out.below HN.out.bel)
    have nes : ¬ w.heap.size + 1 = sb := by have := HB2s.out; omega
    have nes2 : ¬ sb = w.heap.size + 1 := fun e => nes e.symm
    have hbw : w.heap.size + 1 < b := by have := HN.out.new; have := HY5.out.lt; omega
    clear c0 c1 c2 hlx s0 s1 hls ne1 ne2 HO5 HX5 HY5 HS5 HB5 HR5
    obtain ⟨c0, c1, c2, c3, c4, c5, c6, c7, c8⟩ := HN.out.st.cells
    have hlx := HN.out.st.lt
    obtain ⟨s0, s1, -, -⟩ := HS9.out
    have hls := HS9.out.lt
    obtain ⟨y0, y1, y2, y3, y4, y5, y6, y7, y8⟩ := HY9.out.cells
    obtain ⟨g0, g1, g2, g3, g4, g5, g6, g7, g8⟩ := HY9.out.live
    have hly := HY9.out.lt
    go_wp2_with fail
    go_region
    all_goals (
      go_wp2_with fail
      obtain ⟨hYf, hgf⟩ := HY9.out.put B2 p2 e2 B2' r2 e2' f bz bg (tp + 1) a ll false rfl
      have hDf := HN.out.dev.only HY9.out.ns hgf
      have hRf : RV _ B ll 1 (SV L) := HR9.out.secOnly HY9.out.ns hgf
      have hbf := below_grown HB9.out hgf (by omega)
      generalize (((((((((wc.setCell ⟨w.heap.size + 1, 0, none⟩ (.slice B2 p2 e2)).setCell ⟨w.heap.size + 1, 1, none⟩ (.slice B2' r2 e2')).setCell ⟨w.heap.size + 1, 2, none⟩ (.int .i64 f)).setCell ⟨w.heap.size + 1, 3, none⟩ (.int .i64 bz)).setCell ⟨w.heap.size + 1, 4, none⟩ (.int .i64 bg)).setCell ⟨w.heap.size + 1, 5, none⟩ (.int .i64 (tp + 1))).setCell ⟨w.heap.size + 1, 6, none⟩ (.int .i64 a)).setCell ⟨w.heap.size + 1, 7, none⟩ (.int .i64 ll)).setCell ⟨w.heap.size + 1, 8, none⟩ (.bool false)) = wf at *
      obtain ⟨q0, q1, q2, q3, q4, q5, q6, q7, q8⟩ := hYf.cells
      refine bodyPost_ret (v := .tuple #[.agg #[.slice B2 p2 e2, .slice B2' r2 e2', .int .i64 f, .int .i64 bz, .int .i64 bg, .int .i64 (tp + 1), .int .i64 a, .int .i64 ll, .bool false], .string bt, .slice B ll d, .int .i64 0]) (by simp [results, Tryz.results8, go_sem, q0, q1, q2, q3, q4, q5, q6, q7, q8]) rfl ?_
      exact ⟨_, _, _, _, _, _, _, _, _, rfl, hDf.below (Below.refl _ _).drew, hRf.below (Below.refl _ _).drew, hbf.drew⟩)

/-- What Open answers, of whatever disk. -/
theorem open_gen (hT : Tab w) : Calls Tryz.prog 8 #[DV A n c A' m c' f] w (RetOG w (opnS S V f) (opnV S V f) (opnF S V f) (opnXe S V f) (opnTe S V f) (opnLe S V f) (opnE S V f)) := by
  by_cases h : chk S V f = 0
  · by_cases ht : 1099511627776 ≤ topD S V f
    · have he : opnE S V f = 13 := by unfold opnE; rw [if_pos h, if_pos ht]
      unfold opnS opnV opnF opnXe opnTe opnLe
      rw [he, if_neg (by decide), if_neg (by decide), if_neg (by decide), if_neg (by decide), if_neg (by decide), if_neg (by decide)]
      exact open_spent A n c A' m c' f S V w hD h ht
    · have he : opnE S V f = 0 := by unfold opnE; rw [if_pos h, if_neg ht]
      unfold opnS opnV opnF opnXe opnTe opnLe
      rw [he, if_pos rfl, if_pos rfl, if_pos rfl, if_pos rfl, if_pos rfl, if_pos rfl]
      exact open_ok A n c A' m c' f S V w hD hT h (by omega)
  · have he : opnE S V f = 2 := by unfold opnE; rw [if_neg h]
    unfold opnS opnV opnF opnXe opnTe opnLe
    rw [he, if_neg (by decide), if_neg (by decide), if_neg (by decide), if_neg (by decide), if_neg (by decide), if_neg (by decide)]
    exact open_arg A n c A' m c' f S V w hD h
theorem open_is (hT : Tab w) (h : opnE S V f = 0) : Calls Tryz.prog 8 #[DV A n c A' m c' f] w (RetOG w S V f (opnX S V f) (opnT S V f) (opnL S V f) 0) := by
  have := open_gen A n c A' m c' f S V w hD hT
  unfold opnS opnV opnF opnXe opnTe opnLe at this
  rwa [h, if_pos rfl, if_pos rfl, if_pos rfl, if_pos rfl, if_pos rfl, if_pos rfl] at this
end

end Go.Proofs.YtkglolnghihegaaGreatDoor.Sto
