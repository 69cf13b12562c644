/- Contracts of Arm of package disk. -/
import Derived.Test.YtgjhiekcdcicgaaPut
namespace Go.Proofs.Ytgjhiekcdcicgaa
open Go.RowKit

theorem arm_no (A : Option Addr) (n c : Nat) (A' : Option Addr) (m c' : Nat) (f : Int) (S : List ByteArray) (W : List Wr) (p : Int) (w : World) (hD : Dev w A n c A' m c' f S W) (h : ¬ chk S W f = 0) :
    Calls Try.prog 17 #[DV A n c A' m c' f, .int .i64 p] w (RetD w S W f) := by
  have HC := Lib.hid (check_any A n c A' m c' f S W _ ((hD.new (D33 A n c A' m c' f)).new (D33 none 0 0 none 0 0 0)))
  have HD := Lib.hid hD
  have hne := neq0 h
  generalize chk S W f = e0 at *
  clear hD h
  go_enter Try.func17, Try.ntmps17
  go_wp2_with fail
  refine HC.out.mono ?_
  rintro e w1 ⟨rfl, hb1⟩
  have HB := Lib.hid (((new1 w _).push _).call hb1)
  obtain ⟨hc, hf⟩ := bcell hb1
  clear hb1
  go_wp2
  have HB3 := ((HB.out.setCell (p := ⟨w.heap.size + 1, 0, none⟩) (by simp) (.slice A n c)).setCell (p := ⟨w.heap.size + 1, 1, none⟩) (by simp) (.slice A' m c')).setCell (p := ⟨w.heap.size + 1, 2, none⟩) (by simp) (.int .i64 f)
  exact bodyPost_ret (v := DV A n c A' m c' f) (by simp [results, Try.results17, go_sem, hc]) rfl ⟨A, n, c, A', m, c', rfl, HD.out.below HB3, HB3⟩

/-- Two rows of the call's own, and a store of three cells into a block that is neither's. -/
theorem keep3 {w w' : World} {B B' e e' n m : Nat} {a a' : Option Addr} {c c' : Nat} {S : List ByteArray} {W : List Wr} (h1 : w'.ownsRow B e 1 (.slice a n c) n (SV S)) (h2 : w'.ownsRow B' e' 2 (.slice a' m c') m (WV W)) (hb : Below w.heap.size w w')
    (l1 : w.heap.size + 1 < B) (l2 : w.heap.size + 1 < B') (x y z : Value) :
    RV (((w'.setCell ⟨w.heap.size + 1, 0, none⟩ x).setCell ⟨w.heap.size + 1, 1, none⟩ y).setCell ⟨w.heap.size + 1, 2, none⟩ z) a n 1 (SV S) ∧
    RV (((w'.setCell ⟨w.heap.size + 1, 0, none⟩ x).setCell ⟨w.heap.size + 1, 1, none⟩ y).setCell ⟨w.heap.size + 1, 2, none⟩ z) a' m 2 (WV W) ∧
    Below w.heap.size w (((w'.setCell ⟨w.heap.size + 1, 0, none⟩ x).setCell ⟨w.heap.size + 1, 1, none⟩ y).setCell ⟨w.heap.size + 1, 2, none⟩ z) :=
  ⟨RV.of_own (ownsRow_setCell_below (ownsRow_setCell_below (ownsRow_setCell_below h1 l1 _) l1 _) l1 _), RV.of_own (ownsRow_setCell_below (ownsRow_setCell_below (ownsRow_setCell_below h2 l2 _) l2 _) l2 _),
   ((hb.setCell (by simp) _).setCell (by simp) _).setCell (by simp) _⟩

set_option maxRecDepth 100000 in
set_option maxHeartbeats 1000000 in
theorem arm_lo (A : Option Addr) (n c : Nat) (A' : Option Addr) (m c' : Nat) (f : Int) (S : List ByteArray) (W : List Wr) (p : Int) (w : World) (hD : Dev w A n c A' m c' f S W) (h : chk S W f = 0) (h1 : p < -1) :
    Calls Try.prog 17 #[DV A n c A' m c' f, .int .i64 p] w (RetD w S W (-1)) := by
  have hc := check_any A n c A' m c' f S W _ ((hD.new (D33 A n c A' m c' f)).new (D33 none 0 0 none 0 0 0))
  rw [h] at hc
  have HC := Lib.hid hc
  have HD := Lib.hid hD
  clear hD h hc
  go_enter Try.func17, Try.ntmps17
  go_wp2_with fail
  refine HC.out.mono ?_
  rintro e w1 ⟨rfl, hb1⟩
  have HB := Lib.hid (((new1 w _).push _).call hb1)
  have HX := Lib.hid (((Box.new w (.slice A n c) (.slice A' m c') (.int .i64 f) 33).alloc (D33 none 0 0 none 0 0 0)).call hb1)
  have HY := Lib.hid (by have := (Box.new (w.alloc (D33 A n c A' m c' f)) (.slice none 0 0) (.slice none 0 0) (.int .i64 0) 33).call hb1; rwa [World.size_alloc] at this)
  have hzz : w.heap.size + 1 < w1.heap.size := HY.out.lt
  obtain ⟨c0, c1, c2, f0, f1, f2⟩ := HX.out
  clear hb1
  go_wp2_with fail
  have HT := Lib.hid (clone_any A n c S w1.drew (HD.out.sec.below HB.out.drew) (by have := HD.out.sec.sec; have := HD.out.ns; omega))
  go_region_held3 (fun W => W.cell? ⟨w.heap.size, 0, none⟩ = some (.slice A n c) ∧ W.cell? ⟨w.heap.size, 1, none⟩ = some (.slice A' m c')) (go_keep)
    (first
      | (go_at_call 31; ((with_reducible refine HT.out.mono ?_)); rintro r w4 ⟨v, rfl, hown, hb4⟩; obtain ⟨a4, cap4, rfl⟩ := own_val hown; obtain ⟨hc, hf⟩ := bcell hb4; have q0 : w4.cell? ⟨w.heap.size, 0, none⟩ = some (.slice A n c) := (by rw [hc _ _ (by simp; omega)]; simp [*]); have q2 : w4.cell? ⟨w.heap.size, 1, none⟩ = some (.slice A' m c') := (by rw [hc _ _ (by simp; omega)]; simp [*]); have HB4 := Lib.hid (HB.out.call (undrew hb4)); have HY4 := Lib.hid (HY.out.call (undrew hb4)); have HO := Lib.hid hown; have hz4 := hb4.size; have HU := Lib.hid (wclone_any A' m c' W w4 (HD.out.wr.below HB4.out) (by have := HD.out.wr.wr; have := HD.out.nw; omega)); clear hc hf hown hb4)
      | (go_at_call 36; ((with_reducible refine HU.out.mono ?_)); rintro r w5 ⟨v, rfl, hown, hb5⟩; obtain ⟨a5, cap5, rfl⟩ := own_val hown; obtain ⟨hc, hf⟩ := bcell hb5; have r0 : w5.cell? ⟨w.heap.size, 0, none⟩ = some (.slice A n c) := (by rw [hc _ _ (by simp at hz4; omega)]; simp [*]); have r2 : w5.cell? ⟨w.heap.size, 1, none⟩ = some (.slice A' m c') := (by rw [hc _ _ (by simp at hz4; omega)]; simp [*]); have HB5 := Lib.hid (HB4.out.call hb5); have HY5 := Lib.hid (HY4.out.call hb5); have HO5 := Lib.hid hown; have HO4 := Lib.hid (HO.out.kept ⟨hb5.os, hb5.tape, hb5.output, hb5.size, fun k hk _ => hb5.block k hk⟩ (row := none) (by cases a4 <;> simp [Value.ownBlock])); obtain ⟨z0, z1, z2, v0, v1, v2⟩ := HY5.out; have hz5 := hb5.size; clear hc hf hown hb5))
  go_wp2_with fail
  simp only [World.size_drew] at hz4
  have K5 := fun z : Int => keep3 HO4.out HO5.out HB5.out (show w.heap.size + 1 < w1.drew.heap.size by simp; omega) (show w.heap.size + 1 < w4.heap.size by omega) (.slice a4 n cap4) (.slice a5 m cap5) (.int .i64 z)
  exact bodyPost_ret (v := DV a4 n cap4 a5 m cap5 (-1)) (by simp [results, Try.results17, go_sem, z0, z1, z2]) rfl ⟨_, n, cap4, _, m, cap5, rfl, ⟨(K5 (-1)).1, (K5 (-1)).2.1, by omega, by omega, HD.out.ns, HD.out.nw⟩, (K5 (-1)).2.2⟩

set_option maxRecDepth 100000 in
set_option maxHeartbeats 1000000 in
theorem arm_in (A : Option Addr) (n c : Nat) (A' : Option Addr) (m c' : Nat) (f : Int) (S : List ByteArray) (W : List Wr) (p : Int) (w : World) (hD : Dev w A n c A' m c' f S W) (h : chk S W f = 0) (h1 : -1 ≤ p) (h2 : p ≤ 1073741824) :
    Calls Try.prog 17 #[DV A n c A' m c' f, .int .i64 p] w (RetD w S W p) := by
  have hc := check_any A n c A' m c' f S W _ ((hD.new (D33 A n c A' m c' f)).new (D33 none 0 0 none 0 0 0))
  rw [h] at hc
  have HC := Lib.hid hc
  have HD := Lib.hid hD
  clear hD h hc
  go_enter Try.func17, Try.ntmps17
  go_wp2_with fail
  refine HC.out.mono ?_
  rintro e w1 ⟨rfl, hb1⟩
  have HB := Lib.hid (((new1 w _).push _).call hb1)
  have HX := Lib.hid (((Box.new w (.slice A n c) (.slice A' m c') (.int .i64 f) 33).alloc (D33 none 0 0 none 0 0 0)).call hb1)
  have HY := Lib.hid (by have := (Box.new (w.alloc (D33 A n c A' m c' f)) (.slice none 0 0) (.slice none 0 0) (.int .i64 0) 33).call hb1; rwa [World.size_alloc] at this)
  have hzz : w.heap.size + 1 < w1.heap.size := HY.out.lt
  obtain ⟨c0, c1, c2, f0, f1, f2⟩ := HX.out
  clear hb1
  go_wp2_with fail
  have HT := Lib.hid (clone_any A n c S w1.drew (HD.out.sec.below HB.out.drew) (by have := HD.out.sec.sec; have := HD.out.ns; omega))
  go_region_held3 (fun W => W.cell? ⟨w.heap.size, 0, none⟩ = some (.slice A n c) ∧ W.cell? ⟨w.heap.size, 1, none⟩ = some (.slice A' m c')) (go_keep)
    (first
      | (go_at_call 31; ((with_reducible refine HT.out.mono ?_)); rintro r w4 ⟨v, rfl, hown, hb4⟩; obtain ⟨a4, cap4, rfl⟩ := own_val hown; obtain ⟨hc, hf⟩ := bcell hb4; have q0 : w4.cell? ⟨w.heap.size, 0, none⟩ = some (.slice A n c) := (by rw [hc _ _ (by simp; omega)]; simp [*]); have q2 : w4.cell? ⟨w.heap.size, 1, none⟩ = some (.slice A' m c') := (by rw [hc _ _ (by simp; omega)]; simp [*]); have HB4 := Lib.hid (HB.out.call (undrew hb4)); have HY4 := Lib.hid (HY.out.call (undrew hb4)); have HO := Lib.hid hown; have hz4 := hb4.size; have HU := Lib.hid (wclone_any A' m c' W w4 (HD.out.wr.below HB4.out) (by have := HD.out.wr.wr; have := HD.out.nw; omega)); clear hc hf hown hb4)
      | (go_at_call 36; ((with_reducible refine HU.out.mono ?_)); rintro r w5 ⟨v, rfl, hown, hb5⟩; obtain ⟨a5, cap5, rfl⟩ := own_val hown; obtain ⟨hc, hf⟩ := bcell hb5; have r0 : w5.cell? ⟨w.heap.size, 0, none⟩ = some (.slice A n c) := (by rw [hc _ _ (by simp at hz4; omega)]; simp [*]); have r2 : w5.cell? ⟨w.heap.size, 1, none⟩ = some (.slice A' m c') := (by rw [hc _ _ (by simp at hz4; omega)]; simp [*]); have HB5 := Lib.hid (HB4.out.call hb5); have HY5 := Lib.hid (HY4.out.call hb5); have HO5 := Lib.hid hown; have HO4 := Lib.hid (HO.out.kept ⟨hb5.os, hb5.tape, hb5.output, hb5.size, fun k hk _ => hb5.block k hk⟩ (row := none) (by cases a4 <;> simp [Value.ownBlock])); obtain ⟨z0, z1, z2, v0, v1, v2⟩ := HY5.out; have hz5 := hb5.size; clear hc hf hown hb5))
  go_wp2_with fail
  simp only [World.size_drew] at hz4
  have K5 := fun z : Int => keep3 HO4.out HO5.out HB5.out (show w.heap.size + 1 < w1.drew.heap.size by simp; omega) (show w.heap.size + 1 < w4.heap.size by omega) (.slice a4 n cap4) (.slice a5 m cap5) (.int .i64 z)
  exact bodyPost_ret (v := DV a4 n cap4 a5 m cap5 p) (by simp [results, Try.results17, go_sem, z0, z1, z2]) rfl ⟨_, n, cap4, _, m, cap5, rfl, ⟨(K5 p).1, (K5 p).2.1, by omega, by omega, HD.out.ns, HD.out.nw⟩, (K5 p).2.2⟩

set_option maxRecDepth 100000 in
set_option maxHeartbeats 1000000 in
theorem arm_hi (A : Option Addr) (n c : Nat) (A' : Option Addr) (m c' : Nat) (f : Int) (S : List ByteArray) (W : List Wr) (p : Int) (w : World) (hD : Dev w A n c A' m c' f S W) (h : chk S W f = 0) (h1 : 1073741824 < p) :
    Calls Try.prog 17 #[DV A n c A' m c' f, .int .i64 p] w (RetD w S W 1073741824) := by
  have hc := check_any A n c A' m c' f S W _ ((hD.new (D33 A n c A' m c' f)).new (D33 none 0 0 none 0 0 0))
  rw [h] at hc
  have HC := Lib.hid hc
  have HD := Lib.hid hD
  clear hD h hc
  go_enter Try.func17, Try.ntmps17
  go_wp2_with fail
  refine HC.out.mono ?_
  rintro e w1 ⟨rfl, hb1⟩
  have HB := Lib.hid (((new1 w _).push _).call hb1)
  have HX := Lib.hid (((Box.new w (.slice A n c) (.slice A' m c') (.int .i64 f) 33).alloc (D33 none 0 0 none 0 0 0)).call hb1)
  have HY := Lib.hid (by have := (Box.new (w.alloc (D33 A n c A' m c' f)) (.slice none 0 0) (.slice none 0 0) (.int .i64 0) 33).call hb1; rwa [World.size_alloc] at this)
  have hzz : w.heap.size + 1 < w1.heap.size := HY.out.lt
  obtain ⟨c0, c1, c2, f0, f1, f2⟩ := HX.out
  clear hb1
  go_wp2_with fail
  have HT := Lib.hid (clone_any A n c S w1.drew (HD.out.sec.below HB.out.drew) (by have := HD.out.sec.sec; have := HD.out.ns; omega))
  go_region_held3 (fun W => W.cell? ⟨w.heap.size, 0, none⟩ = some (.slice A n c) ∧ W.cell? ⟨w.heap.size, 1, none⟩ = some (.slice A' m c')) (go_keep)
    (first
      | (go_at_call 31; ((with_reducible refine HT.out.mono ?_)); rintro r w4 ⟨v, rfl, hown, hb4⟩; obtain ⟨a4, cap4, rfl⟩ := own_val hown; obtain ⟨hc, hf⟩ := bcell hb4; have q0 : w4.cell? ⟨w.heap.size, 0, none⟩ = some (.slice A n c) := (by rw [hc _ _ (by simp; omega)]; simp [*]); have q2 : w4.cell? ⟨w.heap.size, 1, none⟩ = some (.slice A' m c') := (by rw [hc _ _ (by simp; omega)]; simp [*]); have HB4 := Lib.hid (HB.out.call (undrew hb4)); have HY4 := Lib.hid (HY.out.call (undrew hb4)); have HO := Lib.hid hown; have hz4 := hb4.size; have HU := Lib.hid (wclone_any A' m c' W w4 (HD.out.wr.below HB4.out) (by have := HD.out.wr.wr; have := HD.out.nw; omega)); clear hc hf hown hb4)
      | (go_at_call 36; ((with_reducible refine HU.out.mono ?_)); rintro r w5 ⟨v, rfl, hown, hb5⟩; obtain ⟨a5, cap5, rfl⟩ := own_val hown; obtain ⟨hc, hf⟩ := bcell hb5; have r0 : w5.cell? ⟨w.heap.size, 0, none⟩ = some (.slice A n c) := (by rw [hc _ _ (by simp at hz4; omega)]; simp [*]); have r2 : w5.cell? ⟨w.heap.size, 1, none⟩ = some (.slice A' m c') := (by rw [hc _ _ (by simp at hz4; omega)]; simp [*]); have HB5 := Lib.hid (HB4.out.call hb5); have HY5 := Lib.hid (HY4.out.call hb5); have HO5 := Lib.hid hown; have HO4 := Lib.hid (HO.out.kept ⟨hb5.os, hb5.tape, hb5.output, hb5.size, fun k hk _ => hb5.block k hk⟩ (row := none) (by cases a4 <;> simp [Value.ownBlock])); obtain ⟨z0, z1, z2, v0, v1, v2⟩ := HY5.out; have hz5 := hb5.size; clear hc hf hown hb5))
  go_wp2_with fail
  simp only [World.size_drew] at hz4
  have K5 := fun z : Int => keep3 HO4.out HO5.out HB5.out (show w.heap.size + 1 < w1.drew.heap.size by simp; omega) (show w.heap.size + 1 < w4.heap.size by omega) (.slice a4 n cap4) (.slice a5 m cap5) (.int .i64 z)
  exact bodyPost_ret (v := DV a4 n cap4 a5 m cap5 1073741824) (by simp [results, Try.results17, go_sem, z0, z1, z2]) rfl ⟨_, n, cap4, _, m, cap5, rfl, ⟨(K5 1073741824).1, (K5 1073741824).2.1, by omega, by omega, HD.out.ns, HD.out.nw⟩, (K5 1073741824).2.2⟩

theorem arm_any (A : Option Addr) (n c : Nat) (A' : Option Addr) (m c' : Nat) (f : Int) (S : List ByteArray) (W : List Wr) (p : Int) (w : World) (hD : Dev w A n c A' m c' f S W) :
    Calls Try.prog 17 #[DV A n c A' m c' f, .int .i64 p] w (RetD w S W (if chk S W f = 0 then armF p else f)) := by
  by_cases h : chk S W f = 0
  · rw [if_pos h]
    by_cases h1 : p < -1
    · rw [show armF p = -1 by unfold armF; omega]; exact arm_lo A n c A' m c' f S W p w hD h h1
    · by_cases h2 : 1073741824 < p
      · rw [show armF p = 1073741824 by unfold armF; omega]; exact arm_hi A n c A' m c' f S W p w hD h h2
      · rw [show armF p = p by unfold armF; omega]; exact arm_in A n c A' m c' f S W p w hD h (by omega) (by omega)
  · rw [if_neg h]; exact arm_no A n c A' m c' f S W p w hD h

end Go.Proofs.Ytgjhiekcdcicgaa
