/- Contracts of Open, Top and Whole of package sheet. -/
import Derived.Test.YtkglolnghihegaaGreatDoorShtA
import Derived.Test.YtkglolnghihegaaGreatDoorOct
import Derived.BigQuiet
import Derived.Deep.QuietTactic
namespace Go.Proofs.YtkglolnghihegaaGreatDoor.Sht
open Go.RowKit Go.Proofs.YtkglolnghihegaaGreatDoor.Oct

theorem open_form (s : ByteArray) (w : World) (h : (((s.size : Int)) != 64) = true) :
    Calls Tryz.prog 105 #[.string s] w fun e w' => e = .returned (.tuple #[.int .i64 0, .string ⟨#[]⟩, .int .i64 4]) ∧ Below w.heap.size w w' := by
  go_enter Tryz.func105, Tryz.ntmps105
  go_wp2_with fail
  go_ret3
  exact ⟨rfl, Below.refl _ _⟩

set_option maxRecDepth 20000 in
theorem open_cut (s : ByteArray) (w : World) (h : s.size = 64) (hne : s.data.toList.take 6 ≠ (s.data.toList.drop 58).take 6) :
    Calls Tryz.prog 105 #[.string s] w fun e w' => e = .returned (.tuple #[.int .i64 0, .string ⟨#[]⟩, .int .i64 3]) ∧ Below w.heap.size w w' := by
  have HM := Lib.hid (fun W => marks_any s W h)
  have hl1 : (s.data.toList.take 6).length = 6 := by simp; omega
  have hl2 : ((s.data.toList.drop 58).take 6).length = 6 := by simp; omega
  generalize s.data.toList.take 6 = l at *
  generalize (s.data.toList.drop 58).take 6 = m at *
  have heq := fun W => eq6 W l m hl1 hl2
  rw [decide_eq_false hne] at heq
  obtain ⟨c0, c1, c2, c3, c4, c5, rfl⟩ := six hl1
  obtain ⟨d0, d1, d2, d3, d4, d5, rfl⟩ := six hl2
  rw [m6, m6] at HM heq
  clear hl1 hl2 hne
  have hs : ((s.size : Int) != 64) = false := by rw [h]; rfl
  clear h
  go_enter Tryz.func105, Tryz.ntmps105
  go_wp2_with fail
  with_reducible refine (HM.out _).mono ?_
  rintro r w1 ⟨rfl, hb⟩
  go_wp2_with fail
  go_ret3
  exact ⟨rfl, (hb.push _).push _⟩

set_option maxRecDepth 20000 in
theorem open_range (s : ByteArray) (w : World) (h : s.size = 64) (he : s.data.toList.take 6 = (s.data.toList.drop 58).take 6) (hn : (natBE (s.data.toList.take 6) : Int) < 1 ∨ 1099511627776 < (natBE (s.data.toList.take 6) : Int)) :
    Calls Tryz.prog 105 #[.string s] w fun e w' => e = .returned (.tuple #[.int .i64 0, .string ⟨#[]⟩, .int .i64 8]) ∧ Below w.heap.size w w' := by
  have HM := Lib.hid (fun W => marks_any s W h)
  have hl1 : (s.data.toList.take 6).length = 6 := by simp; omega
  rw [← he] at HM
  clear he
  generalize s.data.toList.take 6 = l at *
  have heq := fun W => eq6 W l l hl1 hl1
  rw [decide_eq_true rfl] at heq
  have HN := Lib.hid (fun W => number_any l W hl1)
  have HS := Lib.hid (fun W => isStamp_no _ W hn)
  obtain ⟨c0, c1, c2, c3, c4, c5, rfl⟩ := six hl1
  clear hl1 hn
  generalize natBE [c0, c1, c2, c3, c4, c5] = N at *
  rw [m6] at HM heq HN
  have hs : ((s.size : Int) != 64) = false := by rw [h]; rfl
  clear h
  go_enter Tryz.func105, Tryz.ntmps105
  go_wp2_with fail
  with_reducible refine (HM.out _).mono ?_
  rintro r w1 ⟨rfl, hb⟩
  have HB := Lib.hid hb
  have hx := Six.new w1 [c0, c1, c2, c3, c4, c5]
  clear hb
  go_wp2_with fail
  with_reducible refine (HN.out _).mono ?_
  rintro r w2 ⟨rfl, hb⟩
  have HB2 := Lib.hid (((HB.out.push _).push _).call hb)
  clear hb
  go_wp2_with fail
  with_reducible refine (HS.out _).mono ?_
  rintro r w3 ⟨rfl, rfl⟩
  go_wp2_with fail
  go_ret3
  exact ⟨rfl, HB2.out⟩

set_option maxRecDepth 20000 in
theorem open_ok (s : ByteArray) (w : World) (h : s.size = 64) (he : s.data.toList.take 6 = (s.data.toList.drop 58).take 6) (hn1 : 1 ≤ (natBE (s.data.toList.take 6) : Int)) (hn2 : (natBE (s.data.toList.take 6) : Int) ≤ 1099511627776) :
    Calls Tryz.prog 105 #[.string s] w fun e w' => e = .returned (.tuple #[.int .i64 (natBE (s.data.toList.take 6)), .string (s.extract 6 58), .int .i64 0]) ∧ Below w.heap.size w w' := by
  have HM := Lib.hid (fun W => marks_any s W h)
  have hl1 : (s.data.toList.take 6).length = 6 := by simp; omega
  rw [← he] at HM
  clear he
  generalize s.data.toList.take 6 = l at *
  have heq := fun W => eq6 W l l hl1 hl1
  rw [decide_eq_true rfl] at heq
  have HN := Lib.hid (fun W => number_any l W hl1)
  have HS := Lib.hid (fun W => isStamp_yes _ W hn1 hn2)
  obtain ⟨c0, c1, c2, c3, c4, c5, rfl⟩ := six hl1
  clear hl1 hn1 hn2
  generalize natBE [c0, c1, c2, c3, c4, c5] = N at *
  rw [m6] at HM heq HN
  have hs : ((s.size : Int) != 64) = false := by rw [h]; rfl
  have hsz := h
  clear h
  go_enter Tryz.func105, Tryz.ntmps105
  go_wp2_with fail
  with_reducible refine (HM.out _).mono ?_
  rintro r w1 ⟨rfl, hb⟩
  have HB := Lib.hid hb
  have hx := Six.new w1 [c0, c1, c2, c3, c4, c5]
  clear hb
  go_wp2_with fail
  with_reducible refine (HN.out _).mono ?_
  rintro r w2 ⟨rfl, hb⟩
  have HB2 := Lib.hid (((HB.out.push _).push _).call hb)
  clear hb
  go_wp2_with fail
  with_reducible refine (HS.out _).mono ?_
  rintro r w3 ⟨rfl, rfl⟩
  go_wp2_with fail
  go_quiet (fail)
  go_wp2_with fail
  go_ret3
  exact ⟨rfl, HB2.out.drewN _⟩


/-- What Open answers. -/
def openR (s : ByteArray) : Int × ByteArray × Int :=
  if s.size = 64 then
    (if s.data.toList.take 6 = (s.data.toList.drop 58).take 6 then
      (if 1 ≤ natBE (s.data.toList.take 6) ∧ natBE (s.data.toList.take 6) ≤ 1099511627776 then (natBE (s.data.toList.take 6), s.extract 6 58, 0) else (0, ⟨#[]⟩, 8))
    else (0, ⟨#[]⟩, 3))
  else (0, ⟨#[]⟩, 4)

theorem open_any (s : ByteArray) (w : World) :
    Calls Tryz.prog 105 #[.string s] w fun e w' => e = .returned (.tuple #[.int .i64 (openR s).1, .string (openR s).2.1, .int .i64 (openR s).2.2]) ∧ Below w.heap.size w w' := by
  unfold openR
  by_cases h : s.size = 64
  · rw [if_pos h]
    by_cases he : s.data.toList.take 6 = (s.data.toList.drop 58).take 6
    · rw [if_pos he]
      by_cases hn : 1 ≤ natBE (s.data.toList.take 6) ∧ natBE (s.data.toList.take 6) ≤ 1099511627776
      · rw [if_pos hn]; exact open_ok s w h he (by omega) (by omega)
      · rw [if_neg hn]; exact open_range s w h he (by omega)
    · rw [if_neg he]; exact open_cut s w h he
  · rw [if_neg h]; exact open_form s w (by simp; omega)

/-- What Top answers. -/
def topR (s : ByteArray) : Int :=
  if s.size = 64 then if natBE (s.data.toList.take 6) < natBE ((s.data.toList.drop 58).take 6) then (natBE ((s.data.toList.drop 58).take 6) : Int) else natBE (s.data.toList.take 6) else 0

theorem top_no (s : ByteArray) (w : World) (h : (((s.size : Int)) != 64) = true) :
    Calls Tryz.prog 65 #[.string s] w fun e w' => e = .returned (.int .i64 0) ∧ Below w.heap.size w w' := by
  go_enter Tryz.func65, Tryz.ntmps65
  go_wp2_with fail
  go_ret
  exact ⟨rfl, Below.refl _ _⟩

/-- Two arrays of six bytes. -/
structure Pair (w : World) (g b : Nat) (l m : List UInt8) (x : World) : Prop where
  below : Below w.heap.size w x
  one : Six x g l
  two : Six x b m
theorem Pair.kept {w : World} {g b : Nat} {l m : List UInt8} (x y : World) (h : Pair w g b l m x) (hb : Below x.heap.size x y) : Pair w g b l m y :=
  ⟨h.below.call hb, h.one.below hb h.one.lt, h.two.below hb h.two.lt⟩
theorem Pair.cells {w : World} {g b : Nat} {c0 c1 c2 c3 c4 c5 d0 d1 d2 d3 d4 d5 : UInt8} {x : World} (h : Pair w g b [c0, c1, c2, c3, c4, c5] [d0, d1, d2, d3, d4, d5] x) :
    x.cell? ⟨g, 0, none⟩ = some (.int .u8 c0.toNat) ∧ x.cell? ⟨g, 1, none⟩ = some (.int .u8 c1.toNat) ∧ x.cell? ⟨g, 2, none⟩ = some (.int .u8 c2.toNat) ∧
    x.cell? ⟨g, 3, none⟩ = some (.int .u8 c3.toNat) ∧ x.cell? ⟨g, 4, none⟩ = some (.int .u8 c4.toNat) ∧ x.cell? ⟨g, 5, none⟩ = some (.int .u8 c5.toNat) ∧
    x.cell? ⟨b, 0, none⟩ = some (.int .u8 d0.toNat) ∧ x.cell? ⟨b, 1, none⟩ = some (.int .u8 d1.toNat) ∧ x.cell? ⟨b, 2, none⟩ = some (.int .u8 d2.toNat) ∧
    x.cell? ⟨b, 3, none⟩ = some (.int .u8 d3.toNat) ∧ x.cell? ⟨b, 4, none⟩ = some (.int .u8 d4.toNat) ∧ x.cell? ⟨b, 5, none⟩ = some (.int .u8 d5.toNat) :=
  ⟨h.one.cell (i := 0) (by simp), h.one.cell (i := 1) (by simp), h.one.cell (i := 2) (by simp), h.one.cell (i := 3) (by simp), h.one.cell (i := 4) (by simp), h.one.cell (i := 5) (by simp),
   h.two.cell (i := 0) (by simp), h.two.cell (i := 1) (by simp), h.two.cell (i := 2) (by simp), h.two.cell (i := 3) (by simp), h.two.cell (i := 4) (by simp), h.two.cell (i := 5) (by simp)⟩
set_option maxRecDepth 20000 in
theorem top_yes (s : ByteArray) (w : World) (h : s.size = 64) :
    Calls Tryz.prog 65 #[.string s] w fun e w' => e = .returned (.int .i64 (if natBE (s.data.toList.take 6) < natBE ((s.data.toList.drop 58).take 6) then (natBE ((s.data.toList.drop 58).take 6) : Int) else natBE (s.data.toList.take 6))) ∧ Below w.heap.size w w' := by
  have HM := Lib.hid (fun W => marks_any s W h)
  have hl1 : (s.data.toList.take 6).length = 6 := by simp; omega
  have hl2 : ((s.data.toList.drop 58).take 6).length = 6 := by simp; omega
  generalize s.data.toList.take 6 = l at *
  generalize (s.data.toList.drop 58).take 6 = m at *
  have HN1 := Lib.hid (fun W => number_any l W hl1)
  have HN2 := Lib.hid (fun W => number_any m W hl2)
  obtain ⟨c0, c1, c2, c3, c4, c5, rfl⟩ := six hl1
  obtain ⟨d0, d1, d2, d3, d4, d5, rfl⟩ := six hl2
  generalize natBE [c0, c1, c2, c3, c4, c5] = N1 at *
  generalize natBE [d0, d1, d2, d3, d4, d5] = N2 at *
  rw [m6] at HN1 HN2
  rw [m6, m6] at HM
  clear hl1 hl2
  have hs : ((s.size : Int) != 64) = false := by rw [h]; rfl
  clear h
  go_enter Tryz.func65, Tryz.ntmps65
  go_wp2_with fail
  with_reducible refine (HM.out _).mono ?_
  rintro r w1 ⟨rfl, hb⟩
  go_wp2_with fail
  have hG : Pair w w1.heap.size (w1.heap.size + 1) [c0, c1, c2, c3, c4, c5] [d0, d1, d2, d3, d4, d5] (((w1.alloc (.cells (bv [c0, c1, c2, c3, c4, c5]).toArray 171)).alloc (.cells (bv [d0, d1, d2, d3, d4, d5]).toArray 171)).drew) := by
    refine ⟨((hb.push _).push _).drewN 1, (Six.new w1 _).below (((Below.refl _ _).push _).drewN 1) (by simp), ?_⟩
    have := Six.new (w1.alloc (.cells (bv [c0, c1, c2, c3, c4, c5]).toArray 171)) [d0, d1, d2, d3, d4, d5]
    rwa [World.size_alloc] at this
  refine wp_region_class (Pair w w1.heap.size (w1.heap.size + 1) [c0, c1, c2, c3, c4, c5] [d0, d1, d2, d3, d4, d5]) hG (by kernel_rfl) (by kernel_rfl) ?_
  intro hne
  have r0 := fun x : Wd (Pair w w1.heap.size (w1.heap.size + 1) [c0, c1, c2, c3, c4, c5] [d0, d1, d2, d3, d4, d5]) => x.ok.cells.1
  have r1 := fun x : Wd (Pair w w1.heap.size (w1.heap.size + 1) [c0, c1, c2, c3, c4, c5] [d0, d1, d2, d3, d4, d5]) => x.ok.cells.2.1
  have r2 := fun x : Wd (Pair w w1.heap.size (w1.heap.size + 1) [c0, c1, c2, c3, c4, c5] [d0, d1, d2, d3, d4, d5]) => x.ok.cells.2.2.1
  have r3 := fun x : Wd (Pair w w1.heap.size (w1.heap.size + 1) [c0, c1, c2, c3, c4, c5] [d0, d1, d2, d3, d4, d5]) => x.ok.cells.2.2.2.1
  have r4 := fun x : Wd (Pair w w1.heap.size (w1.heap.size + 1) [c0, c1, c2, c3, c4, c5] [d0, d1, d2, d3, d4, d5]) => x.ok.cells.2.2.2.2.1
  have r5 := fun x : Wd (Pair w w1.heap.size (w1.heap.size + 1) [c0, c1, c2, c3, c4, c5] [d0, d1, d2, d3, d4, d5]) => x.ok.cells.2.2.2.2.2.1
  have r6 := fun x : Wd (Pair w w1.heap.size (w1.heap.size + 1) [c0, c1, c2, c3, c4, c5] [d0, d1, d2, d3, d4, d5]) => x.ok.cells.2.2.2.2.2.2.1
  have r7 := fun x : Wd (Pair w w1.heap.size (w1.heap.size + 1) [c0, c1, c2, c3, c4, c5] [d0, d1, d2, d3, d4, d5]) => x.ok.cells.2.2.2.2.2.2.2.1
  have r8 := fun x : Wd (Pair w w1.heap.size (w1.heap.size + 1) [c0, c1, c2, c3, c4, c5] [d0, d1, d2, d3, d4, d5]) => x.ok.cells.2.2.2.2.2.2.2.2.1
  have r9 := fun x : Wd (Pair w w1.heap.size (w1.heap.size + 1) [c0, c1, c2, c3, c4, c5] [d0, d1, d2, d3, d4, d5]) => x.ok.cells.2.2.2.2.2.2.2.2.2.1
  have r10 := fun x : Wd (Pair w w1.heap.size (w1.heap.size + 1) [c0, c1, c2, c3, c4, c5] [d0, d1, d2, d3, d4, d5]) => x.ok.cells.2.2.2.2.2.2.2.2.2.2.1
  have r11 := fun x : Wd (Pair w w1.heap.size (w1.heap.size + 1) [c0, c1, c2, c3, c4, c5] [d0, d1, d2, d3, d4, d5]) => x.ok.cells.2.2.2.2.2.2.2.2.2.2.2
  clear hG hb
  repeat (go_big_quiet_step (first | (with_reducible exact wd_call Pair.kept (HN1.out _)) | (with_reducible exact wd_call Pair.kept (HN2.out _))))
  refine wpQuiet_nil ?_
  rintro _ ⟨x, rfl⟩
  have HB := Lib.hid x.ok.below
  clear r0 r1 r2 r3 r4 r5 r6 r7 r8 r9 r10 r11
  go_wp2_with fail
  all_goals (go_ret; exact ⟨rfl, HB.out⟩)

theorem top_any (s : ByteArray) (w : World) : Calls Tryz.prog 65 #[.string s] w fun e w' => e = .returned (.int .i64 (topR s)) ∧ Below w.heap.size w w' := by
  unfold topR
  by_cases h : s.size = 64
  · rw [if_pos h]; exact top_yes s w h
  · rw [if_neg h]; exact top_no s w (by simp; omega)

end Go.Proofs.YtkglolnghihegaaGreatDoor.Sht
