/- Contracts of bodyOf, partOf and Read of package sheaf, and of Read of the document's answer. -/
import Derived.Test.YtkglolnghihegaaGreatDoorSheafSmall
import Derived.Test.YtkglolnghihegaaGreatDoorSheetRefS
namespace Go.Proofs.YtkglolnghihegaaGreatDoor.Shf
open Go.RowKit Go.Proofs.YtkglolnghihegaaGreatDoor.Oct

/-- A part's value. -/
abbrev PV (k : Nat) (g n a o : Int) (d : ByteArray) : Value := .agg #[.int .u8 k, .int .i64 g, .int .i64 n, .int .i64 a, .int .i64 o, .string d]

/-- The block b is six cells. -/
structure Box6 (w : World) (b : Nat) (x0 x1 x2 x3 x4 x5 : Value) : Prop where
  c0 : w.cell? ⟨b, 0, none⟩ = some x0
  c1 : w.cell? ⟨b, 1, none⟩ = some x1
  c2 : w.cell? ⟨b, 2, none⟩ = some x2
  c3 : w.cell? ⟨b, 3, none⟩ = some x3
  c4 : w.cell? ⟨b, 4, none⟩ = some x4
  c5 : w.cell? ⟨b, 5, none⟩ = some x5

theorem Box6.below {w w' : World} {B b : Nat} {x0 x1 x2 x3 x4 x5 : Value} (h : Box6 w b x0 x1 x2 x3 x4 x5) (hb : Below B w w') (hl : b < B) : Box6 w' b x0 x1 x2 x3 x4 x5 :=
  ⟨(hb.cell (p := ⟨b, 0, none⟩) hl).trans h.c0, (hb.cell (p := ⟨b, 1, none⟩) hl).trans h.c1, (hb.cell (p := ⟨b, 2, none⟩) hl).trans h.c2,
   (hb.cell (p := ⟨b, 3, none⟩) hl).trans h.c3, (hb.cell (p := ⟨b, 4, none⟩) hl).trans h.c4, (hb.cell (p := ⟨b, 5, none⟩) hl).trans h.c5⟩
theorem Box6.new (w : World) (x0 x1 x2 x3 x4 x5 : Value) (t : TypeId) : Box6 (w.alloc (.cells #[x0, x1, x2, x3, x4, x5] t)) w.heap.size x0 x1 x2 x3 x4 x5 := by
  constructor <;> simp [go_sem]

/-- The six cells of the block b may be written. -/
structure Fr6 (w : World) (b : Nat) : Prop where
  f0 : w.frozen? ⟨b, 0, none⟩ = false
  f1 : w.frozen? ⟨b, 1, none⟩ = false
  f2 : w.frozen? ⟨b, 2, none⟩ = false
  f3 : w.frozen? ⟨b, 3, none⟩ = false
  f4 : w.frozen? ⟨b, 4, none⟩ = false
  f5 : w.frozen? ⟨b, 5, none⟩ = false
theorem Fr6.below {w w' : World} {B b : Nat} (h : Fr6 w b) (hb : Below B w w') (hl : b < B) : Fr6 w' b :=
  ⟨(hb.frozen (p := ⟨b, 0, none⟩) hl).trans h.f0, (hb.frozen (p := ⟨b, 1, none⟩) hl).trans h.f1, (hb.frozen (p := ⟨b, 2, none⟩) hl).trans h.f2,
   (hb.frozen (p := ⟨b, 3, none⟩) hl).trans h.f3, (hb.frozen (p := ⟨b, 4, none⟩) hl).trans h.f4, (hb.frozen (p := ⟨b, 5, none⟩) hl).trans h.f5⟩
theorem Fr6.new (w : World) (x0 x1 x2 x3 x4 x5 : Value) (t : TypeId) : Fr6 (w.alloc (.cells #[x0, x1, x2, x3, x4, x5] t)) w.heap.size := by
  constructor <;> simp [go_sem]

/-- A body's bytes. -/
def bodyB (k g n a o : Nat) (d : List UInt8) : List UInt8 := beB 1 k ++ beB 6 g ++ beB 4 n ++ beB 2 a ++ beB 2 o ++ d

theorem laid_own {w : World} {B : Nat} {v : Value} {l : List UInt8} (h : OwnB w B v l) (hm : l.length ≤ 100) (k n : Nat) (h1 : 1 ≤ k) (h2 : k ≤ 7) (hn : n < 256 ^ k) (hn2 : n < 9223372036854775808) :
    Calls Tryz.prog 169 #[v, .int .i64 k, .int .i64 n] w (RetL w (l ++ beB k n)) := by
  obtain ⟨a, cap, rfl, hr⟩ := h.reads
  exact laid_any a l.length cap l k n w hr hm h1 h2 hn hn2
theorem laid_nil (w : World) (k n : Nat) (h1 : 1 ≤ k) (h2 : k ≤ 7) (hn : n < 256 ^ k) (hn2 : n < 9223372036854775808) :
    Calls Tryz.prog 169 #[.slice none 0 0, .int .i64 k, .int .i64 n] w (RetL w (beB k n)) :=
  laid_own (OwnB.nil w w.heap.size) (by simp) k n h1 h2 hn hn2
theorem conv_own {w : World} {B : Nat} {v : Value} {l : List UInt8} (h : OwnB w B v l) : (convert 59 9 v).run Tryz.prog w = .ok (.string ⟨l.toArray⟩) w := by
  obtain ⟨a, cap, rfl, hr⟩ := h.reads
  exact Sht.conv_reads hr

theorem app_str (l : List UInt8) (s : ByteArray) : (⟨l.toArray⟩ : ByteArray) ++ s = ⟨(l ++ s.data.toList).toArray⟩ := by
  apply ByteArray.ext
  apply Array.toList_inj.1
  simp

set_option maxHeartbeats 400000 in
set_option maxRecDepth 20000 in
theorem bodyOf_any (k g n a o : Nat) (d : ByteArray) (w : World) (hk : k < 256) (hg : g < 281474976710656) (hn : n < 4294967296) (ha : a < 65536) (ho : o < 65536) (hd : d.size ≤ 1000) :
    Calls Tryz.prog 159 #[PV k g n a o d] w fun r w' => r = .returned (.string ⟨(bodyB k g n a o d.data.toList).toArray⟩) ∧ Below w.heap.size w w' := by
  have H1 : Hid (∀ W, Calls Tryz.prog 169 #[.slice none 0 0, .int .i64 1, .int .i64 k] W (RetL W (beB 1 k))) := Lib.hid (fun W => laid_nil W 1 k (by omega) (by omega) hk (by omega))
  have H2 : Hid (∀ W B v, OwnB W B v (beB 1 k) → Calls Tryz.prog 169 #[v, .int .i64 6, .int .i64 g] W (RetL W (beB 1 k ++ beB 6 g))) := Lib.hid (fun W B v h => laid_own h (by simp [beB_length]) 6 g (by omega) (by omega) hg (by omega))
  have H3 : Hid (∀ W B v, OwnB W B v (beB 1 k ++ beB 6 g) → Calls Tryz.prog 169 #[v, .int .i64 4, .int .i64 n] W (RetL W (beB 1 k ++ beB 6 g ++ beB 4 n))) := Lib.hid (fun W B v h => laid_own h (by simp [beB_length]) 4 n (by omega) (by omega) hn (by omega))
  have H4 : Hid (∀ W B v, OwnB W B v (beB 1 k ++ beB 6 g ++ beB 4 n) → Calls Tryz.prog 169 #[v, .int .i64 2, .int .i64 a] W (RetL W (beB 1 k ++ beB 6 g ++ beB 4 n ++ beB 2 a))) := Lib.hid (fun W B v h => laid_own h (by simp [beB_length]) 2 a (by omega) (by omega) ha (by omega))
  have H5 : Hid (∀ W B v, OwnB W B v (beB 1 k ++ beB 6 g ++ beB 4 n ++ beB 2 a) → Calls Tryz.prog 169 #[v, .int .i64 2, .int .i64 o] W (RetL W (beB 1 k ++ beB 6 g ++ beB 4 n ++ beB 2 a ++ beB 2 o))) := Lib.hid (fun W B v h => laid_own h (by simp [beB_length]) 2 o (by omega) (by omega) ho (by omega))
  have hk' : (k : Int) < 256 := by omega
  clear hk hg hn ha ho
  go_enter Tryz.func159, Tryz.ntmps159
  go_wp2_with fail
  with_reducible refine (H1.out _).mono ?_
  rintro r w1 ⟨v1, rfl, h1, b1⟩
  have X1 := (Box6.new w (.int .u8 k) (.int .i64 g) (.int .i64 n) (.int .i64 a) (.int .i64 o) (.string d) 209).below b1 (by simp)
  have HB1 := Lib.hid (((Below.refl _ w).push _).call b1)
  have HO1 := Lib.hid h1
  clear h1 b1
  obtain ⟨c0, c1, c2, c3, c4, c5⟩ := X1
  go_wp2_with fail
  with_reducible refine (H2.out _ _ _ HO1.out).mono ?_
  rintro r w2 ⟨v2, rfl, h2, b2⟩
  have X2 := (Box6.mk c0 c1 c2 c3 c4 c5).below b2 (cell_lt c0)
  have HB2 := Lib.hid (HB1.out.call b2)
  have HO2 := Lib.hid h2
  clear h2 b2 c0 c1 c2 c3 c4 c5 HB1 HO1
  obtain ⟨c0, c1, c2, c3, c4, c5⟩ := X2
  go_wp2_with fail
  with_reducible refine (H3.out _ _ _ HO2.out).mono ?_
  rintro r w3 ⟨v3, rfl, h3, b3⟩
  have X3 := (Box6.mk c0 c1 c2 c3 c4 c5).below b3 (cell_lt c0)
  have HB3 := Lib.hid (HB2.out.call b3)
  have HO3 := Lib.hid h3
  clear h3 b3 c0 c1 c2 c3 c4 c5 HB2 HO2
  obtain ⟨c0, c1, c2, c3, c4, c5⟩ := X3
  go_wp2_with fail
  with_reducible refine (H4.out _ _ _ HO3.out).mono ?_
  rintro r w4 ⟨v4, rfl, h4, b4⟩
  have X4 := (Box6.mk c0 c1 c2 c3 c4 c5).below b4 (cell_lt c0)
  have HB4 := Lib.hid (HB3.out.call b4)
  have HO4 := Lib.hid h4
  clear h4 b4 c0 c1 c2 c3 c4 c5 HB3 HO3
  obtain ⟨c0, c1, c2, c3, c4, c5⟩ := X4
  go_wp2_with fail
  with_reducible refine (H5.out _ _ _ HO4.out).mono ?_
  rintro r w5 ⟨v5, rfl, h5, b5⟩
  have X5 := (Box6.mk c0 c1 c2 c3 c4 c5).below b5 (cell_lt c0)
  have HB5 := Lib.hid (HB4.out.call b5)
  have HC := conv_own h5
  clear h5 b5 c0 c1 c2 c3 c4 c5 HB4 HO4
  clear H1 H2 H3 H4 H5
  obtain ⟨c0, c1, c2, c3, c4, c5⟩ := X5
  have e := app_str (beB 1 k ++ beB 6 g ++ beB 4 n ++ beB 2 a ++ beB 2 o) d
  have HE : Hid ((⟨(beB 1 k ++ beB 6 g ++ beB 4 n ++ beB 2 a ++ beB 2 o).toArray⟩ : ByteArray) ++ d = ⟨(bodyB k g n a o d.data.toList).toArray⟩) := Lib.hid e
  clear e
  have hLs : (⟨(beB 1 k ++ beB 6 g ++ beB 4 n ++ beB 2 a ++ beB 2 o).toArray⟩ : ByteArray).size = 15 := by
    show (beB 1 k ++ beB 6 g ++ beB 4 n ++ beB 2 a ++ beB 2 o).toArray.size = 15
    simp [beB_length]
  generalize (⟨(beB 1 k ++ beB 6 g ++ beB 4 n ++ beB 2 a ++ beB 2 o).toArray⟩ : ByteArray) = L at *
  go_wp2_with fail
  rw [HE.out]
  go_ret
  exact ⟨rfl, HB5.out⟩

end Go.Proofs.YtkglolnghihegaaGreatDoor.Shf
