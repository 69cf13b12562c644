/- Contracts of done. -/
import Derived.Test.YtgjhiekcdcicgaaFlush
import Derived.Test.YtgjhiekcdcicgaaNew
import Derived.Test.YtgjhiekcdcicgaaSt
namespace Go.Proofs.Ytgjhiekcdcicgaa
open Go.RowKit

/-- An act's value. -/
abbrev AV (a b : Nat) (fl : Bool) : Value := .agg #[.int .u8 a, .int .u8 b, .bool fl]

set_option maxRecDepth 100000 in
theorem done_flush (A : Option Addr) (n c : Nat) (A' : Option Addr) (m c' : Nat) (f : Int) (a b : Nat) (S' : List ByteArray) (W' : List Wr) (f' e : Int) (w : World)
    (h : ∀ w1, Below w.heap.size w w1 → Calls Try.prog 13 #[DV A n c A' m c' f] w1 (RetDE w1 S' W' f' e)) :
    Calls Try.prog 28 #[DV A n c A' m c' f, AV a b true] w (RetDE w S' W' f' e) := by
  have H := Lib.hid h
  clear h
  have HB0 := Lib.hid (((new1 w (D33 A n c A' m c' f)).push (.cells #[.int .u8 a, .int .u8 b, .bool true] 64)).push (D33 none 0 0 none 0 0 0))
  have HY := Lib.hid (St.new ((w.alloc (D33 A n c A' m c' f)).alloc (.cells #[.int .u8 a, .int .u8 b, .bool true] 64)) none 0 0 none 0 0 0 33)
  go_enter Try.func28, Try.ntmps28
  go_wp2_with fail
  refine (H.out _ HB0.out).mono ?_
  rintro r w1 ⟨A1, n1, c1, A2, n2, c2, rfl, hD1, hb1⟩
  have HD1 := Lib.hid hD1
  have HB1 := Lib.hid (HB0.out.call hb1)
  have HY1 := Lib.hid (by have := HY.out.call hb1; rwa [World.size_alloc, World.size_alloc] at this)
  obtain ⟨z0, z1, z2, v0, v1, v2⟩ := HY1.out.box
  clear hD1 hb1
  go_wp2
  have hg := grown_set3 w1 (w.heap.size + 1 + 1) (.slice A1 n1 c1) (.slice A2 n2 c2) (.int .i64 f')
  exact bodyPost_ret (v := .tuple #[DV A1 n1 c1 A2 n2 c2 f', .int .i64 e]) (by simp [results, Try.results28, go_sem, *]) rfl ⟨_, _, _, _, _, _, rfl, HD1.out.only HY1.out.ns hg, HB1.out.grown hg HB1.out.size (by simp; omega)⟩

set_option maxRecDepth 100000 in
set_option maxHeartbeats 1000000 in
theorem done_put (A : Option Addr) (n c : Nat) (A' : Option Addr) (m c' : Nat) (f : Int) (a b : Nat) (bb : UInt8) (hbb : b = bb.toNat) (ha : a ≤ 255) (S' : List ByteArray) (W' : List Wr) (f' e : Int) (w : World)
    (h : ∀ w1, Below w.heap.size w w1 → Calls Try.prog 11 #[DV A n c A' m c' f, .int .i64 ((a % 16 : Nat) : Int), .string (fillS bb)] w1 (RetDE w1 S' W' f' e)) :
    Calls Try.prog 28 #[DV A n c A' m c' f, AV a b false] w (RetDE w S' W' f' e) := by
  have hmod : IntKind.i64.wrap ((a : Int).tmod 16) = ((a % 16 : Nat) : Int) := by
    have e : (a : Int).tmod 16 = ((a % 16 : Nat) : Int) := by rw [Int.tmod_eq_emod_of_nonneg (by omega)]; omega
    rw [e]; exact IntWalk.i64_in _ (by omega)
  rw [← hmod] at h
  have H := Lib.hid h
  have HBB := Lib.hid hbb
  clear h hbb hmod
  have HB0 := Lib.hid (((new1 w (D33 A n c A' m c' f)).push (.cells #[.int .u8 a, .int .u8 b, .bool false] 64)).push (D33 none 0 0 none 0 0 0))
  have HX := Lib.hid ((((St.new w A n c A' m c' f 33).alloc (.cells #[.int .u8 a, .int .u8 b, .bool false] 64)).alloc (D33 none 0 0 none 0 0 0)))
  have HZ := Lib.hid (((Box.new (w.alloc (D33 A n c A' m c' f)) (.int .u8 a) (.int .u8 b) (.bool false) 64).alloc (D33 none 0 0 none 0 0 0)))
  have HY := Lib.hid (St.new ((w.alloc (D33 A n c A' m c' f)).alloc (.cells #[.int .u8 a, .int .u8 b, .bool false] 64)) none 0 0 none 0 0 0 33)
  rw [World.size_alloc] at HZ
  rw [World.size_alloc, World.size_alloc] at HY
  go_enter Try.func28, Try.ntmps28
  go_wp2_with fail
  generalize ((w.alloc (D33 A n c A' m c' f)).alloc (.cells #[.int .u8 a, .int .u8 b, .bool false] 64)).alloc (D33 none 0 0 none 0 0 0) = w0 at *
  obtain ⟨c0, c1, c2, f0, f1, f2⟩ := HX.out.box
  obtain ⟨d0, d1, d2, e0, e1, e2⟩ := HZ.out
  have hz0 := HY.out.lt
  have n1 : ¬ w.heap.size + 1 + 1 = w.heap.size := by omega
  have n2 : ¬ w.heap.size + 1 + 1 = w.heap.size + 1 := by omega
  have HF := Lib.hid (filled_any (b : Int) bb w0.drew (by rw [HBB.out]))
  go_region_held3 (fun W => W.cell? ⟨w.heap.size, 0, none⟩ = some (.slice A n c) ∧ W.cell? ⟨w.heap.size, 1, none⟩ = some (.slice A' m c') ∧ W.cell? ⟨w.heap.size, 2, none⟩ = some (.int .i64 f) ∧ W.cell? ⟨w.heap.size + 1, 0, none⟩ = some (.int .u8 a) ∧ W.cell? ⟨w.heap.size + 1, 1, none⟩ = some (.int .u8 b)) (go_keep)
    (first
      | (go_at_call 29; ((with_reducible refine HF.out.mono ?_)); rintro r w4 ⟨rfl, hb4⟩; obtain ⟨hc, hf⟩ := bcell hb4; have q0 : w4.cell? ⟨w.heap.size, 0, none⟩ = some (.slice A n c) := (by rw [hc _ _ (by simp; omega)]; simp [*]); have q1 : w4.cell? ⟨w.heap.size, 1, none⟩ = some (.slice A' m c') := (by rw [hc _ _ (by simp; omega)]; simp [*]); have q2 : w4.cell? ⟨w.heap.size, 2, none⟩ = some (.int .i64 f) := (by rw [hc _ _ (by simp; omega)]; simp [*]); have q3 : w4.cell? ⟨w.heap.size + 1, 0, none⟩ = some (.int .u8 a) := (by rw [hc _ _ (by simp; omega)]; simp [*]); have q4 : w4.cell? ⟨w.heap.size + 1, 1, none⟩ = some (.int .u8 b) := (by rw [hc _ _ (by simp; omega)]; simp [*]); have HB4 := Lib.hid (HB0.out.call (undrew hb4)); have HY4 := Lib.hid (HY.out.call (undrew hb4)); have hz4 := HY4.out.lt; clear hc hf hb4)
      | (go_at_call 11; ((with_reducible refine (H.out _ HB4.out).mono ?_)); rintro r w5 ⟨A1, n1, c1, A2, n2, c2, rfl, hD1, hb5⟩; obtain ⟨hc, hf⟩ := bcell hb5; have r0 : w5.cell? ⟨w.heap.size, 0, none⟩ = some (.slice A n c) := (by rw [hc _ _ (by omega)]; simp [*]); have r1 : w5.cell? ⟨w.heap.size, 1, none⟩ = some (.slice A' m c') := (by rw [hc _ _ (by omega)]; simp [*]); have r2 : w5.cell? ⟨w.heap.size, 2, none⟩ = some (.int .i64 f) := (by rw [hc _ _ (by omega)]; simp [*]); have r3 : w5.cell? ⟨w.heap.size + 1, 0, none⟩ = some (.int .u8 a) := (by rw [hc _ _ (by omega)]; simp [*]); have r4 : w5.cell? ⟨w.heap.size + 1, 1, none⟩ = some (.int .u8 b) := (by rw [hc _ _ (by omega)]; simp [*]); have HB5 := Lib.hid (HB4.out.call hb5); have HY5 := Lib.hid (HY4.out.call hb5); have HD1 := Lib.hid hD1; obtain ⟨z0, z1, z2, v0, v1, v2⟩ := HY5.out.box; clear hc hf hb5 hD1))
  go_wp2_with fail
  have hg := grown_set3 w5 (w.heap.size + 1 + 1) (.slice A1 n1 c1) (.slice A2 n2 c2) (.int .i64 f')
  exact bodyPost_ret (v := .tuple #[DV A1 n1 c1 A2 n2 c2 f', .int .i64 e]) (by simp [results, Try.results28, go_sem, z0, z1, z2]) rfl ⟨_, _, _, _, _, _, rfl, HD1.out.only HY5.out.ns hg, HB5.out.grown hg HB5.out.size (by simp; omega)⟩

end Go.Proofs.Ytgjhiekcdcicgaa
