/- Contracts of the document's Best of package slots, and of SameTexts. -/
import Derived.Test.YtpeckeiaonjaaaaGreatDoorSlotsRefC
import Derived.Test.YtpeckeiaonjaaaaGreatDoorSlotsBest
namespace Go.Proofs.YtpeckeiaonjaaaaGreatDoor.Slt
open Go.RowKit Go.Proofs.YtpeckeiaonjaaaaGreatDoor.Dsk Go.Proofs.YtpeckeiaonjaaaaGreatDoor.Sht Go.Proofs.YtpeckeiaonjaaaaGreatDoor.Shf

theorem errR_vals (s : ByteArray) : errR s = 0 ∨ errR s = 8 ∨ errR s = 4 := by
  unfold errR; split <;> (try split) <;> simp
theorem errR_gen {s : ByteArray} (h : errR s = 0) : 1 ≤ gA s := by
  unfold errR at h
  split at h
  · split at h
    · rename_i h2
      have := h2.1
      unfold fineH at this
      simp at this
      exact this.1
    · omega
  · omega
theorem errB_ne (k : Nat) (g n : Int) (s : ByteArray) (i : Int) : errB k g n s i ≠ 2 := by
  unfold errB
  rcases errR_vals s with h | h | h <;> rw [h] <;> (repeat' split) <;> omega
theorem errP_ne (k : Nat) (g n : Int) (S : List ByteArray) (i : Nat) : errP k g n S i ≠ 2 := by
  unfold errP; split
  · exact errB_ne _ _ _ _ _
  · omega
theorem errG_ne (k : Nat) (g n : Int) (S : List ByteArray) (of : Int) (i : Nat) : errG k g n S of i ≠ 2 := by
  unfold errG; split
  · have := errB_ne k g n ‹_› i
    split
    · split <;> omega
    · exact this
  · omega
theorem scanG_ne (k : Nat) (g n : Int) (S : List ByteArray) (of : Int) : ∀ r i, scanG k g n S of r i ≠ 2
  | 0, _ => by unfold scanG; omega
  | r + 1, i => by
    unfold scanG
    split
    · exact scanG_ne k g n S of r (i + 1)
    · exact errG_ne _ _ _ _ _ _
theorem errS_ne (k : Nat) (g n : Int) (S : List ByteArray) : errS k g n S ≠ 2 := by
  unfold errS; split
  · exact scanG_ne _ _ _ _ _ _ _
  · exact errP_ne _ _ _ _ _
theorem errJ_ne (k : Nat) (g n : Int) (S : List ByteArray) : errJ k g n S ≠ 2 := by
  unfold errJ errU
  split
  · (repeat' split) <;> omega
  · exact errS_ne _ _ _ _
theorem loadE_ne (B : List ByteArray) : loadE B ≠ 2 := by
  unfold loadE
  cases B with
  | nil => simp
  | cons s B =>
    dsimp only
    split
    · split
      · exact errJ_ne _ _ _ _
      · omega
    · rcases errR_vals s with h | h | h <;> omega
theorem loadE_gen {B : List ByteArray} (h : loadE B = 0) : 0 < loadG B := by
  have h' := h
  unfold loadG
  rw [if_pos h]
  unfold loadE at h'
  cases B with
  | nil => simp at h'
  | cons s B =>
    dsimp only at h' ⊢
    split at h'
    · rename_i h1
      have := errR_gen h1
      omega
    · contradiction
theorem loadD_gen {S : List ByteArray} {V : List Wr} {f z : Int} (h : loadDE S V f z = 0) : 0 < loadDG S V f z := by
  unfold loadDE at h
  unfold loadDG
  split at h
  · rename_i h1
    rw [if_pos h1]; exact loadE_gen h
  · omega
theorem loadD_ne {S : List ByteArray} {V : List Wr} {f z : Int} (h : mayL S V f z = true) : loadDE S V f z ≠ 2 := by
  unfold loadDE; rw [if_pos h]; exact loadE_ne _

set_option maxHeartbeats 1000000 in
theorem rbest_2 (A : Option Addr) (n c : Nat) (A' : Option Addr) (m c' : Nat) (f : Int) (w : World) (G0 G1 E0 E1 : Int) (T0 T1 : ByteArray)
    (HL0 : Hid (∀ W, Below w.heap.size w W → Calls Tryz.prog 15 #[DV A n c A' m c' f, .int .i64 0] W fun r w' => r = .returned (.tuple #[SNV G0 T0, .int .i64 E0]) ∧ Below W.heap.size W w'))
    (HL1 : Hid (∀ W, Below w.heap.size w W → Calls Tryz.prog 15 #[DV A n c A' m c' f, .int .i64 1] W fun r w' => r = .returned (.tuple #[SNV G1 T1, .int .i64 E1]) ∧ Below W.heap.size W w'))
    (h0 : E0 = 2) :
    Calls Tryz.prog 17 #[DV A n c A' m c' f] w fun r w' => r = .returned (.tuple #[.int .i64 0, SNV 0 ⟨#[]⟩, .int .i64 2]) ∧ Below w.heap.size w w' := by
  subst h0
  go_enter Tryz.func17, Tryz.ntmps17
  go_wp2_with fail
  with_reducible refine (HL0.out _ (((new1 w (D25 A n c A' m c' f)).push (.cells #[.int .i64 0, .string ⟨#[]⟩] 53)))).mono ?_
  rintro r w1 ⟨rfl, b1⟩
  have HB1 := Lib.hid ((((new1 w (D25 A n c A' m c' f)).push (.cells #[.int .i64 0, .string ⟨#[]⟩] 53)).call b1).push (.cells #[.int .i64 G0, .string T0] 53))
  have HY1 := Lib.hid ((((St.new w A n c A' m c' f 25).alloc (.cells #[.int .i64 0, .string ⟨#[]⟩] 53)).call b1).alloc (.cells #[.int .i64 G0, .string T0] 53))
  have HX1 := Lib.hid ((by have := (Bx2.new (w.alloc (D25 A n c A' m c' f)) (.int .i64 0) (.string ⟨#[]⟩) 53).call b1; rwa [World.size_alloc] at this : Bx2 w1 (w.heap.size + 1) (.int .i64 0) (.string ⟨#[]⟩)).alloc (.cells #[.int .i64 G0, .string T0] 53))
  have HA1 := Lib.hid (Bx2.new w1 (.int .i64 G0) (.string T0) 53)
  have hs1 : w.heap.size + 1 < w1.heap.size := by have := b1.size; simp at this; omega
  clear b1 HL0
  obtain ⟨c0, c1_, c2, -, -, -⟩ := HY1.out.box
  have hly := HY1.out.lt
  go_wp2_with fail
  with_reducible refine (HL1.out _ HB1.out).mono ?_
  rintro r w2 ⟨rfl, b2⟩
  have HB2 := Lib.hid ((HB1.out.call b2).push (.cells #[.int .i64 G1, .string T1] 53))
  have HX2 := Lib.hid ((HX1.out.call b2).alloc (.cells #[.int .i64 G1, .string T1] 53))
  have HA2 := Lib.hid ((HA1.out.call b2).alloc (.cells #[.int .i64 G1, .string T1] 53))
  have HC2 := Lib.hid (Bx2.new w2 (.int .i64 G1) (.string T1) 53)
  clear b2 HL1 c0 c1_ c2 hly HB1 HX1 HA1 HY1
  go_upto_if 20 with fail
  generalize hW3 : (w2.alloc (.cells #[.int .i64 G1, .string T1] 53)) = W3 at *
  clear hW3
  generalize w2.heap.size = vb at *
  generalize w1.heap.size = va at *
  obtain ⟨r0, r1, g0, g1⟩ := HX2.out
  obtain ⟨a0, a1, -, -⟩ := HA2.out
  obtain ⟨e0, e1, -, -⟩ := HC2.out
  have hlx := HX2.out.lt
  have hla := HA2.out.lt
  have hlc := HC2.out.lt
  go_wp2_with fail
  have hr4 := HX2.out.set2 (.int .i64 0) (.string ⟨#[]⟩)
  have hb4 := set2_below HB2.out (show w.heap.size ≤ w.heap.size + 1 by omega) (.int .i64 0) (.string ⟨#[]⟩)
  generalize ((W3.setCell ⟨w.heap.size + 1, 0, none⟩ (.int .i64 0)).setCell ⟨w.heap.size + 1, 1, none⟩ (.string ⟨#[]⟩)) = wf at *
  obtain ⟨k0, k1, -, -⟩ := hr4
  refine bodyPost_ret (v := .tuple #[.int .i64 0, SNV 0 ⟨#[]⟩, .int .i64 2]) (by simp [results, Tryz.results17, go_sem, k0, k1]) rfl ?_
  exact ⟨rfl, hb4⟩

set_option maxHeartbeats 1000000 in
theorem rbest_6 (A : Option Addr) (n c : Nat) (A' : Option Addr) (m c' : Nat) (f : Int) (w : World) (G0 G1 E0 E1 : Int) (T0 T1 : ByteArray)
    (HL0 : Hid (∀ W, Below w.heap.size w W → Calls Tryz.prog 15 #[DV A n c A' m c' f, .int .i64 0] W fun r w' => r = .returned (.tuple #[SNV G0 T0, .int .i64 E0]) ∧ Below W.heap.size W w'))
    (HL1 : Hid (∀ W, Below w.heap.size w W → Calls Tryz.prog 15 #[DV A n c A' m c' f, .int .i64 1] W fun r w' => r = .returned (.tuple #[SNV G1 T1, .int .i64 E1]) ∧ Below W.heap.size W w'))
    (h0 : ¬ E0 = 0) (h2 : ¬ E0 = 2) (h1 : ¬ E1 = 0) :
    Calls Tryz.prog 17 #[DV A n c A' m c' f] w fun r w' => r = .returned (.tuple #[.int .i64 0, SNV 0 ⟨#[]⟩, .int .i64 6]) ∧ Below w.heap.size w w' := by
  have n0 := neq0 h0
  have n1 := neq0 h1
  have n2 : (E0 == 2) = false := by simpa using h2
  go_enter Tryz.func17, Tryz.ntmps17
  go_wp2_with fail
  with_reducible refine (HL0.out _ (((new1 w (D25 A n c A' m c' f)).push (.cells #[.int .i64 0, .string ⟨#[]⟩] 53)))).mono ?_
  rintro r w1 ⟨rfl, b1⟩
  have HB1 := Lib.hid ((((new1 w (D25 A n c A' m c' f)).push (.cells #[.int .i64 0, .string ⟨#[]⟩] 53)).call b1).push (.cells #[.int .i64 G0, .string T0] 53))
  have HY1 := Lib.hid ((((St.new w A n c A' m c' f 25).alloc (.cells #[.int .i64 0, .string ⟨#[]⟩] 53)).call b1).alloc (.cells #[.int .i64 G0, .string T0] 53))
  have HX1 := Lib.hid ((by have := (Bx2.new (w.alloc (D25 A n c A' m c' f)) (.int .i64 0) (.string ⟨#[]⟩) 53).call b1; rwa [World.size_alloc] at this : Bx2 w1 (w.heap.size + 1) (.int .i64 0) (.string ⟨#[]⟩)).alloc (.cells #[.int .i64 G0, .string T0] 53))
  have HA1 := Lib.hid (Bx2.new w1 (.int .i64 G0) (.string T0) 53)
  have hs1 : w.heap.size + 1 < w1.heap.size := by have := b1.size; simp at this; omega
  clear b1 HL0
  obtain ⟨c0, c1_, c2, -, -, -⟩ := HY1.out.box
  have hly := HY1.out.lt
  go_wp2_with fail
  with_reducible refine (HL1.out _ HB1.out).mono ?_
  rintro r w2 ⟨rfl, b2⟩
  have HB2 := Lib.hid ((HB1.out.call b2).push (.cells #[.int .i64 G1, .string T1] 53))
  have HX2 := Lib.hid ((HX1.out.call b2).alloc (.cells #[.int .i64 G1, .string T1] 53))
  have HA2 := Lib.hid ((HA1.out.call b2).alloc (.cells #[.int .i64 G1, .string T1] 53))
  have HC2 := Lib.hid (Bx2.new w2 (.int .i64 G1) (.string T1) 53)
  clear b2 HL1 c0 c1_ c2 hly HB1 HX1 HA1 HY1
  go_upto_if 20 with fail
  generalize hW3 : (w2.alloc (.cells #[.int .i64 G1, .string T1] 53)) = W3 at *
  clear hW3
  generalize w2.heap.size = vb at *
  generalize w1.heap.size = va at *
  obtain ⟨r0, r1, g0, g1⟩ := HX2.out
  obtain ⟨a0, a1, -, -⟩ := HA2.out
  obtain ⟨e0, e1, -, -⟩ := HC2.out
  have hlx := HX2.out.lt
  have hla := HA2.out.lt
  have hlc := HC2.out.lt
  go_wp2_with fail
  have hr4 := HX2.out.set2 (.int .i64 0) (.string ⟨#[]⟩)
  have hb4 := set2_below HB2.out (show w.heap.size ≤ w.heap.size + 1 by omega) (.int .i64 0) (.string ⟨#[]⟩)
  generalize ((W3.setCell ⟨w.heap.size + 1, 0, none⟩ (.int .i64 0)).setCell ⟨w.heap.size + 1, 1, none⟩ (.string ⟨#[]⟩)) = wf at *
  obtain ⟨k0, k1, -, -⟩ := hr4
  refine bodyPost_ret (v := .tuple #[.int .i64 0, SNV 0 ⟨#[]⟩, .int .i64 6]) (by simp [results, Tryz.results17, go_sem, k0, k1]) rfl ?_
  exact ⟨rfl, hb4⟩

set_option maxHeartbeats 1000000 in
theorem rbest_0a (A : Option Addr) (n c : Nat) (A' : Option Addr) (m c' : Nat) (f : Int) (w : World) (G0 G1 E0 E1 : Int) (T0 T1 : ByteArray)
    (HL0 : Hid (∀ W, Below w.heap.size w W → Calls Tryz.prog 15 #[DV A n c A' m c' f, .int .i64 0] W fun r w' => r = .returned (.tuple #[SNV G0 T0, .int .i64 E0]) ∧ Below W.heap.size W w'))
    (HL1 : Hid (∀ W, Below w.heap.size w W → Calls Tryz.prog 15 #[DV A n c A' m c' f, .int .i64 1] W fun r w' => r = .returned (.tuple #[SNV G1 T1, .int .i64 E1]) ∧ Below W.heap.size W w'))
    (h0 : E0 = 0) (h1 : ¬ E1 = 0) :
    Calls Tryz.prog 17 #[DV A n c A' m c' f] w fun r w' => r = .returned (.tuple #[.int .i64 0, SNV G0 T0, .int .i64 0]) ∧ Below w.heap.size w w' := by
  subst h0
  have n1 := neq0 h1
  go_enter Tryz.func17, Tryz.ntmps17
  go_wp2_with fail
  with_reducible refine (HL0.out _ (((new1 w (D25 A n c A' m c' f)).push (.cells #[.int .i64 0, .string ⟨#[]⟩] 53)))).mono ?_
  rintro r w1 ⟨rfl, b1⟩
  have HB1 := Lib.hid ((((new1 w (D25 A n c A' m c' f)).push (.cells #[.int .i64 0, .string ⟨#[]⟩] 53)).call b1).push (.cells #[.int .i64 G0, .string T0] 53))
  have HY1 := Lib.hid ((((St.new w A n c A' m c' f 25).alloc (.cells #[.int .i64 0, .string ⟨#[]⟩] 53)).call b1).alloc (.cells #[.int .i64 G0, .string T0] 53))
  have HX1 := Lib.hid ((by have := (Bx2.new (w.alloc (D25 A n c A' m c' f)) (.int .i64 0) (.string ⟨#[]⟩) 53).call b1; rwa [World.size_alloc] at this : Bx2 w1 (w.heap.size + 1) (.int .i64 0) (.string ⟨#[]⟩)).alloc (.cells #[.int .i64 G0, .string T0] 53))
  have HA1 := Lib.hid (Bx2.new w1 (.int .i64 G0) (.string T0) 53)
  have hs1 : w.heap.size + 1 < w1.heap.size := by have := b1.size; simp at this; omega
  clear b1 HL0
  obtain ⟨c0, c1_, c2, -, -, -⟩ := HY1.out.box
  have hly := HY1.out.lt
  go_wp2_with fail
  with_reducible refine (HL1.out _ HB1.out).mono ?_
  rintro r w2 ⟨rfl, b2⟩
  have HB2 := Lib.hid ((HB1.out.call b2).push (.cells #[.int .i64 G1, .string T1] 53))
  have HX2 := Lib.hid ((HX1.out.call b2).alloc (.cells #[.int .i64 G1, .string T1] 53))
  have HA2 := Lib.hid ((HA1.out.call b2).alloc (.cells #[.int .i64 G1, .string T1] 53))
  have HC2 := Lib.hid (Bx2.new w2 (.int .i64 G1) (.string T1) 53)
  clear b2 HL1 c0 c1_ c2 hly HB1 HX1 HA1 HY1
  go_upto_if 20 with fail
  generalize hW3 : (w2.alloc (.cells #[.int .i64 G1, .string T1] 53)) = W3 at *
  clear hW3
  generalize w2.heap.size = vb at *
  generalize w1.heap.size = va at *
  obtain ⟨r0, r1, g0, g1⟩ := HX2.out
  obtain ⟨a0, a1, -, -⟩ := HA2.out
  obtain ⟨e0, e1, -, -⟩ := HC2.out
  have hlx := HX2.out.lt
  have hla := HA2.out.lt
  have hlc := HC2.out.lt
  go_wp2_with fail
  go_region
  all_goals (
    go_wp2_with fail
    have hr4 := HX2.out.set2 (.int .i64 G0) (.string T0)
    have hb4 := set2_below HB2.out (show w.heap.size ≤ w.heap.size + 1 by omega) (.int .i64 G0) (.string T0)
    generalize ((W3.setCell ⟨w.heap.size + 1, 0, none⟩ (.int .i64 G0)).setCell ⟨w.heap.size + 1, 1, none⟩ (.string T0)) = wf at *
    obtain ⟨k0, k1, -, -⟩ := hr4
    refine bodyPost_ret (v := .tuple #[.int .i64 0, SNV G0 T0, .int .i64 0]) (by simp [results, Tryz.results17, go_sem, k0, k1]) rfl ?_
    exact ⟨rfl, hb4.drew⟩)

set_option maxHeartbeats 1000000 in
theorem rbest_0b (A : Option Addr) (n c : Nat) (A' : Option Addr) (m c' : Nat) (f : Int) (w : World) (G0 G1 E0 E1 : Int) (T0 T1 : ByteArray)
    (HL0 : Hid (∀ W, Below w.heap.size w W → Calls Tryz.prog 15 #[DV A n c A' m c' f, .int .i64 0] W fun r w' => r = .returned (.tuple #[SNV G0 T0, .int .i64 E0]) ∧ Below W.heap.size W w'))
    (HL1 : Hid (∀ W, Below w.heap.size w W → Calls Tryz.prog 15 #[DV A n c A' m c' f, .int .i64 1] W fun r w' => r = .returned (.tuple #[SNV G1 T1, .int .i64 E1]) ∧ Below W.heap.size W w'))
    (h0 : E0 = 0) (h1 : E1 = 0) (hg : G1 ≤ G0) :
    Calls Tryz.prog 17 #[DV A n c A' m c' f] w fun r w' => r = .returned (.tuple #[.int .i64 0, SNV G0 T0, .int .i64 0]) ∧ Below w.heap.size w w' := by
  subst h0 h1
  have d1 : decide (G1 ≤ G0) = true := by simpa using hg
  go_enter Tryz.func17, Tryz.ntmps17
  go_wp2_with fail
  with_reducible refine (HL0.out _ (((new1 w (D25 A n c A' m c' f)).push (.cells #[.int .i64 0, .string ⟨#[]⟩] 53)))).mono ?_
  rintro r w1 ⟨rfl, b1⟩
  have HB1 := Lib.hid ((((new1 w (D25 A n c A' m c' f)).push (.cells #[.int .i64 0, .string ⟨#[]⟩] 53)).call b1).push (.cells #[.int .i64 G0, .string T0] 53))
  have HY1 := Lib.hid ((((St.new w A n c A' m c' f 25).alloc (.cells #[.int .i64 0, .string ⟨#[]⟩] 53)).call b1).alloc (.cells #[.int .i64 G0, .string T0] 53))
  have HX1 := Lib.hid ((by have := (Bx2.new (w.alloc (D25 A n c A' m c' f)) (.int .i64 0) (.string ⟨#[]⟩) 53).call b1; rwa [World.size_alloc] at this : Bx2 w1 (w.heap.size + 1) (.int .i64 0) (.string ⟨#[]⟩)).alloc (.cells #[.int .i64 G0, .string T0] 53))
  have HA1 := Lib.hid (Bx2.new w1 (.int .i64 G0) (.string T0) 53)
  have hs1 : w.heap.size + 1 < w1.heap.size := by have := b1.size; simp at this; omega
  clear b1 HL0
  obtain ⟨c0, c1_, c2, -, -, -⟩ := HY1.out.box
  have hly := HY1.out.lt
  go_wp2_with fail
  with_reducible refine (HL1.out _ HB1.out).mono ?_
  rintro r w2 ⟨rfl, b2⟩
  have HB2 := Lib.hid ((HB1.out.call b2).push (.cells #[.int .i64 G1, .string T1] 53))
  have HX2 := Lib.hid ((HX1.out.call b2).alloc (.cells #[.int .i64 G1, .string T1] 53))
  have HA2 := Lib.hid ((HA1.out.call b2).alloc (.cells #[.int .i64 G1, .string T1] 53))
  have HC2 := Lib.hid (Bx2.new w2 (.int .i64 G1) (.string T1) 53)
  clear b2 HL1 c0 c1_ c2 hly HB1 HX1 HA1 HY1
  go_upto_if 20 with fail
  generalize hW3 : (w2.alloc (.cells #[.int .i64 G1, .string T1] 53)) = W3 at *
  clear hW3
  generalize w2.heap.size = vb at *
  generalize w1.heap.size = va at *
  obtain ⟨r0, r1, g0, g1⟩ := HX2.out
  obtain ⟨a0, a1, -, -⟩ := HA2.out
  obtain ⟨e0, e1, -, -⟩ := HC2.out
  have hlx := HX2.out.lt
  have hla := HA2.out.lt
  have hlc := HC2.out.lt
  go_wp2_with fail
  go_region
  all_goals (
    go_wp2_with fail
    have hr4 := HX2.out.set2 (.int .i64 G0) (.string T0)
    have hb4 := set2_below HB2.out (show w.heap.size ≤ w.heap.size + 1 by omega) (.int .i64 G0) (.string T0)
    generalize ((W3.setCell ⟨w.heap.size + 1, 0, none⟩ (.int .i64 G0)).setCell ⟨w.heap.size + 1, 1, none⟩ (.string T0)) = wf at *
    obtain ⟨k0, k1, -, -⟩ := hr4
    refine bodyPost_ret (v := .tuple #[.int .i64 0, SNV G0 T0, .int .i64 0]) (by simp [results, Tryz.results17, go_sem, k0, k1]) rfl ?_
    exact ⟨rfl, hb4.drew⟩)

set_option maxHeartbeats 1000000 in
theorem rbest_1a (A : Option Addr) (n c : Nat) (A' : Option Addr) (m c' : Nat) (f : Int) (w : World) (G0 G1 E0 E1 : Int) (T0 T1 : ByteArray)
    (HL0 : Hid (∀ W, Below w.heap.size w W → Calls Tryz.prog 15 #[DV A n c A' m c' f, .int .i64 0] W fun r w' => r = .returned (.tuple #[SNV G0 T0, .int .i64 E0]) ∧ Below W.heap.size W w'))
    (HL1 : Hid (∀ W, Below w.heap.size w W → Calls Tryz.prog 15 #[DV A n c A' m c' f, .int .i64 1] W fun r w' => r = .returned (.tuple #[SNV G1 T1, .int .i64 E1]) ∧ Below W.heap.size W w'))
    (h0 : E0 = 0) (h1 : E1 = 0) (hg : G0 < G1) :
    Calls Tryz.prog 17 #[DV A n c A' m c' f] w fun r w' => r = .returned (.tuple #[.int .i64 1, SNV G1 T1, .int .i64 0]) ∧ Below w.heap.size w w' := by
  subst h0 h1
  have d1 : decide (G1 ≤ G0) = false := by simp; omega
  go_enter Tryz.func17, Tryz.ntmps17
  go_wp2_with fail
  with_reducible refine (HL0.out _ (((new1 w (D25 A n c A' m c' f)).push (.cells #[.int .i64 0, .string ⟨#[]⟩] 53)))).mono ?_
  rintro r w1 ⟨rfl, b1⟩
  have HB1 := Lib.hid ((((new1 w (D25 A n c A' m c' f)).push (.cells #[.int .i64 0, .string ⟨#[]⟩] 53)).call b1).push (.cells #[.int .i64 G0, .string T0] 53))
  have HY1 := Lib.hid ((((St.new w A n c A' m c' f 25).alloc (.cells #[.int .i64 0, .string ⟨#[]⟩] 53)).call b1).alloc (.cells #[.int .i64 G0, .string T0] 53))
  have HX1 := Lib.hid ((by have := (Bx2.new (w.alloc (D25 A n c A' m c' f)) (.int .i64 0) (.string ⟨#[]⟩) 53).call b1; rwa [World.size_alloc] at this : Bx2 w1 (w.heap.size + 1) (.int .i64 0) (.string ⟨#[]⟩)).alloc (.cells #[.int .i64 G0, .string T0] 53))
  have HA1 := Lib.hid (Bx2.new w1 (.int .i64 G0) (.string T0) 53)
  have hs1 : w.heap.size + 1 < w1.heap.size := by have := b1.size; simp at this; omega
  clear b1 HL0
  obtain ⟨c0, c1_, c2, -, -, -⟩ := HY1.out.box
  have hly := HY1.out.lt
  go_wp2_with fail
  with_reducible refine (HL1.out _ HB1.out).mono ?_
  rintro r w2 ⟨rfl, b2⟩
  have HB2 := Lib.hid ((HB1.out.call b2).push (.cells #[.int .i64 G1, .string T1] 53))
  have HX2 := Lib.hid ((HX1.out.call b2).alloc (.cells #[.int .i64 G1, .string T1] 53))
  have HA2 := Lib.hid ((HA1.out.call b2).alloc (.cells #[.int .i64 G1, .string T1] 53))
  have HC2 := Lib.hid (Bx2.new w2 (.int .i64 G1) (.string T1) 53)
  clear b2 HL1 c0 c1_ c2 hly HB1 HX1 HA1 HY1
  go_upto_if 20 with fail
  generalize hW3 : (w2.alloc (.cells #[.int .i64 G1, .string T1] 53)) = W3 at *
  clear hW3
  generalize w2.heap.size = vb at *
  generalize w1.heap.size = va at *
  obtain ⟨r0, r1, g0, g1⟩ := HX2.out
  obtain ⟨a0, a1, -, -⟩ := HA2.out
  obtain ⟨e0, e1, -, -⟩ := HC2.out
  have hlx := HX2.out.lt
  have hla := HA2.out.lt
  have hlc := HC2.out.lt
  go_wp2_with fail
  go_region
  all_goals (
    go_wp2_with fail
    have hr4 := HX2.out.set2 (.int .i64 G1) (.string T1)
    have hb4 := set2_below HB2.out (show w.heap.size ≤ w.heap.size + 1 by omega) (.int .i64 G1) (.string T1)
    generalize ((W3.setCell ⟨w.heap.size + 1, 0, none⟩ (.int .i64 G1)).setCell ⟨w.heap.size + 1, 1, none⟩ (.string T1)) = wf at *
    obtain ⟨k0, k1, -, -⟩ := hr4
    refine bodyPost_ret (v := .tuple #[.int .i64 1, SNV G1 T1, .int .i64 0]) (by simp [results, Tryz.results17, go_sem, k0, k1]) rfl ?_
    exact ⟨rfl, hb4.drew⟩)

set_option maxHeartbeats 1000000 in
theorem rbest_1b (A : Option Addr) (n c : Nat) (A' : Option Addr) (m c' : Nat) (f : Int) (w : World) (G0 G1 E0 E1 : Int) (T0 T1 : ByteArray)
    (HL0 : Hid (∀ W, Below w.heap.size w W → Calls Tryz.prog 15 #[DV A n c A' m c' f, .int .i64 0] W fun r w' => r = .returned (.tuple #[SNV G0 T0, .int .i64 E0]) ∧ Below W.heap.size W w'))
    (HL1 : Hid (∀ W, Below w.heap.size w W → Calls Tryz.prog 15 #[DV A n c A' m c' f, .int .i64 1] W fun r w' => r = .returned (.tuple #[SNV G1 T1, .int .i64 E1]) ∧ Below W.heap.size W w'))
    (h0 : ¬ E0 = 0) (h2 : ¬ E0 = 2) (h1 : E1 = 0) :
    Calls Tryz.prog 17 #[DV A n c A' m c' f] w fun r w' => r = .returned (.tuple #[.int .i64 1, SNV G1 T1, .int .i64 0]) ∧ Below w.heap.size w w' := by
  subst h1
  have n0 := neq0 h0
  have n2 : (E0 == 2) = false := by simpa using h2
  have n3 : (E0 == 0) = false := by simpa using h0
  go_enter Tryz.func17, Tryz.ntmps17
  go_wp2_with fail
  with_reducible refine (HL0.out _ (((new1 w (D25 A n c A' m c' f)).push (.cells #[.int .i64 0, .string ⟨#[]⟩] 53)))).mono ?_
  rintro r w1 ⟨rfl, b1⟩
  have HB1 := Lib.hid ((((new1 w (D25 A n c A' m c' f)).push (.cells #[.int .i64 0, .string ⟨#[]⟩] 53)).call b1).push (.cells #[.int .i64 G0, .string T0] 53))
  have HY1 := Lib.hid ((((St.new w A n c A' m c' f 25).alloc (.cells #[.int .i64 0, .string ⟨#[]⟩] 53)).call b1).alloc (.cells #[.int .i64 G0, .string T0] 53))
  have HX1 := Lib.hid ((by have := (Bx2.new (w.alloc (D25 A n c A' m c' f)) (.int .i64 0) (.string ⟨#[]⟩) 53).call b1; rwa [World.size_alloc] at this : Bx2 w1 (w.heap.size + 1) (.int .i64 0) (.string ⟨#[]⟩)).alloc (.cells #[.int .i64 G0, .string T0] 53))
  have HA1 := Lib.hid (Bx2.new w1 (.int .i64 G0) (.string T0) 53)
  have hs1 : w.heap.size + 1 < w1.heap.size := by have := b1.size; simp at this; omega
  clear b1 HL0
  obtain ⟨c0, c1_, c2, -, -, -⟩ := HY1.out.box
  have hly := HY1.out.lt
  go_wp2_with fail
  with_reducible refine (HL1.out _ HB1.out).mono ?_
  rintro r w2 ⟨rfl, b2⟩
  have HB2 := Lib.hid ((HB1.out.call b2).push (.cells #[.int .i64 G1, .string T1] 53))
  have HX2 := Lib.hid ((HX1.out.call b2).alloc (.cells #[.int .i64 G1, .string T1] 53))
  have HA2 := Lib.hid ((HA1.out.call b2).alloc (.cells #[.int .i64 G1, .string T1] 53))
  have HC2 := Lib.hid (Bx2.new w2 (.int .i64 G1) (.string T1) 53)
  clear b2 HL1 c0 c1_ c2 hly HB1 HX1 HA1 HY1
  go_upto_if 20 with fail
  generalize hW3 : (w2.alloc (.cells #[.int .i64 G1, .string T1] 53)) = W3 at *
  clear hW3
  generalize w2.heap.size = vb at *
  generalize w1.heap.size = va at *
  obtain ⟨r0, r1, g0, g1⟩ := HX2.out
  obtain ⟨a0, a1, -, -⟩ := HA2.out
  obtain ⟨e0, e1, -, -⟩ := HC2.out
  have hlx := HX2.out.lt
  have hla := HA2.out.lt
  have hlc := HC2.out.lt
  go_wp2_with fail
  go_region
  all_goals (
    go_wp2_with fail
    have hr4 := HX2.out.set2 (.int .i64 G1) (.string T1)
    have hb4 := set2_below HB2.out (show w.heap.size ≤ w.heap.size + 1 by omega) (.int .i64 G1) (.string T1)
    generalize ((W3.setCell ⟨w.heap.size + 1, 0, none⟩ (.int .i64 G1)).setCell ⟨w.heap.size + 1, 1, none⟩ (.string T1)) = wf at *
    obtain ⟨k0, k1, -, -⟩ := hr4
    refine bodyPost_ret (v := .tuple #[.int .i64 1, SNV G1 T1, .int .i64 0]) (by simp [results, Tryz.results17, go_sem, k0, k1]) rfl ?_
    exact ⟨rfl, hb4.drew⟩)

def bsel (E0 G0 : Int) (T0 : ByteArray) (E1 G1 : Int) (T1 : ByteArray) : Bst :=
  if E1 = 0 ∧ (if E0 = 0 ∧ (0 : Int) < G0 then (⟨0, G0, T0, 0⟩ : Bst) else ⟨0, 0, ⟨#[]⟩, 6⟩).g < G1 then ⟨1, G1, T1, 0⟩ else (if E0 = 0 ∧ (0 : Int) < G0 then (⟨0, G0, T0, 0⟩ : Bst) else ⟨0, 0, ⟨#[]⟩, 6⟩)

theorem rbest_any (A : Option Addr) (n c : Nat) (A' : Option Addr) (m c' : Nat) (f : Int) (S : List ByteArray) (V : List Wr) (w : World) (hD : Dev w A n c A' m c' f S V) :
    Calls Tryz.prog 17 #[DV A n c A' m c' f] w (RetB w (bestR S V f)) := by
  have HL0 := Lib.hid (fun W (hb : Below w.heap.size w W) => rload_any A n c A' m c' f S V 0 W (hD.below hb))
  have HL1 := Lib.hid (fun W (hb : Below w.heap.size w W) => rload_any A n c A' m c' f S V 1 W (hD.below hb))
  unfold RetN at HL0 HL1
  have hg0 := loadD_gen (S := S) (V := V) (f := f) (z := 0)
  have hg1 := loadD_gen (S := S) (V := V) (f := f) (z := 1)
  unfold RetB bestR
  by_cases hc : chk S V f = 0
  · rw [if_pos hc]
    have m0 : loadDE S V f 0 ≠ 2 := loadD_ne (by unfold mayL; rw [hc]; rfl)
    have e2 : bst S V f 2 = bsel (loadDE S V f 0) (loadDG S V f 0) (loadDT S V f 0) (loadDE S V f 1) (loadDG S V f 1) (loadDT S V f 1) := rfl
    rw [e2]
    clear e2 hD
    generalize loadDE S V f 0 = E0 at *
    generalize loadDG S V f 0 = G0 at *
    generalize loadDT S V f 0 = T0 at *
    generalize loadDE S V f 1 = E1 at *
    generalize loadDG S V f 1 = G1 at *
    generalize loadDT S V f 1 = T1 at *
    by_cases h0 : E0 = 0
    · have z0 := hg0 h0
      by_cases h1 : E1 = 0
      · by_cases hg : G0 < G1
        · rw [show bsel E0 G0 T0 E1 G1 T1 = ⟨1, G1, T1, 0⟩ from by unfold bsel; simp [h0, h1, z0, hg]]; exact rbest_1a A n c A' m c' f w G0 G1 E0 E1 T0 T1 HL0 HL1 h0 h1 hg
        · rw [show bsel E0 G0 T0 E1 G1 T1 = ⟨0, G0, T0, 0⟩ from by unfold bsel; simp [h0, h1, z0, hg]]; exact rbest_0b A n c A' m c' f w G0 G1 E0 E1 T0 T1 HL0 HL1 h0 h1 (by omega)
      · rw [show bsel E0 G0 T0 E1 G1 T1 = ⟨0, G0, T0, 0⟩ from by unfold bsel; simp [h0, h1, z0]]; exact rbest_0a A n c A' m c' f w G0 G1 E0 E1 T0 T1 HL0 HL1 h0 h1
    · by_cases h1 : E1 = 0
      · rw [show bsel E0 G0 T0 E1 G1 T1 = ⟨1, G1, T1, 0⟩ from by unfold bsel; simp [h0, h1, hg1 h1]]; exact rbest_1b A n c A' m c' f w G0 G1 E0 E1 T0 T1 HL0 HL1 h0 m0 h1
      · rw [show bsel E0 G0 T0 E1 G1 T1 = ⟨0, 0, ⟨#[]⟩, 6⟩ from by unfold bsel; simp [h0, h1]]; exact rbest_6 A n c A' m c' f w G0 G1 E0 E1 T0 T1 HL0 HL1 h0 m0 h1
  · rw [if_neg hc]
    have m0 : loadDE S V f 0 = 2 := by unfold loadDE mayL; rw [if_neg (by simp [hc])]
    exact rbest_2 A n c A' m c' f w _ _ _ _ _ _ HL0 HL1 m0

set_option maxHeartbeats 1000000 in
theorem same_any (A : Option Addr) (m c : Nat) (B : Option Addr) (m' c' : Nat) (L : List ByteArray) (w : World) (h1 : RV w A m 1 (SV L)) (h2 : RV w B m' 1 (SV L)) (hm : (m : Int) ≤ 2000) :
    Calls Tryz.prog 18 #[.slice A m c, .slice B m' c'] w fun r w' => r = .returned (.bool true) ∧ Below w.heap.size w w' := by
  have HL := Lib.hid h1.sec
  obtain rfl : m = m' := by rw [← h1.sec, ← h2.sec]
  have H1 := Lib.hid h1
  have H2 := Lib.hid h2
  clear h1 h2
  go_enter Tryz.func18, Tryz.ntmps18
  go_wp2_with fail
  go_loopw [5] (fun s5 wr => ∃ i : Nat, i ≤ m ∧ s5 = .int .i64 i ∧ Hid (Below w.heap.size w wr)) (fun s5 _ => m - (intOf s5).toNat)
  case atStart => exact ⟨0, Nat.zero_le _, rfl, Lib.hid (Below.refl _ _)⟩
  case round =>
    obtain ⟨i, hi, rfl, HI⟩ := hrel
    by_cases hlt : i < m
    · have hil : i < L.length := by have := HL.out; omega
      obtain ⟨b, off, rfl, hb, ha⟩ := (H1.out.below HI.out).2 (by omega)
      obtain ⟨b', off', rfl, hb', ha'⟩ := (H2.out.below HI.out).2 (by omega)
      have t0 := ha i (by rw [SV_length]; exact hil)
      have t1 := ha' i (by rw [SV_length]; exact hil)
      rw [show (SV L)[i]'(by rw [SV_length]; exact hil) = .string L[i] from by simp [SV]] at t0 t1
      clear ha ha'
      have HId := Lib.hid HI.out.drew
      generalize L[i] = x at *
      go_wp2_with fail
      go_region
      all_goals (
        go_wp2_with fail
        go_roundw
        case rel => exact ⟨i + 1, by omega, by go_num, HId⟩
        case measure => simp [intOf]; omega)
    · obtain rfl : i = m := by omega
      go_wp2_with fail
      go_ret
      exact ⟨rfl, HI.out⟩

end Go.Proofs.YtpeckeiaonjaaaaGreatDoor.Slt
