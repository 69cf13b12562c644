/- Contracts of partOf and Read of package sheaf. -/
import Derived.Test.YtkglolnghihegaaGreatDoorSheafBody
namespace Go.Proofs.YtkglolnghihegaaGreatDoor.Shf
open Go.RowKit Go.Proofs.YtkglolnghihegaaGreatDoor.Oct

/-- What a body of 52 bytes tells. -/
def kA (s : ByteArray) : Nat := (s.data.toList.headD 0).toNat
def gA (s : ByteArray) : Int := numAt s 1 6
def nA (s : ByteArray) : Int := numAt s 7 4
def aA (s : ByteArray) : Int := numAt s 11 2
def oA (s : ByteArray) : Int := numAt s 13 2
def dA (s : ByteArray) : ByteArray := s.extract 15 s.size

theorem kA_eq (s : ByteArray) (h : 0 < s.size) : numAt s 0 1 = kA s := by
  have := numAt_succ s 0 0 (by omega)
  rw [numAt_zero] at this
  rw [show (0 : Int) = ((0 : Nat) : Int) from rfl, this]
  unfold kA
  have e : s.data.toList.headD 0 = s[0] := by
    rw [List.headD_eq_head?_getD, List.head?_eq_getElem?, List.getElem?_eq_getElem (by simpa using h)]
    rfl
  rw [e]; simp
theorem kA_lt (s : ByteArray) : kA s < 256 := UInt8.toNat_lt _

set_option maxHeartbeats 400000 in
theorem partOf_any (s : ByteArray) (w : World) (hs : s.size = 52) :
    Calls Tryz.prog 146 #[.string s] w fun r w' => r = .returned (PV (kA s) (gA s) (nA s) (aA s) (oA s) (dA s)) ∧ Below w.heap.size w w' := by
  have hm : s.size ≤ maxLen := by unfold maxLen; omega
  have N1 : Hid (∀ W, Calls Tryz.prog 97 #[CV s 0 0, .int .i64 1] W fun r w' => r = .returned (.tuple #[CV s 1 0, .int .i64 (kA s)]) ∧ Below W.heap.size W w') := Lib.hid (fun W => by
    have := num_ok s 0 1 W hm (by omega) (by omega) (by omega) (by omega)
    rw [show (1 : Int).toNat = 1 from rfl, kA_eq s (by omega)] at this
    exact this)
  have N2 : Hid (∀ W, Calls Tryz.prog 97 #[CV s 1 0, .int .i64 6] W fun r w' => r = .returned (.tuple #[CV s 7 0, .int .i64 (gA s)]) ∧ Below W.heap.size W w') := Lib.hid (fun W => num_ok s 1 6 W hm (by omega) (by omega) (by omega) (by omega))
  have N3 : Hid (∀ W, Calls Tryz.prog 97 #[CV s 7 0, .int .i64 4] W fun r w' => r = .returned (.tuple #[CV s 11 0, .int .i64 (nA s)]) ∧ Below W.heap.size W w') := Lib.hid (fun W => num_ok s 7 4 W hm (by omega) (by omega) (by omega) (by omega))
  have N4 : Hid (∀ W, Calls Tryz.prog 97 #[CV s 11 0, .int .i64 2] W fun r w' => r = .returned (.tuple #[CV s 13 0, .int .i64 (aA s)]) ∧ Below W.heap.size W w') := Lib.hid (fun W => num_ok s 11 2 W hm (by omega) (by omega) (by omega) (by omega))
  have N5 : Hid (∀ W, Calls Tryz.prog 97 #[CV s 13 0, .int .i64 2] W fun r w' => r = .returned (.tuple #[CV s 15 0, .int .i64 (oA s)]) ∧ Below W.heap.size W w') := Lib.hid (fun W => num_ok s 13 2 W hm (by omega) (by omega) (by omega) (by omega))
  have hk := kA_lt s
  generalize kA s = k at *
  generalize gA s = g at *
  generalize nA s = n at *
  generalize aA s = a at *
  generalize oA s = o at *
  go_enter Tryz.func146, Tryz.ntmps146
  go_wp2_with fail
  with_reducible refine (new_any s _).mono ?_
  rintro r w1 ⟨rfl, b1⟩
  have HB1 := Lib.hid (((Below.refl _ w).push _).call b1)
  have R1 := Lib.hid ((Box6.new w (.int .u8 0) (.int .i64 0) (.int .i64 0) (.int .i64 0) (.int .i64 0) (.string ⟨#[]⟩) 209).below b1 (by simp))
  have F1 := Lib.hid ((Fr6.new w (.int .u8 0) (.int .i64 0) (.int .i64 0) (.int .i64 0) (.int .i64 0) (.string ⟨#[]⟩) 209).below b1 (by simp))
  clear b1
  go_wp2_with fail
  with_reducible refine (N1.out _).mono ?_
  rintro r w2 ⟨rfl, b2⟩
  have HB2 := Lib.hid b2
  have HQ := Lib.hid (R1.out.below b2 (cell_lt R1.out.c0))
  have FQ := Lib.hid (F1.out.below b2 (cell_lt R1.out.c0))
  have HW1 := Lib.hid (HB1.out.call b2)
  have ne1 : ¬ w2.heap.size = w.heap.size := by have h1 := cell_lt R1.out.c0; have h2 := b2.size; simp at h1; omega
  have ne2 : ¬ w.heap.size = w2.heap.size := by omega
  have HL := Lib.hid (show w.heap.size ≤ w2.heap.size by have h1 := cell_lt R1.out.c0; have h2 := b2.size; simp at h1; omega)
  clear b2 HB1 R1 F1
  go_wp2_with fail
  with_reducible refine (N2.out _).mono ?_
  rintro r w3 ⟨rfl, b3⟩
  have X := (Box.new w2 (.string s) (.int .i64 1) (.int .i64 0) 116).below b3 (by simp)
  have HB3 := Lib.hid (((Below.refl _ w2).push _).call b3)
  clear b3
  obtain ⟨c0, c1, c2, f0, f1, f2⟩ := X
  go_wp2_with fail
  with_reducible refine (N3.out _).mono ?_
  rintro r w4 ⟨rfl, b4⟩
  have X3 := ((Box.mk c0 c1 c2 f0 f1 f2).set3 (.string s) (.int .i64 7) (.int .i64 0)).below b4 (by have := cell_lt c0; simpa [World.setCell] using this)
  have HB4 := Lib.hid ((HB3.out.set3 (Nat.le_refl _) (.string s) (.int .i64 7) (.int .i64 0)).call b4)
  clear b4 c0 c1 c2 f0 f1 f2 HB3
  obtain ⟨c0, c1, c2, f0, f1, f2⟩ := X3
  go_wp2_with fail
  with_reducible refine (N4.out _).mono ?_
  rintro r w5 ⟨rfl, b5⟩
  have X4 := ((Box.mk c0 c1 c2 f0 f1 f2).set3 (.string s) (.int .i64 11) (.int .i64 0)).below b5 (by have := cell_lt c0; simpa [World.setCell] using this)
  have HB5 := Lib.hid ((HB4.out.set3 (Nat.le_refl _) (.string s) (.int .i64 11) (.int .i64 0)).call b5)
  clear b5 c0 c1 c2 f0 f1 f2 HB4
  obtain ⟨c0, c1, c2, f0, f1, f2⟩ := X4
  go_wp2_with fail
  with_reducible refine (N5.out _).mono ?_
  rintro r w6 ⟨rfl, b6⟩
  have X5 := ((Box.mk c0 c1 c2 f0 f1 f2).set3 (.string s) (.int .i64 13) (.int .i64 0)).below b6 (by have := cell_lt c0; simpa [World.setCell] using this)
  have HB6 := Lib.hid ((HB5.out.set3 (Nat.le_refl _) (.string s) (.int .i64 13) (.int .i64 0)).call b6)
  clear b6 c0 c1 c2 f0 f1 f2 HB5
  obtain ⟨c0, c1, c2, f0, f1, f2⟩ := X5
  clear N1 N2 N3 N4 N5
  have HW := Lib.hid (HW1.out.call HB6.out)
  have R := HQ.out.below HB6.out (cell_lt HQ.out.c0)
  have F := FQ.out.below HB6.out (cell_lt HQ.out.c0)
  clear HB6 HQ HW1 FQ
  obtain ⟨r0, r1, r2, r3, r4, r5⟩ := R
  obtain ⟨g0, g1, g2, g3, g4, g5⟩ := F
  go_wp2_with fail
  refine bodyPost_ret (v := PV k g n a o (dA s)) (by simp [results, Tryz.results146, go_sem, *, dA]) rfl ⟨rfl, ?_⟩
  exact (HW.out.set3 HL.out _ _ _).set6 (Nat.le_refl _) _ _ _ _ _ _

/-- The error that reading a body tells. -/
def errR (s : ByteArray) : Int := if s.size = 52 then (if fineH (gA s) (nA s) = true ∧ aA s < oA s then 0 else 8) else 4

theorem read_form (s : ByteArray) (w : World) (h : ((s.size : Int) != 52) = true) :
    Calls Tryz.prog 127 #[.string s] w fun r w' => r = .returned (.tuple #[PV 0 0 0 0 0 ⟨#[]⟩, .int .i64 4]) ∧ Below w.heap.size w w' := by
  go_enter Tryz.func127, Tryz.ntmps127
  go_wp2_with fail
  refine bodyPost_ret (v := .tuple #[PV 0 0 0 0 0 ⟨#[]⟩, .int .i64 4]) (by simp [results, Tryz.results127, go_sem, *]) rfl ⟨rfl, ?_⟩
  exact (Below.refl _ _).push _

theorem read_ok (s : ByteArray) (w : World) (hs : s.size = 52) (hf : fineH (gA s) (nA s) = true) (hp : aA s < oA s) :
    Calls Tryz.prog 127 #[.string s] w fun r w' => r = .returned (.tuple #[PV (kA s) (gA s) (nA s) (aA s) (oA s) (dA s), .int .i64 0]) ∧ Below w.heap.size w w' := by
  have hd : ((s.size : Int) != 52) = false := by rw [hs]; rfl
  have HP := Lib.hid (fun W => partOf_any s W hs)
  have HM := Lib.hid (fun W => mayBe_any (kA s) (gA s) (nA s) W)
  rw [hf] at HM
  have hq : decide (oA s ≤ aA s) = false := decide_eq_false (by omega)
  clear hs hf hp
  generalize kA s = k at *
  generalize gA s = g at *
  generalize nA s = n at *
  generalize aA s = a at *
  generalize oA s = o at *
  generalize dA s = d at *
  go_enter Tryz.func127, Tryz.ntmps127
  go_wp2_with fail
  with_reducible refine (HP.out _).mono ?_
  rintro r w1 ⟨rfl, b1⟩
  have HB1 := Lib.hid (((Below.refl _ w).push _).call b1)
  have R1 := Lib.hid ((Box6.new w (.int .u8 0) (.int .i64 0) (.int .i64 0) (.int .i64 0) (.int .i64 0) (.string ⟨#[]⟩) 209).below b1 (by simp))
  have F1 := Lib.hid ((Fr6.new w (.int .u8 0) (.int .i64 0) (.int .i64 0) (.int .i64 0) (.int .i64 0) (.string ⟨#[]⟩) 209).below b1 (by simp))
  clear b1
  go_wp2_with fail
  with_reducible refine (HM.out _).mono ?_
  rintro r w2 ⟨rfl, b2⟩
  have X := (Box6.new w1 (.int .u8 k) (.int .i64 g) (.int .i64 n) (.int .i64 a) (.int .i64 o) (.string d) 209).below b2 (by simp)
  have HB2 := Lib.hid (((Below.refl _ w1).push _).call b2)
  have R2 := R1.out.below HB2.out (cell_lt R1.out.c0)
  have F2 := F1.out.below HB2.out (cell_lt R1.out.c0)
  have ne1 : ¬ w1.heap.size = w.heap.size := by have h1 := cell_lt R1.out.c0; simp at h1; omega
  have ne2 : ¬ w.heap.size = w1.heap.size := by omega
  have HW := Lib.hid (HB1.out.call HB2.out)
  clear b2 HB1 HB2 R1 F1 HP HM
  obtain ⟨c0, c1, c2, c3, c4, c5⟩ := X
  obtain ⟨r0, r1, r2, r3, r4, r5⟩ := R2
  obtain ⟨f0, f1, f2, f3, f4, f5⟩ := F2
  go_wp2_with fail
  refine bodyPost_ret (v := .tuple #[PV k g n a o d, .int .i64 0]) (by simp [results, Tryz.results127, go_sem, *]) rfl ⟨rfl, ?_⟩
  exact HW.out.set6 (Nat.le_refl _) _ _ _ _ _ _

theorem read_head (s : ByteArray) (w : World) (hs : s.size = 52) (hf : fineH (gA s) (nA s) = false) :
    Calls Tryz.prog 127 #[.string s] w fun r w' => r = .returned (.tuple #[PV 0 0 0 0 0 ⟨#[]⟩, .int .i64 8]) ∧ Below w.heap.size w w' := by
  have hd : ((s.size : Int) != 52) = false := by rw [hs]; rfl
  have HP := Lib.hid (fun W => partOf_any s W hs)
  have HM := Lib.hid (fun W => mayBe_any (kA s) (gA s) (nA s) W)
  rw [hf] at HM
  clear hs hf
  generalize kA s = k at *
  generalize gA s = g at *
  generalize nA s = n at *
  generalize aA s = a at *
  generalize oA s = o at *
  generalize dA s = d at *
  go_enter Tryz.func127, Tryz.ntmps127
  go_wp2_with fail
  with_reducible refine (HP.out _).mono ?_
  rintro r w1 ⟨rfl, b1⟩
  have HB1 := Lib.hid (((Below.refl _ w).push _).call b1)
  have R1 := Lib.hid ((Box6.new w (.int .u8 0) (.int .i64 0) (.int .i64 0) (.int .i64 0) (.int .i64 0) (.string ⟨#[]⟩) 209).below b1 (by simp))
  have F1 := Lib.hid ((Fr6.new w (.int .u8 0) (.int .i64 0) (.int .i64 0) (.int .i64 0) (.int .i64 0) (.string ⟨#[]⟩) 209).below b1 (by simp))
  clear b1
  go_wp2_with fail
  with_reducible refine (HM.out _).mono ?_
  rintro r w2 ⟨rfl, b2⟩
  have HB2 := Lib.hid (((Below.refl _ w1).push _).call b2)
  have R2 := R1.out.below HB2.out (cell_lt R1.out.c0)
  have F2 := F1.out.below HB2.out (cell_lt R1.out.c0)
  have HW := Lib.hid (HB1.out.call HB2.out)
  clear b2 HB1 HB2 R1 F1 HP HM
  obtain ⟨r0, r1, r2, r3, r4, r5⟩ := R2
  obtain ⟨f0, f1, f2, f3, f4, f5⟩ := F2
  go_wp2_with fail
  refine bodyPost_ret (v := .tuple #[PV 0 0 0 0 0 ⟨#[]⟩, .int .i64 8]) (by simp [results, Tryz.results127, go_sem, *]) rfl ⟨rfl, ?_⟩
  exact HW.out.set6 (Nat.le_refl _) _ _ _ _ _ _

theorem read_place (s : ByteArray) (w : World) (hs : s.size = 52) (hf : fineH (gA s) (nA s) = true) (hp : oA s ≤ aA s) :
    Calls Tryz.prog 127 #[.string s] w fun r w' => r = .returned (.tuple #[PV 0 0 0 0 0 ⟨#[]⟩, .int .i64 8]) ∧ Below w.heap.size w w' := by
  have hd : ((s.size : Int) != 52) = false := by rw [hs]; rfl
  have HP := Lib.hid (fun W => partOf_any s W hs)
  have HM := Lib.hid (fun W => mayBe_any (kA s) (gA s) (nA s) W)
  rw [hf] at HM
  have hq : decide (oA s ≤ aA s) = true := decide_eq_true (by omega)
  clear hs hf hp
  generalize kA s = k at *
  generalize gA s = g at *
  generalize nA s = n at *
  generalize aA s = a at *
  generalize oA s = o at *
  generalize dA s = d at *
  go_enter Tryz.func127, Tryz.ntmps127
  go_wp2_with fail
  with_reducible refine (HP.out _).mono ?_
  rintro r w1 ⟨rfl, b1⟩
  have HB1 := Lib.hid (((Below.refl _ w).push _).call b1)
  have R1 := Lib.hid ((Box6.new w (.int .u8 0) (.int .i64 0) (.int .i64 0) (.int .i64 0) (.int .i64 0) (.string ⟨#[]⟩) 209).below b1 (by simp))
  have F1 := Lib.hid ((Fr6.new w (.int .u8 0) (.int .i64 0) (.int .i64 0) (.int .i64 0) (.int .i64 0) (.string ⟨#[]⟩) 209).below b1 (by simp))
  clear b1
  go_wp2_with fail
  with_reducible refine (HM.out _).mono ?_
  rintro r w2 ⟨rfl, b2⟩
  have X := (Box6.new w1 (.int .u8 k) (.int .i64 g) (.int .i64 n) (.int .i64 a) (.int .i64 o) (.string d) 209).below b2 (by simp)
  have HB2 := Lib.hid (((Below.refl _ w1).push _).call b2)
  have R2 := R1.out.below HB2.out (cell_lt R1.out.c0)
  have F2 := F1.out.below HB2.out (cell_lt R1.out.c0)
  have HW := Lib.hid (HB1.out.call HB2.out)
  clear b2 HB1 HB2 R1 F1 HP HM
  obtain ⟨c0, c1, c2, c3, c4, c5⟩ := X
  obtain ⟨r0, r1, r2, r3, r4, r5⟩ := R2
  obtain ⟨f0, f1, f2, f3, f4, f5⟩ := F2
  go_wp2_with fail
  refine bodyPost_ret (v := .tuple #[PV 0 0 0 0 0 ⟨#[]⟩, .int .i64 8]) (by simp [results, Tryz.results127, go_sem, *]) rfl ⟨rfl, ?_⟩
  exact HW.out.set6 (Nat.le_refl _) _ _ _ _ _ _

/-- What reading a body answers. -/
def partV (s : ByteArray) : Value := if errR s = 0 then PV (kA s) (gA s) (nA s) (aA s) (oA s) (dA s) else PV 0 0 0 0 0 ⟨#[]⟩

theorem read_any (s : ByteArray) (w : World) :
    Calls Tryz.prog 127 #[.string s] w fun r w' => r = .returned (.tuple #[partV s, .int .i64 (errR s)]) ∧ Below w.heap.size w w' := by
  unfold partV
  by_cases hs : s.size = 52
  · by_cases hf : fineH (gA s) (nA s) = true
    · by_cases hp : aA s < oA s
      · have e : errR s = 0 := by unfold errR; rw [if_pos hs, if_pos ⟨hf, hp⟩]
        rw [e, if_pos rfl]; exact read_ok s w hs hf hp
      · have e : errR s = 8 := by unfold errR; rw [if_pos hs, if_neg (fun x => hp x.2)]
        rw [e, if_neg (by decide)]; exact read_place s w hs hf (by omega)
    · have e : errR s = 8 := by unfold errR; rw [if_pos hs, if_neg (fun x => hf x.1)]
      rw [e, if_neg (by decide)]; exact read_head s w hs (by simpa using hf)
  · have e : errR s = 4 := by unfold errR; rw [if_neg hs]
    rw [e, if_neg (by decide)]; exact read_form s w (by simp; omega)

end Go.Proofs.YtkglolnghihegaaGreatDoor.Shf
