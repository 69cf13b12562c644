/- awake, which every statement of the layer ends with, returns true; it writes nothing that was there. -/
import Derived.Test.YtannhdhibajbkaaAwake
namespace Go.Proofs.Ytannhdhibajbkaa
open Go.RowKit Go.Deep Go.Lib

abbrev B38 (s : ByteArray) (p e : Int) : Obj := .cells #[.string s, .int .i64 p, .int .i64 e] 38

set_option maxRecDepth 100000 in
set_option maxHeartbeats 1000000 in
theorem awake_any (w : World) : Calls Try.prog 7 #[] w fun r w' => r = .returned (.bool true) ∧ Below w.heap.size w w' := by
  go_enter Try.func7, Try.ntmps7
  go_wp2_with fail
  refine (put_three w.heap.size _ (row_nine w)).mono ?_
  rintro r w1 ⟨rfl, hr1, hb1⟩
  have HB1 := Lib.hid (((Below.refl _ w).push _).call hb1)
  rw [World.size_alloc] at hr1
  have HR1 := Lib.hid hr1
  clear hb1 hr1
  go_wp2_with fail
  refine (str_ab _ _ HR1.out).mono ?_
  rintro r w2 ⟨rfl, hr2, hb2⟩
  have HB2 := Lib.hid (HB1.out.call hb2)
  have hc2 : (convert 22 9 (.slice (some ⟨w1.heap.size, 0, none⟩) 8 8)).run Try.prog w2 = .ok (.string S8) w2 := conv_reads hr2.reads
  have HR2 := Lib.hid hr2
  clear hb2 hr2 HB1 HR1
  go_wp2_with fail
  refine (num_258 _).mono ?_
  rintro r w3 ⟨rfl, hb3⟩
  have HB3 := Lib.hid (HB2.out.call hb3)
  have HR3 := Lib.hid (HR2.out.below hb3 HR2.out.lt)
  clear hb3 HB2 HR2 hc2
  go_wp2_with fail
  refine (take_ab _).mono ?_
  rintro r w4 ⟨rfl, hb4⟩
  have HB4 := Lib.hid ((HB3.out.push _).call hb4)
  have HR4 := Lib.hid ((HR3.out.alloc (B38 S8 4 0)).below hb4 (Nat.lt_of_lt_of_le HR3.out.lt (by simp)))
  have X4 := Lib.hid ((Box.new w3 (.string S8) (.int .i64 4) (.int .i64 0) 38).below hb4 (by simp))
  have hz4 : w3.heap.size < w4.heap.size := by have := hb4.size; simp at this; omega
  clear hb4 HB3 HR3
  go_wp2_with fail
  refine (num_end _).mono ?_
  rintro r w5 ⟨rfl, hb5⟩
  have HB5 := Lib.hid ((HB4.out.push _).call hb5)
  have HR5 := Lib.hid ((HR4.out.alloc (B38 S8 8 0)).below hb5 (Nat.lt_of_lt_of_le HR4.out.lt (by simp)))
  have X5 := Lib.hid ((X4.out.alloc hz4 (B38 S8 8 0)).below hb5 (by simp; omega))
  have Y5 := Lib.hid ((Box.new w4 (.string S8) (.int .i64 8) (.int .i64 0) 38).below hb5 (by simp))
  have hz5 : w4.heap.size < w5.heap.size := by have := hb5.size; simp at this; omega
  clear hb5 HB4 HR4 X4
  go_wp2_with fail
  refine (put_256 _).mono ?_
  rintro r w6 ⟨rfl, rfl⟩
  have HB6 := Lib.hid (HB5.out.push (B38 S8 8 3))
  obtain ⟨a0, a1, a2, _, _, _⟩ := X5.out.alloc (by omega) (B38 S8 8 3)
  obtain ⟨b0, b1, b2, _, _, _⟩ := Y5.out.alloc (by omega) (B38 S8 8 3)
  have hc6 : (convert 22 9 (.slice (some ⟨w1.heap.size, 0, none⟩) 8 8)).run Try.prog (w5.alloc (B38 S8 8 3)) = .ok (.string S8) (w5.alloc (B38 S8 8 3)) := conv_reads (HR5.out.alloc _).reads
  clear HB5 HR5
  go_wp2_with fail
  refine (end_eight _).mono ?_
  rintro r w6 ⟨rfl, hb6⟩
  have HB7 := Lib.hid (HB6.out.call hb6)
  have X6 := (X5.out.alloc (by omega) (B38 S8 8 3)).below hb6 (by simp; omega)
  have hz6 : w5.heap.size < w6.heap.size := by have := hb6.size; simp at this; omega
  clear a0 a1 a2 b0 b1 b2 hc6
  obtain ⟨z0, z1, z2, _, _, _⟩ := (Box.new w5 (.string S8) (.int .i64 8) (.int .i64 3) 38).below hb6 (by simp)
  have HX6 := Lib.hid X6
  obtain ⟨a0, a1, a2, _, _, _⟩ := X6
  clear HB6 hb6 X5 Y5
  go_wp2_with fail
  refine (left_four _).mono ?_
  rintro r w7 ⟨rfl, hb7⟩
  have HB8 := Lib.hid (HB7.out.call hb7)
  have X7 := HX6.out.below hb7 (by omega)
  clear a0 a1 a2 z0 z1 z2 HX6 HB7 hb7
  obtain ⟨a0, a1, a2, _, _, _⟩ := X7
  go_wp2_with fail
  refine (end_four _).mono ?_
  rintro r w8 ⟨rfl, hb8⟩
  have HB9 := Lib.hid (HB8.out.call hb8)
  clear a0 a1 a2 HB8 hb8
  go_wp2_with fail
  refine (new_any _ _).mono ?_
  rintro r w9 ⟨rfl, hb9⟩
  have HB10 := Lib.hid (HB9.out.call hb9)
  clear HB9 hb9
  go_wp2
  go_ret
  exact ⟨rfl, HB10.out⟩

end Go.Proofs.Ytannhdhibajbkaa
