/- The walk of OctetLays. -/
import Derived.Test.YtannhdhibajbkaaRefPut
import Derived.Test.YtannhdhibajbkaaAwakeW
namespace Go.Proofs.Ytannhdhibajbkaa
open Go.RowKit Go.Deep Go.Lib

theorem putR_length (l : List UInt8) (k n : Int) : (putR l k n).1.length ≤ l.length + 7 := by
  unfold putR
  split
  · split
    · simp [beB_length]; omega
    · simp
  · simp
theorem strR_length (l : List UInt8) (s : ByteArray) : (strR l s).1.length ≤ l.length + (2 + s.size) := by
  unfold strR
  split
  · simp [beB_length]
  · simp

set_option maxRecDepth 100000 in
set_option maxHeartbeats 1000000 in
theorem walk_lays (a : Option Addr) (len cap : Nat) (l : List UInt8) (x y : Int) (s : ByteArray) (w : World) (hR : Reads w a len l) (hy : y < 9223372036854775808) (hlen : len ≤ maxLen) (hs : s.size ≤ maxLen) :
    Calls Try.prog 3 #[.slice a len cap, .agg #[.int .i64 x, .int .i64 y], .string s] w fun e w' => e = .returned (.bool true) ∧ Below w.heap.size w w' := by
  unfold maxLen at hlen hs
  by_cases hg : ¬ ((len : Int) ≤ 200 ∧ (s.size : Int) ≤ 200)
  · by_cases h1 : (200 : Int) < len
    all_goals
      go_enter Try.func3, Try.ntmps3
      go_wp2_with (go_at_call 7; refine (awake_any _).mono ?_; rintro e w' ⟨rfl, hb⟩)
      go_ret
      exact ⟨rfl, ((Below.refl _ _).push _).call hb⟩
  obtain ⟨g1, g2⟩ := Decidable.not_not.1 hg
  clear hg
  have d1 : decide ((200 : Int) < len) = false := decide_eq_false (by omega)
  have d2 : decide ((200 : Int) < s.size) = false := decide_eq_false (by omega)
  have hl := hR.1
  have p1 := putR_length l x y
  have p2 := strR_length l s
  have HP := Lib.hid (fun (W : World) (hR : Reads W a len l) => put_any a len cap l x y W hR (by omega) hy)
  have HQ := Lib.hid (fun (W : World) (hR : Reads W a len l) => rput_any a len cap l x y W hR (by omega) hy)
  have HS := Lib.hid (fun (W : World) (hR : Reads W a len l) => str_any a len cap l s W hR (by omega))
  have HT := Lib.hid (fun (W : World) (hR : Reads W a len l) => rstr_any a len cap l s W hR (by omega))
  generalize putR l x y = pr at *
  generalize strR l s = sr at *
  have HR0 := Lib.hid (hR.below ((Below.refl _ w).push (.cells #[.int .i64 x, .int .i64 y] 23)))
  have hc0 := conv_reads (cap := cap) HR0.out
  have HB0 := Lib.hid ((Below.refl _ w).push (.cells #[.int .i64 x, .int .i64 y] 23))
  clear hR hl
  go_enter Try.func3, Try.ntmps3
  go_wp2_with fail
  refine (HP.out _ HR0.out).mono ?_
  rintro r w1 ⟨v1, rfl, ho1, hb1⟩
  obtain ⟨a1, c1, rfl, hr1⟩ := ho1.reads
  have HB1 := Lib.hid (HB0.out.call hb1)
  have HR1 := Lib.hid (HR0.out.below hb1)
  have HV1 := Lib.hid hr1
  have x1 : w1.cell? ⟨w.heap.size, 0, none⟩ = some (.int .i64 x) := (hb1.cell (p := ⟨w.heap.size, 0, none⟩) (by simp)).trans (by simp [go_sem])
  have y1 : w1.cell? ⟨w.heap.size, 1, none⟩ = some (.int .i64 y) := (hb1.cell (p := ⟨w.heap.size, 1, none⟩) (by simp)).trans (by simp [go_sem])
  clear hb1 ho1 hr1 HB0 HR0 hc0
  go_wp2_with fail
  refine (HQ.out _ HR1.out).mono ?_
  rintro r w2 ⟨v2, rfl, ho2, hb2⟩
  obtain ⟨a2, c2, rfl, hr2⟩ := ho2.reads
  have HB2 := Lib.hid (HB1.out.call hb2)
  have HR2 := Lib.hid (HR1.out.below hb2)
  have HV2 := Lib.hid (HV1.out.below hb2)
  have HW2 := Lib.hid hr2
  clear hb2 ho2 hr2 HB1 HR1 HV1 x1 y1
  go_wp2_with fail
  refine (HS.out _ HR2.out).mono ?_
  rintro r w3 ⟨v3, rfl, ho3, hb3⟩
  obtain ⟨a3, c3, rfl, hr3⟩ := ho3.reads
  have HB3 := Lib.hid (HB2.out.call hb3)
  have HR3 := Lib.hid (HR2.out.below hb3)
  have HV3 := Lib.hid (HV2.out.below hb3)
  have HW3 := Lib.hid (HW2.out.below hb3)
  have HX3 := Lib.hid hr3
  clear hb3 ho3 hr3 HB2 HR2 HV2 HW2
  go_wp2_with fail
  refine (HT.out _ HR3.out).mono ?_
  rintro r w4 ⟨v4, rfl, ho4, hb4⟩
  obtain ⟨a4, c4, rfl, hr4⟩ := ho4.reads
  have HB4 := Lib.hid (HB3.out.call hb4)
  have HR4 := Lib.hid (HR3.out.below hb4)
  have HV4 := Lib.hid (HV3.out.below hb4)
  have HW4 := Lib.hid (HW3.out.below hb4)
  have HX4 := Lib.hid (HX3.out.below hb4)
  have HY4 := Lib.hid hr4
  have hl : l.length ≤ 200 := by have := HR4.out.1; omega
  clear hb4 ho4 hr4 HB3 HR3 HV3 HW3 HX3
  go_wp2_with fail
  refine (same_bytes a1 a2 c1 c2 pr.1 _ HV4.out HW4.out (by omega)).mono ?_
  rintro r w5 ⟨rfl, hb5⟩
  have HB5 := Lib.hid (HB4.out.call hb5)
  have HR5 := Lib.hid (HR4.out.below hb5)
  have HX5 := Lib.hid (HX4.out.below hb5)
  have HY5 := Lib.hid (HY4.out.below hb5)
  clear hb5 HB4 HR4 HV4 HW4 HX4 HY4
  go_wp2_with fail
  refine (same_bytes a3 a4 c3 c4 sr.1 _ HX5.out HY5.out (by omega)).mono ?_
  rintro r w6 ⟨rfl, hb6⟩
  have HB6 := Lib.hid (HB5.out.call hb6)
  have hc6 := conv_reads (cap := cap) (HR5.out.below hb6)
  clear hb6 HB5 HR5 HX5 HY5
  go_wp2_with fail
  refine (awake_any _).mono ?_
  rintro r w7 ⟨rfl, hb7⟩
  have HB7 := Lib.hid (HB6.out.call hb7)
  clear hb7 HB6 hc6
  go_wp2
  go_ret
  exact ⟨rfl, HB7.out⟩

end Go.Proofs.Ytannhdhibajbkaa
