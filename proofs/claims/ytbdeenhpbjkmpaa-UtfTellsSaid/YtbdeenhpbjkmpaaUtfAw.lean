/- The walk of awake, and of UtfTells and UtfCuts. -/
import Derived.Test.YtbdeenhpbjkmpaaUtfPro
set_option linter.unusedVariables false
namespace Go.Proofs.Ytbdeenhpbjkmpaa.Utf
open Go.RowKit Go.Proofs.Ytbdeenhpbjkmpaa.Byt

def t10 : List UInt8 := [97, 195, 169, 226, 130, 172, 240, 159, 152, 128]
theorem sz_a (r : List UInt8) : Sz (97 :: r) = 1 := rfl
theorem t10_1 : Sz (t10.drop 1) = 2 := by decide
theorem t10_3 : Sz (t10.drop 3) = 3 := by decide
theorem t10_6 : Sz (t10.drop 6) = 4 := by decide
theorem aw_bad : badI t10 0 = -1 := by
  rw [badI_on (by decide) (by decide), show t10.drop (wd t10) = t10.drop 1 from rfl, badI_on (by decide) (by decide), show (t10.drop 1).drop (wd (t10.drop 1)) = t10.drop 3 from rfl, badI_on (by decide) (by decide), show (t10.drop 3).drop (wd (t10.drop 3)) = t10.drop 6 from rfl, badI_on (by decide) (by decide), show (t10.drop 6).drop (wd (t10.drop 6)) = [] from rfl, badI_nil]
theorem aw_odd : oddI t10 0 = -1 := by
  rw [oddI_on (by decide) (by decide), show t10.drop (wd t10) = t10.drop 1 from rfl, oddI_on (by decide) (by decide), show (t10.drop 1).drop (wd (t10.drop 1)) = t10.drop 3 from rfl, oddI_on (by decide) (by decide), show (t10.drop 3).drop (wd (t10.drop 3)) = t10.drop 6 from rfl, oddI_on (by decide) (by decide), show (t10.drop 6).drop (wd (t10.drop 6)) = [] from rfl, oddI_nil]
theorem aw_len : lenN t10 = 4 := by
  rw [lenN_on (by decide), show t10.drop (wd t10) = t10.drop 1 from rfl, lenN_on (by decide), show (t10.drop 1).drop (wd (t10.drop 1)) = t10.drop 3 from rfl, lenN_on (by decide), show (t10.drop 3).drop (wd (t10.drop 3)) = t10.drop 6 from rfl, lenN_on (by decide), show (t10.drop 6).drop (wd (t10.drop 6)) = [] from rfl, lenN_nil]
theorem aw_cut2 : cutN 2 t10 = 1 := by
  rw [cutN_on (by decide) (by decide), show t10.drop (wd t10) = t10.drop 1 from rfl, cutN_stop (by decide) (by decide)]
  rfl
theorem aw_cut9 : cutN 9 t10 = 6 := by
  rw [cutN_on (by decide) (by decide), show t10.drop (wd t10) = t10.drop 1 from rfl, cutN_on (by decide) (by decide), show (t10.drop 1).drop (wd (t10.drop 1)) = t10.drop 3 from rfl, cutN_on (by decide) (by decide), show (t10.drop 3).drop (wd (t10.drop 3)) = t10.drop 6 from rfl, cutN_stop (by decide) (by decide)]
  rfl
theorem aw_cut99 : cutN 99 t10 = 10 := cutN_all t10 99 (by decide)
theorem aw_bad2 : badI [97, 98, 192, 128] 0 = 2 := by
  rw [badI_on (by decide) (by decide), show ([97, 98, 192, 128] : List UInt8).drop (wd [97, 98, 192, 128]) = [98, 192, 128] from rfl, badI_on (by decide) (by decide), show ([98, 192, 128] : List UInt8).drop (wd [98, 192, 128]) = [192, 128] from rfl, badI_hit (by decide) (by decide)]
  rfl
theorem aw_odd2 : oddI [97, 9, 98, 10, 99] 0 = 3 := by
  rw [oddI_on (by decide) (by decide), show ([97, 9, 98, 10, 99] : List UInt8).drop (wd [97, 9, 98, 10, 99]) = [9, 98, 10, 99] from rfl, oddI_on (by decide) (by decide), show ([9, 98, 10, 99] : List UInt8).drop (wd [9, 98, 10, 99]) = [98, 10, 99] from rfl, oddI_on (by decide) (by decide), show ([98, 10, 99] : List UInt8).drop (wd [98, 10, 99]) = [10, 99] from rfl, oddI_hit (by decide) (by decide)]
  rfl
set_option maxRecDepth 20000 in
set_option maxHeartbeats 1000000 in
theorem awake_any (w : World) : Calls Try.prog 7 #[] w fun r w' => r = .returned (.bool true) ∧ Below w.heap.size w w' := by
  have H1 := Lib.hid (fun W => bad_any ⟨#[97, 195, 169, 226, 130, 172, 240, 159, 152, 128]⟩ (by decide) W)
  rw [show badI (ByteArray.mk #[97, 195, 169, 226, 130, 172, 240, 159, 152, 128]).data.toList 0 = -1 from aw_bad] at H1
  have H2 := Lib.hid (fun W => len_any ⟨#[97, 195, 169, 226, 130, 172, 240, 159, 152, 128]⟩ (by decide) W)
  rw [show lenN (ByteArray.mk #[97, 195, 169, 226, 130, 172, 240, 159, 152, 128]).data.toList = 4 from aw_len] at H2
  have H3 := Lib.hid (fun W => cut_any ⟨#[97, 195, 169, 226, 130, 172, 240, 159, 152, 128]⟩ (by decide) 2 W)
  rw [show cutN 2 (ByteArray.mk #[97, 195, 169, 226, 130, 172, 240, 159, 152, 128]).data.toList = 1 from aw_cut2] at H3
  have H4 := Lib.hid (fun W => cut_any ⟨#[97, 195, 169, 226, 130, 172, 240, 159, 152, 128]⟩ (by decide) 9 W)
  rw [show cutN 9 (ByteArray.mk #[97, 195, 169, 226, 130, 172, 240, 159, 152, 128]).data.toList = 6 from aw_cut9] at H4
  have H5 := Lib.hid (fun W => cut_any ⟨#[97, 195, 169, 226, 130, 172, 240, 159, 152, 128]⟩ (by decide) 99 W)
  rw [show cutN 99 (ByteArray.mk #[97, 195, 169, 226, 130, 172, 240, 159, 152, 128]).data.toList = 10 from aw_cut99] at H5
  have H6 := Lib.hid (fun W => bad_any ⟨#[97, 98, 192, 128]⟩ (by decide) W)
  rw [show badI (ByteArray.mk #[97, 98, 192, 128]).data.toList 0 = 2 from aw_bad2] at H6
  have H7 := Lib.hid (fun W => odd_any' ⟨#[97, 9, 98, 10, 99]⟩ (by decide) W)
  rw [show oddI (ByteArray.mk #[97, 9, 98, 10, 99]).data.toList 0 = 3 from aw_odd2] at H7
  have H8 := Lib.hid (fun W => odd_any' ⟨#[97, 195, 169, 226, 130, 172, 240, 159, 152, 128]⟩ (by decide) W)
  rw [show oddI (ByteArray.mk #[97, 195, 169, 226, 130, 172, 240, 159, 152, 128]).data.toList 0 = -1 from aw_odd] at H8
  have H9 := Lib.hid (fun W => upper_any ⟨#[97, 90, 45, 195, 169, 122]⟩ (by decide) W)
  rw [show ByteArray.mk ((ByteArray.mk #[97, 90, 45, 195, 169, 122]).data.toList.map up).toArray = ⟨#[65, 90, 45, 195, 169, 90]⟩ from rfl] at H9
  go_enter Try.func7, Try.ntmps7
  go_wp2_with (first
    | (go_at_call 8; with_reducible refine (H1.out _).mono ?_; rintro e w1 ⟨rfl, hb⟩; have B1 := Lib.hid ((Bl.refl w).call hb); clear hb)
    | (go_at_call 12; with_reducible refine (H2.out _).mono ?_; rintro e w2 ⟨rfl, hb⟩; have B2 := Lib.hid (B1.out.call hb); clear hb)
    | (go_at_call 16; with_reducible refine (H3.out _).mono ?_; rintro e w3 ⟨rfl, hb⟩; have B3 := Lib.hid (B2.out.call hb); clear hb)
    | (go_at_call 16; with_reducible refine (H4.out _).mono ?_; rintro e w4 ⟨rfl, hb⟩; have B4 := Lib.hid (B3.out.call hb); clear hb)
    | (go_at_call 16; with_reducible refine (H5.out _).mono ?_; rintro e w5 ⟨rfl, hb⟩; have B5 := Lib.hid (B4.out.call hb); clear hb)
    | (go_at_call 8; with_reducible refine (H6.out _).mono ?_; rintro e w6 ⟨rfl, hb⟩; have B6 := Lib.hid (B5.out.call hb); clear hb)
    | (go_at_call 10; with_reducible refine (H7.out _).mono ?_; rintro e w7 ⟨rfl, hb⟩; have B7 := Lib.hid (B6.out.call hb); clear hb)
    | (go_at_call 10; with_reducible refine (H8.out _).mono ?_; rintro e w8 ⟨rfl, hb⟩; have B8 := Lib.hid (B7.out.call hb); clear hb)
    | (go_at_call 14; with_reducible refine (H9.out _).mono ?_; rintro e w9 ⟨rfl, hb⟩; have B9 := Lib.hid (B8.out.call hb); clear hb))
  go_ret
  exact ⟨rfl, B9.out.below⟩

set_option maxRecDepth 20000 in
theorem walk_tells (s : ByteArray) (w : World) : Calls Try.prog 3 #[.string s] w fun r w' => r = .returned (.bool true) ∧ Below w.heap.size w w' := by
  have HA := Lib.hid (fun W => awake_any W)
  by_cases hs : (200 : Int) < s.size
  · go_enter Try.func3, Try.ntmps3
    go_wp2_with (go_at_call 7; with_reducible refine (HA.out _).mono ?_; rintro e w1 ⟨rfl, hb⟩; have B1 := Lib.hid hb; clear hb)
    go_ret
    exact ⟨rfl, B1.out⟩
  · have hs2 : s.size ≤ 1000 := by omega
    have H1 := Lib.hid (fun W => bad_any s hs2 W)
    have H2 := Lib.hid (fun W => rbad_any s hs2 W)
    have H3 := Lib.hid (fun W => odd_any' s hs2 W)
    have H4 := Lib.hid (fun W => rodd_any s hs2 W)
    have H5 := Lib.hid (fun W => len_any s hs2 W)
    have H6 := Lib.hid (fun W => rlen_any s hs2 W)
    have H7 := Lib.hid (fun W => upper_any s hs2 W)
    have H8 := Lib.hid (fun W => rupper_any s hs2 W)
    generalize badI s.data.toList 0 = x1 at *
    generalize oddI s.data.toList 0 = x2 at *
    generalize (lenN s.data.toList : Int) = x3 at *
    generalize ByteArray.mk (s.data.toList.map up).toArray = x4 at *
    have t1 : (x1 == x1) = true := by simp
    have t2 : (x2 == x2) = true := by simp
    have t3 : (x3 == x3) = true := by simp
    have t4 : (x4.toList == x4.toList) = true := by simp
    go_enter Try.func3, Try.ntmps3
    go_wp2_with (first
      | (go_at_call 8; with_reducible refine (H1.out _).mono ?_; rintro e w1 ⟨rfl, hb⟩; have B1 := Lib.hid ((Bl.refl w).call hb); clear hb)
      | (go_at_call 9; with_reducible refine (H2.out _).mono ?_; rintro e w' ⟨rfl, rfl⟩)
      | (go_at_call 10; with_reducible refine (H3.out _).mono ?_; rintro e w2 ⟨rfl, hb⟩; have B2 := Lib.hid (B1.out.call hb); clear hb)
      | (go_at_call 11; with_reducible refine (H4.out _).mono ?_; rintro e w' ⟨rfl, rfl⟩)
      | (go_at_call 12; with_reducible refine (H5.out _).mono ?_; rintro e w3 ⟨rfl, hb⟩; have B3 := Lib.hid (B2.out.call hb); clear hb)
      | (go_at_call 13; with_reducible refine (H6.out _).mono ?_; rintro e w' ⟨rfl, rfl⟩)
      | (go_at_call 14; with_reducible refine (H7.out _).mono ?_; rintro e w4 ⟨rfl, hb⟩; have B4 := Lib.hid (B3.out.call hb); clear hb)
      | (go_at_call 15; with_reducible refine (H8.out _).mono ?_; rintro e w5 ⟨rfl, hb⟩; have B5 := Lib.hid (B4.out.call hb); clear hb)
      | (go_at_call 7; with_reducible refine (HA.out _).mono ?_; rintro e w6 ⟨rfl, hb⟩; have B6 := Lib.hid (B5.out.call hb); clear hb))
    go_ret
    exact ⟨rfl, B6.out.below⟩
set_option maxRecDepth 20000 in
theorem walk_cuts (s : ByteArray) (n : Int) (w : World) : Calls Try.prog 4 #[.string s, .int .i64 n] w fun r w' => r = .returned (.bool true) ∧ Below w.heap.size w w' := by
  have HA := Lib.hid (fun W => awake_any W)
  by_cases hs : (200 : Int) < s.size
  · go_enter Try.func4, Try.ntmps4
    go_wp2_with (go_at_call 7; with_reducible refine (HA.out _).mono ?_; rintro e w1 ⟨rfl, hb⟩; have B1 := Lib.hid hb; clear hb)
    go_ret
    exact ⟨rfl, B1.out⟩
  · have hs2 : s.size ≤ 1000 := by omega
    have H1 := Lib.hid (fun W => cut_any s hs2 n W)
    have H2 := Lib.hid (fun W => rcut_any s hs2 n W)
    generalize (cutN n s.data.toList : Int) = x1 at *
    have t1 : (x1 == x1) = true := by simp
    go_enter Try.func4, Try.ntmps4
    go_wp2_with (first
      | (go_at_call 16; with_reducible refine (H1.out _).mono ?_; rintro e w1 ⟨rfl, hb⟩; have B1 := Lib.hid ((Bl.refl w).call hb); clear hb)
      | (go_at_call 17; with_reducible refine (H2.out _).mono ?_; rintro e w' ⟨rfl, rfl⟩)
      | (go_at_call 7; with_reducible refine (HA.out _).mono ?_; rintro e w6 ⟨rfl, hb⟩; have B6 := Lib.hid (B1.out.call hb); clear hb))
    go_ret
    exact ⟨rfl, B6.out.below⟩
end Go.Proofs.Ytbdeenhpbjkmpaa.Utf
