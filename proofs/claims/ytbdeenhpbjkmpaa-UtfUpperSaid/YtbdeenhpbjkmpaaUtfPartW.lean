/- The walks of UtfParts and UtfUpper. -/
import Derived.Test.YtbdeenhpbjkmpaaUtfAw
import Derived.BigQuiet
import Derived.Deep.QuietTactic
import Derived.Deep.DeepCutAuto
import Derived.RegionTactic
import Derived.Laws.DeepStrings4
set_option linter.unusedVariables false
namespace Go.Proofs.Ytbdeenhpbjkmpaa.Utf
open Go.RowKit Go.Deep Go.Proofs.Ytbdeenhpbjkmpaa.Byt

theorem head_list (s : ByteArray) (k : Nat) : (s.extract 0 k).data.toList = s.data.toList.take k := by simp
set_option maxRecDepth 20000 in
set_option maxHeartbeats 1000000 in
theorem walk_parts (s : ByteArray) (n : Int) (n0 : 0 ≤ n) (n1 : n ≤ 255) (w : World) : Calls Try.prog 5 #[.string s, .int .u8 n] w fun r w' => r = .returned (.bool true) ∧ Below w.heap.size w w' := by
  have HA := Lib.hid (fun W => awake_any W)
  by_cases hs : (200 : Int) < s.size
  · go_enter Try.func5, Try.ntmps5
    go_wp2_with (go_at_call 7; with_reducible refine (HA.out _).mono ?_; rintro e w1 ⟨rfl, hb⟩; have B1 := Lib.hid hb; clear hb)
    go_ret
    exact ⟨rfl, B1.out⟩
  · have hs2 : s.size ≤ 1000 := by omega
    obtain ⟨p1, p2, p3, p4, p5⟩ := parts s.data.toList n
    obtain ⟨q1, q2⟩ := cutN_le s.data.toList n
    have q3 := cutN_near s.data.toList n n0
    rw [len_list] at q1 q3
    have q2' := q2 n0
    have H1 := Lib.hid (fun W => cut_any s hs2 n W)
    generalize hK : cutN n s.data.toList = k at *
    have sa : (s.extract 0 k).size ≤ 1000 := by rw [ByteArray.size_extract]; omega
    have sb : (s.extract k s.size).size ≤ 1000 := by rw [ByteArray.size_extract]; omega
    have H2 := Lib.hid (fun W => len_any (s.extract 0 k) sa W)
    have H3 := Lib.hid (fun W => len_any (s.extract k s.size) sb W)
    have H4 := Lib.hid (fun W => len_any s hs2 W)
    have H5 := Lib.hid (fun W => cut_any (s.extract 0 k) sa n W)
    have H6 := Lib.hid (fun W => cut_any s hs2 k W)
    have H7 := Lib.hid (fun W => bad_any s hs2 W)
    have H8 := Lib.hid (fun W => bad_any (s.extract 0 k) sa W)
    have H9 := Lib.hid (fun W => bad_any (s.extract k s.size) sb W)
    rw [head_list] at H2 H5 H8
    rw [tail_list] at H3 H9
    rw [p2] at H5
    rw [p3] at H6
    have tl : ((lenN (s.data.toList.take k) : Int) + (lenN (s.data.toList.drop k) : Int) != (lenN s.data.toList : Int)) = false := by
      rw [← p1]; simp
    have tl1 := lenN_le (s.data.toList.take k)
    have tl2 := lenN_le (s.data.toList.drop k)
    rw [List.length_take, len_list] at tl1
    rw [List.length_drop, len_list] at tl2
    have tkk : ((k : Int) != k) = false := by simp
    clear hK p1 p2 p3 q2
    generalize lenN (s.data.toList.take k) = la at *
    generalize lenN (s.data.toList.drop k) = lb at *
    generalize lenN s.data.toList = ln at *
    have ek : (s.extract 0 k).size = k := by rw [ByteArray.size_extract]; omega
    generalize badI s.data.toList 0 = x0 at *
    generalize badI (s.data.toList.take k) 0 = xa at *
    generalize badI (s.data.toList.drop k) 0 = xb at *
    have kk : (k : Int) ≤ s.size := by omega
    rcases Classical.em (x0 = -1) with c | c
    · obtain ⟨rfl, rfl⟩ := p4 c
      subst c
      clear p4 p5
      go_enter Try.func5, Try.ntmps5
      go_wp2_with (go_at_call 16; with_reducible refine (H1.out _).mono ?_; rintro e w1 ⟨rfl, hb⟩; have B1 := Lib.hid ((Bl.refl w).call hb); clear hb)
      have Bq := fun q => Lib.hid (B1.out.drewN q)
      go_quiet (fail)
      go_wp2_with (first
        | (go_at_call 12; with_reducible refine (H2.out _).mono ?_; rintro e w2 ⟨rfl, hb⟩; have B2 := Lib.hid ((Bq _).out.call hb); clear hb)
        | (go_at_call 12; with_reducible refine (H3.out _).mono ?_; rintro e w3 ⟨rfl, hb⟩; have B3 := Lib.hid (B2.out.call hb); clear hb)
        | (go_at_call 12; with_reducible refine (H4.out _).mono ?_; rintro e w4 ⟨rfl, hb⟩; have B4 := Lib.hid (B3.out.call hb); clear hb)
        | (go_at_call 16; with_reducible refine (H5.out _).mono ?_; rintro e w5 ⟨rfl, hb⟩; have B5 := Lib.hid (B4.out.call hb); clear hb)
        | (go_at_call 16; with_reducible refine (H6.out _).mono ?_; rintro e w6 ⟨rfl, hb⟩; have B6 := Lib.hid (B5.out.call hb); clear hb)
        | (go_at_call 8; with_reducible refine (H7.out _).mono ?_; rintro e w7 ⟨rfl, hb⟩; have B7 := Lib.hid (B6.out.call hb); clear hb)
        | (go_at_call 8; with_reducible refine (H8.out _).mono ?_; rintro e w8 ⟨rfl, hb⟩; have B8 := Lib.hid (B7.out.call hb); clear hb)
        | (go_at_call 8; with_reducible refine (H9.out _).mono ?_; rintro e w9 ⟨rfl, hb⟩; have B9 := Lib.hid (B8.out.call hb); clear hb)
        | (go_at_call 7; with_reducible refine (HA.out _).mono ?_; rintro e w10 ⟨rfl, hb⟩; have B10 := Lib.hid (B9.out.call hb); clear hb))
      go_ret
      exact ⟨rfl, B10.out.below⟩
    · have c0 : (x0 == -1) = false := by rw [beq_eq_false_iff_ne]; exact c
      rcases Classical.em (xa = -1) with ca | ca
      · have cb : xb ≠ -1 := fun e => c (p5 ca e)
        subst ca
        have t1 : (xb != -1) = true := by simpa using cb
        clear p4 p5 c cb
        go_enter Try.func5, Try.ntmps5
        go_wp2_with (go_at_call 16; with_reducible refine (H1.out _).mono ?_; rintro e w1 ⟨rfl, hb⟩; have B1 := Lib.hid ((Bl.refl w).call hb); clear hb)
        have Bq := fun q => Lib.hid (B1.out.drewN q)
        go_quiet (fail)
        go_wp2_with (first
          | (go_at_call 12; with_reducible refine (H2.out _).mono ?_; rintro e w2 ⟨rfl, hb⟩; have B2 := Lib.hid ((Bq _).out.call hb); clear hb)
          | (go_at_call 12; with_reducible refine (H3.out _).mono ?_; rintro e w3 ⟨rfl, hb⟩; have B3 := Lib.hid (B2.out.call hb); clear hb)
          | (go_at_call 12; with_reducible refine (H4.out _).mono ?_; rintro e w4 ⟨rfl, hb⟩; have B4 := Lib.hid (B3.out.call hb); clear hb)
          | (go_at_call 16; with_reducible refine (H5.out _).mono ?_; rintro e w5 ⟨rfl, hb⟩; have B5 := Lib.hid (B4.out.call hb); clear hb)
          | (go_at_call 16; with_reducible refine (H6.out _).mono ?_; rintro e w6 ⟨rfl, hb⟩; have B6 := Lib.hid (B5.out.call hb); clear hb)
          | (go_at_call 8; with_reducible refine (H7.out _).mono ?_; rintro e w7 ⟨rfl, hb⟩; have B7 := Lib.hid (B6.out.call hb); clear hb)
          | (go_at_call 8; with_reducible refine (H8.out _).mono ?_; rintro e w8 ⟨rfl, hb⟩; have B8 := Lib.hid (B7.out.call hb); clear hb)
          | (go_at_call 8; with_reducible refine (H9.out _).mono ?_; rintro e w9 ⟨rfl, hb⟩; have B9 := Lib.hid (B8.out.call hb); clear hb)
          | (go_at_call 7; with_reducible refine (HA.out _).mono ?_; rintro e w10 ⟨rfl, hb⟩; have B10 := Lib.hid (B9.out.call hb); clear hb))
        go_ret
        exact ⟨rfl, B10.out.below⟩
      · have t1 : (xa != -1) = true := by simpa using ca
        clear p4 p5 c ca
        go_enter Try.func5, Try.ntmps5
        go_wp2_with (go_at_call 16; with_reducible refine (H1.out _).mono ?_; rintro e w1 ⟨rfl, hb⟩; have B1 := Lib.hid ((Bl.refl w).call hb); clear hb)
        have Bq := fun q => Lib.hid (B1.out.drewN q)
        go_quiet (fail)
        go_wp2_with (first
          | (go_at_call 12; with_reducible refine (H2.out _).mono ?_; rintro e w2 ⟨rfl, hb⟩; have B2 := Lib.hid ((Bq _).out.call hb); clear hb)
          | (go_at_call 12; with_reducible refine (H3.out _).mono ?_; rintro e w3 ⟨rfl, hb⟩; have B3 := Lib.hid (B2.out.call hb); clear hb)
          | (go_at_call 12; with_reducible refine (H4.out _).mono ?_; rintro e w4 ⟨rfl, hb⟩; have B4 := Lib.hid (B3.out.call hb); clear hb)
          | (go_at_call 16; with_reducible refine (H5.out _).mono ?_; rintro e w5 ⟨rfl, hb⟩; have B5 := Lib.hid (B4.out.call hb); clear hb)
          | (go_at_call 16; with_reducible refine (H6.out _).mono ?_; rintro e w6 ⟨rfl, hb⟩; have B6 := Lib.hid (B5.out.call hb); clear hb)
          | (go_at_call 8; with_reducible refine (H7.out _).mono ?_; rintro e w7 ⟨rfl, hb⟩; have B7 := Lib.hid (B6.out.call hb); clear hb)
          | (go_at_call 8; with_reducible refine (H8.out _).mono ?_; rintro e w8 ⟨rfl, hb⟩; have B8 := Lib.hid (B7.out.call hb); clear hb)
          | (go_at_call 8; with_reducible refine (H9.out _).mono ?_; rintro e w9 ⟨rfl, hb⟩; have B9 := Lib.hid (B8.out.call hb); clear hb)
          | (go_at_call 7; with_reducible refine (HA.out _).mono ?_; rintro e w10 ⟨rfl, hb⟩; have B10 := Lib.hid (B8.out.call hb); clear hb))
        go_ret
        exact ⟨rfl, B10.out.below⟩
end Go.Proofs.Ytbdeenhpbjkmpaa.Utf
