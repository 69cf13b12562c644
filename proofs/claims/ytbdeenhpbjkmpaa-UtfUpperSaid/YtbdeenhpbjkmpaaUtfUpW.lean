/- The walk of UtfUpper. -/
import Derived.Test.YtbdeenhpbjkmpaaUtfPartW
set_option linter.unusedVariables false
namespace Go.Proofs.Ytbdeenhpbjkmpaa.Utf
open Go.RowKit Go.Deep Go.Proofs.Ytbdeenhpbjkmpaa.Byt

/-- A text in capitals, letter by letter. -/
structure Cap (s x : ByteArray) : Prop where
  size : x.size = s.size
  at' : ∀ i, (h : i < s.size) → (h' : i < x.size) → ((x[i]'h').toNat : Int) = if 97 ≤ (s[i]'h).toNat ∧ (s[i]'h).toNat ≤ 122 then ((s[i]'h).toNat : Int) - 32 else (s[i]'h).toNat
theorem cap_any (s : ByteArray) : Cap s ⟨(s.data.toList.map up).toArray⟩ := by
  refine ⟨by rw [size_mk, List.length_map, len_list], fun i h h' => ?_⟩
  rw [← up_byte, ← at_get h']
  show (at_ (s.data.toList.map up) i : Int) = _
  rw [at_up, at_get h, up_nat]
set_option maxRecDepth 20000 in
set_option maxHeartbeats 1000000 in
theorem walk_upper (s : ByteArray) (w : World) : Calls Try.prog 6 #[.string s] w fun r w' => r = .returned (.bool true) ∧ Below w.heap.size w w' := by
  have HA := Lib.hid (fun W => awake_any W)
  by_cases hs : (200 : Int) < s.size
  · go_enter Try.func6, Try.ntmps6
    go_wp2_with (go_at_call 7; with_reducible refine (HA.out _).mono ?_; rintro e w1 ⟨rfl, hb⟩; have B1 := Lib.hid hb; clear hb)
    go_ret
    exact ⟨rfl, B1.out⟩
  · have hs2 : s.size ≤ 1000 := by omega
    have hc := cap_any s
    have hx2 : (ByteArray.mk (s.data.toList.map up).toArray).size ≤ 1000 := by rw [hc.size]; exact hs2
    have H1 := Lib.hid (fun W => upper_any s hs2 W)
    have H2 := Lib.hid (fun W => upper_any _ hx2 W)
    have H3 := Lib.hid (fun W => bad_any _ hx2 W)
    have H4 := Lib.hid (fun W => bad_any s hs2 W)
    have H5 := Lib.hid (fun W => odd_any' _ hx2 W)
    have H6 := Lib.hid (fun W => odd_any' s hs2 W)
    have el : (ByteArray.mk (s.data.toList.map up).toArray).data.toList = s.data.toList.map up := by simp
    rw [el, map_up_up] at H2
    rw [el, badI_up] at H3
    rw [el, oddI_up] at H5
    have hz := hc.size
    have HC := Lib.hid hc
    clear el hc
    generalize ByteArray.mk (s.data.toList.map up).toArray = x at *
    generalize badI s.data.toList 0 = x1 at *
    generalize oddI s.data.toList 0 = x2 at *
    have t0 : ((x.size : Int) != (s.size : Int)) = false := by simp [hz]
    have t1 : (x1 != x1) = false := by simp
    have t2 : (x2 != x2) = false := by simp
    have t3 : (x.toList != x.toList) = false := by simp
    have HZ := Lib.hid hz
    clear hz hx2
    go_enter Try.func6, Try.ntmps6
    go_wp2_with (first
      | (go_at_call 14; with_reducible refine (H1.out _).mono ?_; rintro e w1 ⟨rfl, hb⟩; have B1 := Lib.hid ((Bl.refl w).call hb); clear hb)
      | (go_at_call 14; with_reducible refine (H2.out _).mono ?_; rintro e w2 ⟨rfl, hb⟩; have B2 := Lib.hid (B1.out.call hb); clear hb)
      | (go_at_call 8; with_reducible refine (H3.out _).mono ?_; rintro e w3 ⟨rfl, hb⟩; have B3 := Lib.hid (B2.out.call hb); clear hb)
      | (go_at_call 8; with_reducible refine (H4.out _).mono ?_; rintro e w4 ⟨rfl, hb⟩; have B4 := Lib.hid (B3.out.call hb); clear hb)
      | (go_at_call 10; with_reducible refine (H5.out _).mono ?_; rintro e w5 ⟨rfl, hb⟩; have B5 := Lib.hid (B4.out.call hb); clear hb)
      | (go_at_call 10; with_reducible refine (H6.out _).mono ?_; rintro e w6 ⟨rfl, hb⟩; have B6 := Lib.hid (B5.out.call hb); clear hb))
    go_loopw [4] (fun i wr => ∃ k : Nat, k ≤ s.size ∧ i = .int .i64 k ∧ Hid (Bl w wr)) (fun i _ => s.size - (intOf i).toNat)
    case atStart => exact ⟨0, Nat.zero_le _, rfl, B6⟩
    case round =>
      obtain ⟨k, hk, rfl, hb⟩ := hrel
      by_cases h : k < s.size
      · have hx : k < x.size := by rw [HZ.out]; exact h
        have h' : (k : Int) < s.size := by omega
        have h2' : (k : Int) < x.size := by omega
        have hu := HC.out.at' k h hx
        have b1 := (x[k]'hx).toNat_lt
        have b2 := (s[k]'h).toNat_lt
        have Bq := fun q => Lib.hid (hb.out.drewN q)
        generalize hp : (x[k]'hx).toNat = p at *
        generalize hq : (s[k]'h).toNat = q at *
        by_cases c1 : 97 ≤ q ∧ q ≤ 122
        · rw [if_pos c1] at hu
          obtain ⟨d1, d2⟩ := c1
          have u1 : ((p : Int) != q) = true := by simp; omega
          have u2 : ((p : Int) + 32 != q) = false := by simp; omega
          have v1 : decide ((97 : Int) ≤ p) = false := decide_eq_false (by omega)
          have v2 : decide (97 ≤ p) = false := decide_eq_false (by omega)
          have HU := Lib.hid hu
          have p255 : (p : Int) + 32 ≤ 255 := by omega
          clear hu
          go_wp2_with fail
          go_quiet (fail)
          go_wp2_with fail
          go_roundw
          case rel => exact ⟨k + 1, by omega, by go_num, Bq _⟩
          case measure => simp [intOf]; omega
        · rw [if_neg c1] at hu
          have u1 : ((p : Int) != q) = false := by simp; omega
          by_cases d1 : 97 ≤ q
          · have d2 : 122 < p := by omega
            have v1 : decide ((97 : Int) ≤ p) = true := decide_eq_true (by omega)
            have v2 : decide (97 ≤ p) = true := decide_eq_true (by omega)
            have v3 : decide ((p : Int) ≤ 122) = false := decide_eq_false (by omega)
            have v4 : decide (p ≤ 122) = false := decide_eq_false (by omega)
            clear c1 hu
            go_wp2_with fail
            go_quiet (fail)
            go_wp2_with fail
            go_roundw
            case rel => exact ⟨k + 1, by omega, by go_num, Bq _⟩
            case measure => simp [intOf]; omega
          · have d2 : p < 97 := by omega
            have v1 : decide ((97 : Int) ≤ p) = false := decide_eq_false (by omega)
            have v2 : decide (97 ≤ p) = false := decide_eq_false (by omega)
            clear c1 hu
            go_wp2_with fail
            go_quiet (fail)
            go_wp2_with fail
            go_roundw
            case rel => exact ⟨k + 1, by omega, by go_num, Bq _⟩
            case measure => simp [intOf]; omega
      · obtain rfl : k = s.size := by omega
        go_wp2_with (go_at_call 7; with_reducible refine (HA.out _).mono ?_; rintro e w9 ⟨rfl, hb2⟩; have B9 := Lib.hid (hb.out.call hb2); clear hb2)
        go_ret
        exact ⟨rfl, B9.out.below⟩
end Go.Proofs.Ytbdeenhpbjkmpaa.Utf
