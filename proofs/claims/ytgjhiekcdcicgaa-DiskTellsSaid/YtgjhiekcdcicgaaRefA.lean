/- Contracts of the document's burnt, zeros, Check and Read. -/
import Derived.Test.YtgjhiekcdcicgaaCheck
import Derived.Test.YtgjhiekcdcicgaaRead
import Derived.Test.YtgjhiekcdcicgaaSame
import Derived.Test.YtgjhiekcdcicgaaNew
namespace Go.Proofs.Ytgjhiekcdcicgaa
open Go.RowKit

theorem rburnt_any (f : Int) (w : World) (h1 : -9223372036854775808 ≤ f) (h2 : f ≤ 9223372036854775807) : Calls Try.prog 33 #[.int .i64 f] w fun e w' => e = .returned (.int .i64 (burnt f)) ∧ w = w' := by
  unfold burnt
  by_cases h : 0 < f
  · rw [if_pos h]
    go_enter Try.func33, Try.ntmps33
    go_wp2
    go_ret
    exact ⟨rfl, rfl⟩
  · rw [if_neg h]
    go_enter Try.func33, Try.ntmps33
    go_wp2
    go_ret
    exact ⟨rfl, rfl⟩

theorem zeros_any (w : World) : Calls Try.prog 41 #[] w fun e w' => e = .returned (.string (fillS 0)) ∧ Below w.heap.size w w' := by
  have hmk := make64
  have hcv : (convert 87 9 (.slice (some ⟨w.heap.size, 0, none⟩) 64 64)).run Try.prog (w.alloc (.cells (madeCells #[.int .u8 0] 64) 5)) = .ok (.string (fillS 0)) (w.alloc (.cells (madeCells #[.int .u8 0] 64) 5)) := by
    refine conv64 (v := .int .u8 0) (b := 0) rfl ?_
    have := Blk.new w 5 (madeCells #[.int .u8 0] 64)
    rwa [toList_madeCells_one] at this
  generalize fillS 0 = z at *
  go_enter Try.func41, Try.ntmps41
  go_wp2
  go_ret
  exact ⟨rfl, new1 _ _⟩

theorem rcheck8 (A : Option Addr) (n c : Nat) (A' : Option Addr) (m c' : Nat) (f : Int) (w : World) (h : (n : Int) < 16 ∨ (512 : Int) < n ∨ f < -1) :
    Calls Try.prog 26 #[DV A n c A' m c' f] w fun e w' => e = .returned (.int .i64 8) ∧ Below w.heap.size w w' := by
  by_cases h1 : (n : Int) < 16
  · clear h
    go_enter Try.func26, Try.ntmps26
    go_wp2
    go_ret
    exact ⟨rfl, new1 _ _⟩
  · by_cases h2 : (512 : Int) < n
    · clear h
      go_enter Try.func26, Try.ntmps26
      go_wp2
      go_ret
      exact ⟨rfl, new1 _ _⟩
    · have h3 : f < -1 := by omega
      clear h
      go_enter Try.func26, Try.ntmps26
      go_wp2
      go_ret
      exact ⟨rfl, new1 _ _⟩

set_option maxRecDepth 100000 in
set_option maxHeartbeats 1000000 in
theorem rcheck_in (A : Option Addr) (n c : Nat) (A' : Option Addr) (m c' : Nat) (f : Int) (S : List ByteArray) (W : List Wr) (w : World) (hD : Dev w A n c A' m c' f S W)
    (h1 : 16 ≤ (n : Int)) (h2 : (n : Int) ≤ 512) (h3 : -1 ≤ f) :
    Calls Try.prog 26 #[DV A n c A' m c' f] w fun e w' => e = .returned (.int .i64 (chk S W f)) ∧ Below w.heap.size w w' := by
  have hS := hD.sec.sec
  have hW := hD.wr.wr
  have HC := Lib.hid (show 16 ≤ S.length ∧ S.length ≤ 512 ∧ -1 ≤ f from ⟨by omega, by omega, h3⟩)
  have hm : (m : Int) ≤ 2000 := by have := hD.nw; omega
  have HD0 := Lib.hid hD
  have HD := Lib.hid (hD.new (D25 A n c A' m c' f))
  have HS := Lib.hid hS
  have HW := Lib.hid hW
  clear hD hS hW
  go_enter Try.func26, Try.ntmps26
  go_wp2
  go_loop [3] (fun i => ∃ k : Nat, k ≤ n ∧ i = .int .i64 k ∧ Hid ((S.take k).all (fun s => s.size == 64) = true)) (fun i => n - (intOf i).toNat)
  case atStart => exact ⟨0, Nat.zero_le _, rfl, by simp [Hid]⟩
  case round =>
    obtain ⟨k, hk, rfl, HA⟩ := hrel
    by_cases hlt : k < n
    · have hl : k < S.length := by have := HS.out; omega
      obtain ⟨b, off, rfl, hb, hc⟩ := HD.out.sec.secAt hlt hl
      have HN := Lib.hid (all_take_succ (fun s : ByteArray => s.size == 64) S k hl)
      have HF := Lib.hid (all_false_of (fun s : ByteArray => s.size == 64) S k hl)
      generalize S[k] = s at *
      clear hl
      by_cases hs : s.size = 64
      · have hsb : ((s.size : Int) != 64) = false := by simp; omega
        have HSZ := Lib.hid hs
        clear hs
        go_wp2
        go_round
        case rel => exact ⟨k + 1, by omega, by go_num, by show _ = true; rw [HN.out, HA.out]; simpa using HSZ.out⟩
        case measure => simp [intOf]; omega
      · have hsb : ((s.size : Int) != 64) = true := by simp; omega
        have HE := Lib.hid (chk5 (W := W) HC.out (HF.out (by simpa using hs)))
        clear hs
        go_wp2
        go_ret
        exact ⟨ret_int HE.out.symm, new1 _ _⟩
    · have HSO := Lib.hid (show secOk S = true from all_of_take _ S k (by have := HS.out; omega) HA.out)
      clear HA
      by_cases hm2 : (1024 : Int) < m
      · have HE := Lib.hid (chk20 (W := W) HC.out HSO.out (by have := HW.out; omega))
        go_wp2
        go_ret
        exact ⟨ret_int HE.out.symm, new1 _ _⟩
      · go_wp2
        go_loopw [4] (fun i wr => ∃ j : Nat, j ≤ m ∧ i = .int .i64 j ∧ Hid ((W.take j).all (wrOk S.length) = true) ∧ Below w.heap.size w wr ∧ Box wr w.heap.size (.slice A n c) (.slice A' m c') (.int .i64 f)) (fun i _ => m - (intOf i).toNat)
        case atStart => exact ⟨0, Nat.zero_le _, rfl, by simp [Hid], new1 _ _, Box.new _ _ _ _ _⟩
        case round =>
          obtain ⟨j, hj, rfl, HA, hbel, hbox⟩ := hrel
          have HBel := Lib.hid hbel
          have HBox := Lib.hid hbox
          by_cases hlt2 : j < m
          · have hl : j < W.length := by have := HW.out; omega
            obtain ⟨b, off, rfl, hb, hc0, hc1⟩ := (HD0.out.wr.below hbel).wrAt hlt2 hl
            have HN := Lib.hid (all_take_succ (wrOk S.length) W j hl)
            have HF := Lib.hid (all_false_of (wrOk S.length) W j hl)
            generalize W[j] = x at *
            clear hl
            obtain ⟨p, s⟩ := x
            dsimp only at hc0 hc1
            have i1 : (j : Int) < (m : Int) := by omega
            obtain ⟨c0, c1, c2, f0, f1, f2⟩ := hbox
            clear hbel
            by_cases hp0 : p < 0
            · have HE := Lib.hid (chk2 (W := W) HC.out HSO.out (by have := HW.out; omega) (HF.out (by simp [wrOk]; intro a b; omega)))
              have hd0 : decide (p < 0) = true := by simpa using hp0
              go_wp2_with fail
              go_quiet (fail)
              go_wp2
              go_ret
              exact ⟨ret_int HE.out.symm, below_n HBel.out _⟩
            · have hd0 : decide (p < 0) = false := by simpa using hp0
              by_cases hp1 : (n : Int) ≤ p
              · have HE := Lib.hid (chk2 (W := W) HC.out HSO.out (by have := HW.out; omega) (HF.out (by have := HS.out; simp [wrOk]; intro a b; omega)))
                have hd1 : decide ((n : Int) ≤ p) = true := by simpa using hp1
                go_wp2_with fail
                go_quiet (fail)
                go_wp2
                go_ret
                exact ⟨ret_int HE.out.symm, below_n HBel.out _⟩
              · have hd1 : decide ((n : Int) ≤ p) = false := by simpa using hp1
                by_cases hs : s.size = 64
                · have hsb : ((s.size : Int) != 64) = false := by simp; omega
                  have HX := Lib.hid (show wrOk S.length (p, s) = true from (wrOk_iff _ _).2 ⟨by simp only; omega, by have := HS.out; simp only; omega, hs⟩)
                  clear hs
                  go_wp2_with fail
                  go_quiet (fail)
                  go_wp2
                  go_roundw
                  case rel => exact ⟨j + 1, by omega, by go_num, by show _ = true; rw [HN.out, HA.out, HX.out]; rfl, below_n HBel.out _, HBox.out.below (B := wr.heap.size) (below_n (Below.refl _ _) _) HBox.out.lt⟩
                  case measure => simp [intOf]; omega
                · have hsb : ((s.size : Int) != 64) = true := by simp; omega
                  have HE := Lib.hid (chk2 (W := W) HC.out HSO.out (by have := HW.out; omega) (HF.out (by simp [wrOk, hs])))
                  clear hs
                  go_wp2_with fail
                  go_quiet (fail)
                  go_wp2
                  go_ret
                  exact ⟨ret_int HE.out.symm, below_n HBel.out _⟩
          · have HE := Lib.hid (chk0 (W := W) HC.out HSO.out (by have := HW.out; omega) (all_of_take _ W j (by have := HW.out; omega) HA.out))
            obtain ⟨c0, c1, c2, f0, f1, f2⟩ := hbox
            clear hbel HA
            go_wp2
            go_ret
            exact ⟨ret_int HE.out.symm, HBel.out⟩

theorem rcheck_any (A : Option Addr) (n c : Nat) (A' : Option Addr) (m c' : Nat) (f : Int) (S : List ByteArray) (W : List Wr) (w : World) (hD : Dev w A n c A' m c' f S W) :
    Calls Try.prog 26 #[DV A n c A' m c' f] w fun e w' => e = .returned (.int .i64 (chk S W f)) ∧ Below w.heap.size w w' := by
  have hS := hD.sec.sec
  by_cases h : 16 ≤ S.length ∧ S.length ≤ 512 ∧ -1 ≤ f
  · exact rcheck_in A n c A' m c' f S W w hD (by omega) (by omega) h.2.2
  · rw [chk8 h]
    exact rcheck8 A n c A' m c' f w (by omega)

end Go.Proofs.Ytgjhiekcdcicgaa
