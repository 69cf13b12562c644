/- The walk of SheafLays. -/
import Derived.Test.YtcloakaenkhgpaaDoorSheafAw
import Derived.Test.YtcloakaenkhgpaaDoorSheafRLay
namespace Go.Proofs.YtcloakaenkhgpaaDoor.Shf
open Go.RowKit Go.Proofs.YtcloakaenkhgpaaDoor.Oct Go.Proofs.YtcloakaenkhgpaaDoor.Crc
open Go.Proofs.YtcloakaenkhgpaaDoor.Dsk (RV SV SV_length)

theorem below_n {B : Nat} {a w : World} (h : Below B a w) (n : Nat) : Below B a (w.drewN n) := h.drewN n

set_option maxHeartbeats 400000 in
theorem same_any (A : Option Addr) (m c : Nat) (B : Option Addr) (m' c' : Nat) (S : List ByteArray) (w : World) (h1 : RV w A m 1 (SV S)) (h2 : RV w B m' 1 (SV S)) (hlen : (S.length : Int) ≤ 1000) :
    Calls Tryd.prog 10 #[.slice A m c, .slice B m' c'] w fun r w' => r = .returned (.bool true) ∧ Below w.heap.size w w' := by
  obtain rfl : m = m' := by have := h1.sec; have := h2.sec; omega
  have hm : (m : Int) ≤ 1000 := by have := h1.sec; omega
  have HS := Lib.hid h1.sec
  have H1 := Lib.hid h1
  have H2 := Lib.hid h2
  clear h1 h2 hlen
  go_enter Tryd.func10, Tryd.ntmps10
  go_wp2_with fail
  go_loopw [5] (fun s5 wr => ∃ j : Nat, j ≤ m ∧ s5 = .int .i64 j ∧ Hid (Below w.heap.size w wr)) (fun s5 _ => m - (intOf s5).toNat)
  case atStart => exact ⟨0, Nat.zero_le _, rfl, Lib.hid (Below.refl _ _)⟩
  case round =>
    obtain ⟨j, hj, rfl, HB⟩ := hrel
    by_cases hlt : j < m
    · have hl : j < S.length := by have := HS.out; omega
      obtain ⟨b, off, rfl, hb, hc⟩ := (H1.out.below HB.out).secAt hlt hl
      obtain ⟨b', off', rfl, hb', hc'⟩ := (H2.out.below HB.out).secAt hlt hl
      generalize S[j] = s at *
      have hq := str_eq s
      have hi : (j : Int) < m := by omega
      clear hl hb hb' HS H1 H2
      go_wp2_with fail
      go_quiet (fail)
      go_wp2
      go_roundw
      case rel => exact ⟨j + 1, by omega, by go_num, Lib.hid (below_n HB.out _)⟩
      case measure => simp [intOf]; omega
    · obtain rfl : j = m := by omega
      go_wp2
      go_ret
      exact ⟨rfl, HB.out⟩

set_option maxHeartbeats 1000000 in
theorem lays_walk (k : Nat) (g n : Int) (t : ByteArray) (z : Int) (w : World) (hk : k < 256) (hT : Tab w) :
    Calls Tryd.prog 3 #[HV k g n, .string t, .int .i64 z] w fun r w' => r = .returned (.bool true) ∧ Below w.heap.size w w' := by
  have HA := Lib.hid awake_any
  have HT := Lib.hid (tab_call hT ((Below.refl _ _).push (.cells #[.int .u8 k, .int .i64 g, .int .i64 n] 23)))
  by_cases hl : (1200 : Int) < t.size
  · have hd : decide ((1200 : Int) < t.size) = true := decide_eq_true hl
    clear hl hT hk
    go_enter Tryd.func3, Tryd.ntmps3
    go_wp2_with fail
    with_reducible refine (HA.out _ HT.out).mono ?_
    rintro r w1 ⟨rfl, b1⟩
    have HB1 := Lib.hid (((Below.refl _ w).push _).call b1)
    clear b1
    go_wp2_with fail
    go_ret
    exact ⟨rfl, HB1.out⟩
  · have hd : decide ((1200 : Int) < t.size) = false := decide_eq_false hl
    have HL := Lib.hid (fun W h => lay_any k g n t W hk h)
    have HR := Lib.hid (fun W => rlay_any k g n t W hk)
    have HC := Lib.hid (fun W => count_any z W)
    have HRC := Lib.hid (fun W => rcount_any z W)
    have HG := Lib.hid (fun W => longest_any z W)
    have HRG := Lib.hid (fun W => rlongest_any z W)
    have HSL : Hid ((layS k g n t).length ≤ (1000 : Int)) := Lib.hid (by
      unfold layS
      by_cases he : errL g n t = 0
      · rw [if_pos he, bodiesT_len]; unfold cntN; omega
      · rw [if_neg he]; simp)
    unfold RetLay at HL HR
    generalize errL g n t = e at *
    generalize layS k g n t = S at *
    clear hl hT hk
    go_enter Tryd.func3, Tryd.ntmps3
    go_wp2_with fail
    with_reducible refine (HL.out _ HT.out).mono ?_
    rintro r w1 ⟨A, m, c, rfl, hR, b1, hc⟩
    have X1 := (Box.new w (.int .u8 k) (.int .i64 g) (.int .i64 n) 23).below b1 (by simp)
    have HB1 := Lib.hid (((Below.refl _ w).push _).call b1)
    have HT1 := Lib.hid (tab_call HT.out b1)
    have HR1 := Lib.hid hR
    clear b1 hR hc HT HL
    obtain ⟨a0, a1, a2, -, -, -⟩ := X1
    go_wp2_with fail
    with_reducible refine (HR.out _).mono ?_
    rintro r w2 ⟨B, m', c', rfl, hR, b2, hc⟩
    have HB2 := Lib.hid (HB1.out.call b2)
    have HT2 := Lib.hid (tab_call HT1.out b2)
    have HS := Lib.hid (same_any A m c B m' c' S w2 (HR1.out.below b2) hR HSL.out)
    clear b2 hR hc HT1 HR HR1 HB1 a0 a1 a2
    go_wp2_with fail
    with_reducible refine HS.out.mono ?_
    rintro r w3 ⟨rfl, b3⟩
    have HB3 := Lib.hid (HB2.out.call b3)
    have HT3 := Lib.hid (tab_call HT2.out b3)
    clear b3 HT2 HB2 HS
    go_wp2_with (first
      | (go_at_call 11; (with_reducible refine (HC.out _).mono ?_); rintro e w' ⟨rfl, rfl⟩)
      | (go_at_call 12; (with_reducible refine (HRC.out _).mono ?_); rintro e w' ⟨rfl, rfl⟩)
      | (go_at_call 13; (with_reducible refine (HG.out _).mono ?_); rintro e w' ⟨rfl, rfl⟩)
      | (go_at_call 14; (with_reducible refine (HRG.out _).mono ?_); rintro e w' ⟨rfl, rfl⟩)
      | (go_at_call 7; (with_reducible refine (HA.out _ HT3.out).mono ?_); rintro e w4 ⟨rfl, b4⟩; have HB4 := Lib.hid (HB3.out.call b4)))
    go_ret
    exact ⟨rfl, HB4.out⟩

end Go.Proofs.YtcloakaenkhgpaaDoor.Shf
