/- The walk of CivilCycle. -/
import Derived.Test.YthkiecgaoidmfaaDoorCivBackW
namespace Go.Proofs.YthkiecgaoidmfaaDoor.Civ
open Go.RowKit

theorem wkA_400 {n : Int} (h0 : 0 ≤ n) (h1 : n + 146097 ≤ 3652058) : wkA (n + 146097) = wkA n := by rw [wkA_of (by omega) h1, wkA_of h0 (by omega)]; omega
theorem last_is {y : Int} (h1 : 1 ≤ y) (h2 : y ≤ 9999) : IsDate (aheadY y + 364 + oneY y) y 12 31 :=
  ⟨h1, h2, by omega, by omega, by omega, Int.le_refl _, by unfold dayN; rw [show cumL (oneY y) 12 = 334 + oneY y from rfl]; omega⟩

set_option maxRecDepth 100000 in
set_option maxHeartbeats 2000000 in
theorem walk_cycle (a m d : Int) (ha0 : 0 ≤ a) (ha1 : a < 65536) (hm0 : 0 ≤ m) (hm1 : m < 256) (hd0 : 0 ≤ d) (hd1 : d < 256) (w : World) (hT : CTab w) :
    Calls Tryd.prog 6 #[.int .u16 a, .int .u8 m, .int .u8 d] w fun r w' => r = .returned (.bool true) ∧ w = w' := by
  have HT := Lib.hid hT
  clear hT
  have et : a.tmod 9599 = a % 9599 := Int.tmod_eq_emod_of_nonneg ha0
  have y1 : 1 ≤ 1 + a % 9599 := by omega
  have y2 : 1 + a % 9599 ≤ 9599 := by omega
  generalize hy : 1 + a % 9599 = y at *
  have HY := Lib.hid hy
  clear hy
  have H1 := Lib.hid (fun W hW => day_any y m d W hW)
  have H2 := Lib.hid (fun W hW => day_any (y + 400) m d W hW)
  have HL := Lib.hid (fun i W hW => len_any y i W hW)
  have H3 := Lib.hid (fun W hW => day_any y 12 31 W hW)
  have H4 := Lib.hid (fun W hW => days_any y W hW)
  have H5 := Lib.hid (fun W => place_any (aheadY y + 364 + oneY y) W)
  have H9 := Lib.hid (fun W hW => awake_any W hW)
  obtain ⟨f1, f2⟩ := dayA_of (last_is y1 (by omega : y ≤ 9999))
  rw [f1, f2] at H3
  rw [daysY_of y1 (by omega)] at H4
  rw [plA_of (last_is y1 (by omega : y ≤ 9999))] at H5
  rw [show aheadY y + 364 + oneY y - aheadY y + 1 = 365 + oneY y by omega] at H5
  clear f1 f2
  have o0 := oneY_lo y
  have o1 := oneY_hi y
  by_cases hD : 1 ≤ d ∧ d ≤ lenM y m
  · have hd := isDate_of hD.1 hD.2
    have h1 := dayA_of hd
    have hd' : IsDate (dayN y m d + 146097) (y + 400) m d := by
      have := isDate_of hD.1 (show d ≤ lenM (y + 400) m by rw [lenM_400 y1 y2]; exact hD.2)
      rwa [dayN_400] at this
    have h2 := dayA_of hd'
    rw [h1.1, h1.2] at H1
    rw [h2.1, h2.2] at H2
    have H6 := Lib.hid (fun W => weekday_any (dayN y m d) W)
    have H7 := Lib.hid (fun W => weekday_any (dayN y m d + 146097) W)
    have n0 := hd.lo
    have n1 := hd'.hi
    rw [wkA_400 n0 n1] at H7
    clear h1 h2 hd hd' hD
    generalize dayN y m d = n at *
    go_enter Tryd.func6, Tryd.ntmps6
    have ey : 1 + a % 9599 = y := HY.out
    go_wp2_with (first | (go_at_call 7; first | (with_reducible refine (H1.out _ HT.out).mono ?_; rintro e w' ⟨rfl, rfl⟩) | (with_reducible refine (H2.out _ HT.out).mono ?_; rintro e w' ⟨rfl, rfl⟩)) | (go_at_call 18; first | (with_reducible refine (H6.out _).mono ?_; rintro e w' ⟨rfl, rfl⟩) | (with_reducible refine (H7.out _).mono ?_; rintro e w' ⟨rfl, rfl⟩)))
    go_loop [12, 13] (fun s i => ∃ k : Int, 1 ≤ k ∧ k ≤ 13 ∧ i = .int .i64 k ∧ s = .int .i64 (cumL (oneY y) k)) (fun _ i => (13 - intOf i).toNat)
    case atStart => exact ⟨1, by omega, by omega, rfl, rfl⟩
    case round =>
      obtain ⟨k, k1, k2, rfl, rfl⟩ := hrel
      by_cases hk : k ≤ 12
      · have HK := Lib.hid (fun W hW => HL.out k W hW)
        rw [lenM_of y1 (by omega) k1 hk] at HK
        have hn := Lib.hid (cumL_next (oneY y) k1 hk)
        have c0 := cumL_lo o0 k1 hk
        have c1 := cumL_hi o1 o0 k1 hk
        have l0 := @monL_lo (oneY y) k o0
        go_wp2_with (go_at_call 13; with_reducible refine (HK.out _ HT.out).mono ?_; rintro e w' ⟨rfl, rfl⟩)
        go_round
        case rel => exact ⟨k + 1, by omega, by omega, rfl, by rw [hn.out]⟩
        case measure => simp [intOf] <;> omega
      · obtain rfl : k = 13 := by omega
        rw [show cumL (oneY y) 13 = 365 + oneY y from rfl]
        go_wp2_with (first | (go_at_call 7; with_reducible refine (H3.out _ HT.out).mono ?_; rintro e w' ⟨rfl, rfl⟩) | (go_at_call 11; with_reducible refine (H4.out _ HT.out).mono ?_; rintro e w' ⟨rfl, rfl⟩) | (go_at_call 20; with_reducible refine (H5.out _).mono ?_; rintro e w' ⟨rfl, rfl⟩) | (go_at_call 15; with_reducible refine (H9.out _ HT.out).mono ?_; rintro e w' ⟨rfl, rfl⟩))
        go_ret
        exact ⟨rfl, rfl⟩
  · have h1 : dayA y m d = 0 ∧ dayE y m d = 8 := by simp [dayA, dayE, isD_not hD]
    have h2 : dayA (y + 400) m d = 0 ∧ dayE (y + 400) m d = 8 := by
      rw [← lenM_400 y1 y2] at hD
      simp [dayA, dayE, isD_not hD]
    rw [h1.1, h1.2] at H1
    rw [h2.1, h2.2] at H2
    clear h1 h2 hD
    go_enter Tryd.func6, Tryd.ntmps6
    have ey : 1 + a % 9599 = y := HY.out
    go_wp2_with (first | (go_at_call 7; first | (with_reducible refine (H1.out _ HT.out).mono ?_; rintro e w' ⟨rfl, rfl⟩) | (with_reducible refine (H2.out _ HT.out).mono ?_; rintro e w' ⟨rfl, rfl⟩)))
    go_loop [12, 13] (fun s i => ∃ k : Int, 1 ≤ k ∧ k ≤ 13 ∧ i = .int .i64 k ∧ s = .int .i64 (cumL (oneY y) k)) (fun _ i => (13 - intOf i).toNat)
    case atStart => exact ⟨1, by omega, by omega, rfl, rfl⟩
    case round =>
      obtain ⟨k, k1, k2, rfl, rfl⟩ := hrel
      by_cases hk : k ≤ 12
      · have HK := Lib.hid (fun W hW => HL.out k W hW)
        rw [lenM_of y1 (by omega) k1 hk] at HK
        have hn := Lib.hid (cumL_next (oneY y) k1 hk)
        have c0 := cumL_lo o0 k1 hk
        have c1 := cumL_hi o1 o0 k1 hk
        have l0 := @monL_lo (oneY y) k o0
        go_wp2_with (go_at_call 13; with_reducible refine (HK.out _ HT.out).mono ?_; rintro e w' ⟨rfl, rfl⟩)
        go_round
        case rel => exact ⟨k + 1, by omega, by omega, rfl, by rw [hn.out]⟩
        case measure => simp [intOf] <;> omega
      · obtain rfl : k = 13 := by omega
        rw [show cumL (oneY y) 13 = 365 + oneY y from rfl]
        go_wp2_with (first | (go_at_call 7; with_reducible refine (H3.out _ HT.out).mono ?_; rintro e w' ⟨rfl, rfl⟩) | (go_at_call 11; with_reducible refine (H4.out _ HT.out).mono ?_; rintro e w' ⟨rfl, rfl⟩) | (go_at_call 20; with_reducible refine (H5.out _).mono ?_; rintro e w' ⟨rfl, rfl⟩) | (go_at_call 15; with_reducible refine (H9.out _ HT.out).mono ?_; rintro e w' ⟨rfl, rfl⟩))
        go_ret
        exact ⟨rfl, rfl⟩
end Go.Proofs.YthkiecgaoidmfaaDoor.Civ
