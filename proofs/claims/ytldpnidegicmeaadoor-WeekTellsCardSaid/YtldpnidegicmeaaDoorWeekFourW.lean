/- The walk of WeekFour. -/
import Derived.Test.YtldpnidegicmeaaDoorWeekGoesW
namespace Go.Proofs.YtldpnidegicmeaaDoor.Wk
open Go.RowKit Civ

theorem yOf_eq {n y : Int} (h1 : aheadY y ≤ n) (h2 : n < aheadY (y + 1)) : yOf n = y := (IsYear.eq (show IsYear n y from ⟨h1, h2⟩)).symm
theorem first_day {y : Int} (h1 : 1 ≤ y) (h2 : y ≤ 9999) : dayA y 1 1 = aheadY y ∧ dayE y 1 1 = 0 := by
  have h : isD y 1 1 = true := isD_of ⟨by omega, by rw [lenM_of h1 h2 (by omega) (by omega)]; simp [monL]⟩
  simp only [dayA, dayE, h, if_true, dayN, cumL_one, and_true]
  omega
/-- The fourth of January is of the first week. -/
theorem wk_first (y w : Int) : Wk (aheadY y + 3) w y 1 (fstW y w) := by
  have h1 := fstW_le y w; have h2 := fstW_ge y w; have hm := fstW_mod y w
  have k := fstW_next y w
  have hb := begW_ge (aheadY y + 3) w
  have := wk_of (n := aheadY y + 3) (w := w) (y := y) ⟨by omega, by omega⟩ hm (by omega) (by unfold fstW; omega)
  rwa [show (fstW y w - fstW y w) / 7 + 1 = 1 by omega] at this
/-- The 28th of December is of the last one. -/
theorem wk_last (y w : Int) : Wk (aheadY y + (365 + oneY y) - 4) w y (wksW y w) (fstW (y + 1) w - 7) := by
  have hn := aheadY_next y
  have h1 := fstW_le (y + 1) w; have h2 := fstW_ge (y + 1) w; have hm := fstW_mod (y + 1) w
  have k1 := fstW_le y w
  have k := wksW_is y w
  have o := oneY_lo y
  have := wk_of (n := aheadY y + (365 + oneY y) - 4) (w := w) (y := y) ⟨by omega, by omega⟩ (b := fstW (y + 1) w - 7) (by omega) (by omega) (by omega)
  rwa [show (fstW (y + 1) w - 7 - fstW y w) / 7 + 1 = wksW y w by omega] at this

set_option maxRecDepth 100000 in
set_option maxHeartbeats 2000000 in
theorem walk_four (yr a at' : Int) (hk0 : 0 ≤ yr) (hk1 : yr < 65536) (ha0 : 0 ≤ a) (hat : 0 ≤ at') (hat1 : at' < 65536) (w : World) (hT : CTab w) :
    Calls Tryd.prog 6 #[.int .u16 yr, .int .u8 a, .int .u16 at'] w fun r w' => r = .returned (.bool true) ∧ w = w' := by
  have HT := Lib.hid hT
  clear hT
  have et : yr.tmod 9997 = yr % 9997 := Int.tmod_eq_emod_of_nonneg hk0
  have eu : a.tmod 7 = a % 7 := Int.tmod_eq_emod_of_nonneg ha0
  have y1 : 2 ≤ 2 + yr % 9997 := by omega
  have y2 : 2 + yr % 9997 ≤ 9998 := by omega
  have x0 : 0 ≤ a % 7 := by omega
  have x1 : a % 7 ≤ 6 := by omega
  generalize hy : 2 + yr % 9997 = y at *
  generalize hx : a % 7 = x at *
  have HY := Lib.hid hy
  have HX := Lib.hid hx
  clear hy hx
  have hw : wkB x = true := wkB_of ⟨x0, x1⟩
  have o0 := oneY_lo y
  have o1 := oneY_hi y
  have ev : at'.tmod (365 + oneY y) = at' % (365 + oneY y) := Int.tmod_eq_emod_of_nonneg hat
  have r0 : 0 ≤ at' % (365 + oneY y) := Int.emod_nonneg _ (by omega)
  have r1 : at' % (365 + oneY y) < 365 + oneY y := Int.emod_lt_of_pos _ (by omega)
  have a0 := aheadY_mono (y := 2) (z := y) y1
  rw [show aheadY 2 = 365 by decide] at a0
  have a1 := aheadY_mono (y := y + 1) (z := 9999) (by omega)
  rw [show aheadY 9999 = 3651694 by decide] at a1
  have an := aheadY_next y
  have H1 := Lib.hid (fun W hW => day_any y 1 1 W hW)
  obtain ⟨e1, e2⟩ := first_day (y := y) (by omega) (by omega)
  rw [e1, e2] at H1
  have H2 := Lib.hid (fun W hW => days_any y W hW)
  rw [daysY_of (by omega) (by omega)] at H2
  have H4 := Lib.hid (fun W hW => number_any (aheadY y + 3) x W hW)
  obtain ⟨f1, f2, -, -⟩ := (wk_first y x).ans (dayB_of ⟨by omega, by omega⟩) hw
  rw [f1, f2] at H4
  have H5 := Lib.hid (fun W hW => number_any (aheadY y + (365 + oneY y) - 4) x W hW)
  obtain ⟨g1, g2, -, -⟩ := (wk_last y x).ans (dayB_of ⟨by omega, by omega⟩) hw
  rw [g1, g2] at H5
  have H6 := Lib.hid (fun W hW => weeks_any y x W hW)
  rw [wksA_of (by omega) (by omega) hw] at H6
  obtain ⟨-, q1, q2⟩ := wksW_is y x
  have H9 := Lib.hid (fun W hW => awake_any W hW)
  clear e1 e2 f1 f2 g1 g2
  rw [an] at a1
  clear an
  generalize hr : at' % (365 + oneY y) = r at *
  have HR := Lib.hid hr
  clear hr
  have hd : dayB (aheadY y + r) = true := dayB_of ⟨by omega, by omega⟩
  have hwk := wk_is (aheadY y + r) x
  have hfour := wk_four hwk.yr
  have b1 := begW_le (aheadY y + r) x
  have b2 := begW_ge (aheadY y + r) x
  obtain ⟨c1, c2, -, c4⟩ := hwk.ans hd hw
  have H3 := Lib.hid (fun W hW => number_any (aheadY y + r) x W hW)
  rw [c1, c2] at H3
  have H7 := Lib.hid (fun W => beg_any (aheadY y + r) x W)
  rw [c4] at H7
  clear c1 c2 c4 hwk hd hw
  generalize begW (aheadY y + r) x = b at *
  generalize wyOf (aheadY y + r) x = z at *
  generalize wkOf (aheadY y + r) x = zk at *
  have HD : Hid (∀ i : Int, 0 ≤ i → i ≤ 6 → ∀ W, CTab W → Calls Tryd.prog 21 #[.int .i64 (b + i)] W fun r w' => r = .returned (.tuple #[.int .i64 (yOf (b + i)), .int .i64 (mOf (b + i)), .int .i64 (dOf (b + i)), .int .i64 0]) ∧ W = w') := Lib.hid (fun i i0 i1 W hW => by
    have h := date_any (b + i) W hW
    obtain ⟨d1, d2, d3, d4⟩ := date_of (n := b + i) (dayB_of ⟨by omega, by omega⟩)
    rwa [d1, d2, d3, d4] at h)
  have HF : Hid (∀ i : Int, 0 ≤ i → i ≤ 6 → ∀ c : Int, (4 ≤ c ∨ (aheadY z ≤ b ∧ i ≤ c) ∨ (b < aheadY z ∧ i - 3 ≤ c)) → 0 ≤ c →
      (yOf (b + i) = z → (4 ≤ c + 1 ∨ (aheadY z ≤ b ∧ i + 1 ≤ c + 1) ∨ (b < aheadY z ∧ i + 1 - 3 ≤ c + 1))) ∧ (¬ yOf (b + i) = z → (4 ≤ c ∨ (aheadY z ≤ b ∧ i + 1 ≤ c) ∨ (b < aheadY z ∧ i + 1 - 3 ≤ c)))) := Lib.hid (by
    intro i i0 i1 c hc c0
    refine ⟨fun _ => by omega, fun hne => ?_⟩
    have hno : ¬ (aheadY z ≤ b + i ∧ b + i < aheadY (z + 1)) := fun h => hne (yOf_eq h.1 h.2)
    omega)
  have HE : Hid (∀ c : Int, (4 ≤ c ∨ (aheadY z ≤ b ∧ 7 ≤ c) ∨ (b < aheadY z ∧ 7 - 3 ≤ c)) → 4 ≤ c) := Lib.hid (fun c h => by omega)
  have HS : Hid (4 ≤ (0 : Int) ∨ (aheadY z ≤ b ∧ (0 : Int) ≤ 0) ∨ (b < aheadY z ∧ (0 : Int) - 3 ≤ 0)) := Lib.hid (by omega)
  clear hfour
  generalize oneY y = o at *
  generalize aheadY y = A at *
  generalize wksW y x = q at *
  go_enter Tryd.func6, Tryd.ntmps6
  have ey : 2 + yr % 9997 = y := HY.out
  have ex : a % 7 = x := HX.out
  have er : at' % (365 + o) = r := HR.out
  go_wp2_with (first | (go_at_call 19; with_reducible refine (H1.out _ HT.out).mono ?_; rintro e w' ⟨rfl, rfl⟩) | (go_at_call 20; with_reducible refine (H2.out _ HT.out).mono ?_; rintro e w' ⟨rfl, rfl⟩) | (go_at_call 7; with_reducible refine (H3.out _ HT.out).mono ?_; rintro e w' ⟨rfl, rfl⟩))
  go_loop [14, 15] (fun s t => ∃ c i : Int, 0 ≤ c ∧ c ≤ i ∧ i ≤ 7 ∧ Hid (4 ≤ c ∨ (aheadY z ≤ b ∧ i ≤ c) ∨ (b < aheadY z ∧ i - 3 ≤ c)) ∧ s = .int .i64 c ∧ t = .int .i64 i) (fun _ t => (7 - intOf t).toNat)
  case atStart => exact ⟨0, 0, by omega, by omega, by omega, HS, rfl, rfl⟩
  case round =>
    obtain ⟨c, i, c0, ci, i7, hP, rfl, rfl⟩ := hrel
    by_cases hi : i < 7
    · have HDi := Lib.hid (HD.out i (by omega) (by omega))
      obtain ⟨p1, p2⟩ := HF.out i (by omega) (by omega) c hP.out c0
      by_cases hz : yOf (b + i) = z
      · have hQ := Lib.hid (p1 hz)
        rw [hz] at HDi
        clear hz p1 p2
        go_wp2_with (first | (go_at_call 9; with_reducible refine (H7.out _).mono ?_; rintro e w' ⟨rfl, rfl⟩) | (go_at_call 21; with_reducible refine (HDi.out _ HT.out).mono ?_; rintro e w' ⟨rfl, rfl⟩))
        go_round
        case rel => exact ⟨c + 1, i + 1, by omega, by omega, by omega, hQ, rfl, rfl⟩
        case measure => simp [intOf]; omega
      · have hQ := Lib.hid (p2 hz)
        have hz' : (yOf (b + i) == z) = false := by simpa using hz
        clear hz p1 p2
        generalize yOf (b + i) = d at *
        go_wp2_with (first | (go_at_call 9; with_reducible refine (H7.out _).mono ?_; rintro e w' ⟨rfl, rfl⟩) | (go_at_call 21; with_reducible refine (HDi.out _ HT.out).mono ?_; rintro e w' ⟨rfl, rfl⟩))
        go_round
        case rel => exact ⟨c, i + 1, by omega, by omega, by omega, hQ, rfl, rfl⟩
        case measure => simp [intOf]; omega
    · obtain rfl : i = 7 := by omega
      have c4 : 4 ≤ c := HE.out c hP.out
      go_wp2_with (first | (go_at_call 7; first | (with_reducible refine (H4.out _ HT.out).mono ?_; rintro e w' ⟨rfl, rfl⟩) | (with_reducible refine (H5.out _ HT.out).mono ?_; rintro e w' ⟨rfl, rfl⟩)) | (go_at_call 20; with_reducible refine (H2.out _ HT.out).mono ?_; rintro e w' ⟨rfl, rfl⟩) | (go_at_call 16; with_reducible refine (H6.out _ HT.out).mono ?_; rintro e w' ⟨rfl, rfl⟩) | (go_at_call 13; with_reducible refine (H9.out _ HT.out).mono ?_; rintro e w' ⟨rfl, rfl⟩))
      go_ret
      exact ⟨rfl, rfl⟩
end Go.Proofs.YtldpnidegicmeaaDoor.Wk
