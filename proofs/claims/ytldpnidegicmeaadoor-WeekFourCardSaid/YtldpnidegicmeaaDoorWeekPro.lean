/- Contracts of package week: where weeks begin, and their numbers, as the plain functions say, where civil's table of constants reads as it is laid. -/
import Derived.Test.YtldpnidegicmeaaDoorCivPro
import Derived.Test.YtldpnidegicmeaaDoorWeekRef
namespace Go.Proofs.YtldpnidegicmeaaDoor.Wk
open Go.RowKit Civ

theorem isw_any (x : Int) (w : World) :
    Calls Tryd.prog 22 #[.int .i64 x] w fun r w' => r = .returned (.bool (wkB x)) ∧ w = w' := by
  by_cases h : 0 ≤ x ∧ x ≤ 6
  · obtain ⟨h1, h2⟩ := h
    rw [wkB_of ⟨h1, h2⟩]
    have h3 : decide (x < 7) = true := by simp; omega
    go_enter Tryd.func22, Tryd.ntmps22
    go_wp2
    go_ret
    exact ⟨rfl, rfl⟩
  · rw [wkB_not h]
    by_cases h1 : x < 0
    · go_enter Tryd.func22, Tryd.ntmps22
      go_wp2
      go_ret
      exact ⟨rfl, rfl⟩
    · have h2 : decide (x < 7) = false := by simp; omega
      go_enter Tryd.func22, Tryd.ntmps22
      go_wp2
      go_ret
      exact ⟨rfl, rfl⟩

theorem beg_any (n x : Int) (w : World) :
    Calls Tryd.prog 9 #[.int .i64 n, .int .i64 x] w fun r w' => r = .returned (.int .i64 (begA n x)) ∧ w = w' := by
  have HI := Lib.hid (fun W => isw_any x W)
  have HK := Lib.hid (fun W => weekday_any n W)
  rcases e : wkB x with _ | _
  · rw [begA_wk e]
    rw [e] at HI
    clear e
    go_enter Tryd.func9, Tryd.ntmps9
    go_wp2_with (go_at_call 22; with_reducible refine (HI.out _).mono ?_; rintro e w' ⟨rfl, rfl⟩)
    go_ret
    exact ⟨rfl, rfl⟩
  · obtain ⟨x1, x2⟩ := wkB_yes e
    rcases d : dayB n with _ | _
    · rw [begA_day d]
      rw [show wkA n = -1 by simp [wkA, d]] at HK
      rw [e] at HI
      clear d e
      go_enter Tryd.func9, Tryd.ntmps9
      go_wp2_with (first | (go_at_call 22; with_reducible refine (HI.out _).mono ?_; rintro e w' ⟨rfl, rfl⟩) | (go_at_call 18; with_reducible refine (HK.out _).mono ?_; rintro e w' ⟨rfl, rfl⟩))
      go_loop [12] (fun v => ∃ k : Int, 0 ≤ k ∧ k ≤ 7 ∧ v = .int .i64 k) (fun v => (7 - intOf v).toNat)
      case atStart => exact ⟨0, by omega, by omega, rfl⟩
      case round =>
        obtain ⟨k, k1, k2, rfl⟩ := hrel
        by_cases hk : k < 7
        · have em : (x + k).tmod 7 = (x + k) % 7 := Int.tmod_eq_emod_of_nonneg (by omega)
          have c : ((x + k) % 7 == -1) = false := by simp; omega
          go_wp2_with fail
          go_round
          case rel => exact ⟨k + 1, by omega, by omega, rfl⟩
          case measure => simp [intOf]; omega
        · obtain rfl : k = 7 := by omega
          go_wp2_with fail
          go_ret
          exact ⟨rfl, rfl⟩
    · rw [begA_of d e]
      obtain ⟨h0, h1⟩ := dayB_yes d
      rw [show wkA n = n % 7 by simp [wkA, d]] at HK
      rw [e] at HI
      clear d e
      go_enter Tryd.func9, Tryd.ntmps9
      go_wp2_with (first | (go_at_call 22; with_reducible refine (HI.out _).mono ?_; rintro e w' ⟨rfl, rfl⟩) | (go_at_call 18; with_reducible refine (HK.out _).mono ?_; rintro e w' ⟨rfl, rfl⟩))
      go_loop [12] (fun v => ∃ k : Int, 0 ≤ k ∧ k ≤ (n - x) % 7 ∧ v = .int .i64 k) (fun v => (7 - intOf v).toNat)
      case atStart => exact ⟨0, by omega, by omega, rfl⟩
      case round =>
        obtain ⟨k, k1, k2, rfl⟩ := hrel
        have hk : k < 7 := by omega
        have em : (x + k).tmod 7 = (x + k) % 7 := Int.tmod_eq_emod_of_nonneg (by omega)
        by_cases c : (x + k) % 7 = n % 7
        · have c' : ((x + k) % 7 == n % 7) = true := by simp [c]
          have eb := Lib.hid (begW_one (n := n) (w := x) (b := n - k) (by omega) (by omega) (by omega))
          clear c k2
          go_wp2_with fail
          go_ret
          refine ⟨?_, rfl⟩
          rw [eb.out]; rfl
        · have c' : ((x + k) % 7 == n % 7) = false := by simp [c]
          have k3 : k + 1 ≤ (n - x) % 7 := by omega
          clear c k2
          go_wp2_with fail
          go_round
          case rel => exact ⟨k + 1, by omega, k3, rfl⟩
          case measure => simp [intOf]; omega

theorem jan_in {y : Int} (h1 : 1 ≤ y) (h2 : y ≤ 9999) : dayB (aheadY y + 3) = true := by
  have := aheadY_lo h1; have := aheadY_hi (y := y + 1) (by omega)
  have := aheadY_next y; have := oneY_lo y
  exact dayB_of ⟨by omega, by omega⟩
theorem fstA_jan {y x : Int} (h1 : 1 ≤ y) (h2 : y ≤ 9999) (hx : wkB x = true) : begA (aheadY y + 3) x = fstW y x := by
  rw [begA_of (jan_in h1 h2) hx]; rfl

theorem first_week (y x : Int) (w : World) (hT : CTab w) :
    Calls Tryd.prog 14 #[.int .i64 y, .int .i64 x] w fun r w' => r = .returned (.int .i64 (fstA y x)) ∧ w = w' := by
  have HT := Lib.hid hT
  clear hT
  have HI := Lib.hid (fun W => isw_any x W)
  rcases e : wkB x with _ | _
  · rw [fstA_wk e]
    rw [e] at HI
    clear e
    go_enter Tryd.func14, Tryd.ntmps14
    go_wp2_with (go_at_call 22; with_reducible refine (HI.out _).mono ?_; rintro e w' ⟨rfl, rfl⟩)
    all_goals (go_ret; exact ⟨rfl, rfl⟩)
  · by_cases d : 0 ≤ y ∧ y ≤ 10001
    · obtain ⟨h0, h1⟩ := d
      rw [fstA_of h0 h1 e]
      by_cases c0 : y < 1
      · obtain rfl : y = 0 := by omega
        obtain ⟨j1, j2⟩ := jan_day (y := 400) (by omega) (by omega)
        have HD := Lib.hid (fun W hW => day_any 400 1 4 W hW)
        rw [j1, j2] at HD
        have HB := Lib.hid (fun W => beg_any (aheadY 400 + 3) x W)
        rw [fstA_jan (by omega) (by omega) e] at HB
        have a0 := fstW_lo (y := 400) x (by omega)
        have a1 := fstW_hi (y := 400) x (by omega)
        rw [show fstW 0 x = fstW 400 x + -146097 by have := fstW_400 0 x; rw [show (0 : Int) + 400 = 400 from rfl] at this; omega]
        rw [e] at HI
        clear e j1 j2
        generalize fstW 400 x = f at *
        generalize aheadY 400 + 3 = j at *
        go_enter Tryd.func14, Tryd.ntmps14
        go_wp2_with (first | (go_at_call 22; with_reducible refine (HI.out _).mono ?_; rintro e w' ⟨rfl, rfl⟩) | (go_at_call 19; with_reducible refine (HD.out _ HT.out).mono ?_; rintro e w' ⟨rfl, rfl⟩) | (go_at_call 9; with_reducible refine (HB.out _).mono ?_; rintro e w' ⟨rfl, rfl⟩))
        go_ret
        exact ⟨rfl, rfl⟩
      · by_cases c1 : y ≤ 9999
        · obtain ⟨j1, j2⟩ := jan_day (y := y) (by omega) c1
          have HD := Lib.hid (fun W hW => day_any y 1 4 W hW)
          rw [j1, j2] at HD
          have HB := Lib.hid (fun W => beg_any (aheadY y + 3) x W)
          rw [fstA_jan (by omega) c1 e] at HB
          have a0 := fstW_lo (y := y) x (by omega)
          have a1 := fstW_hi (y := y) x (by omega)
          rw [e] at HI
          clear e j1 j2
          generalize fstW y x = f at *
          generalize aheadY y + 3 = j at *
          go_enter Tryd.func14, Tryd.ntmps14
          go_wp2_with (first | (go_at_call 22; with_reducible refine (HI.out _).mono ?_; rintro e w' ⟨rfl, rfl⟩) | (go_at_call 19; with_reducible refine (HD.out _ HT.out).mono ?_; rintro e w' ⟨rfl, rfl⟩) | (go_at_call 9; with_reducible refine (HB.out _).mono ?_; rintro e w' ⟨rfl, rfl⟩))
          go_ret
          exact ⟨by first | rfl | (rw [Int.add_zero]; rfl), rfl⟩
        · obtain ⟨j1, j2⟩ := jan_day (y := y - 400) (by omega) (by omega)
          have HD := Lib.hid (fun W hW => day_any (y - 400) 1 4 W hW)
          rw [j1, j2] at HD
          have HB := Lib.hid (fun W => beg_any (aheadY (y - 400) + 3) x W)
          rw [fstA_jan (by omega) (by omega) e] at HB
          have a0 := fstW_lo (y := y - 400) x (by omega)
          have a1 := fstW_hi (y := y - 400) x (by omega)
          rw [show fstW y x = fstW (y - 400) x + 146097 by have := fstW_400 (y - 400) x; rw [show y - 400 + 400 = y by omega] at this; omega]
          rw [e] at HI
          clear e j1 j2
          generalize fstW (y - 400) x = f at *
          generalize aheadY (y - 400) + 3 = j at *
          go_enter Tryd.func14, Tryd.ntmps14
          go_wp2_with (first | (go_at_call 22; with_reducible refine (HI.out _).mono ?_; rintro e w' ⟨rfl, rfl⟩) | (go_at_call 19; with_reducible refine (HD.out _ HT.out).mono ?_; rintro e w' ⟨rfl, rfl⟩) | (go_at_call 9; with_reducible refine (HB.out _).mono ?_; rintro e w' ⟨rfl, rfl⟩))
          go_ret
          exact ⟨rfl, rfl⟩
    · rw [fstA_no d]
      rw [e] at HI
      clear e
      by_cases h0 : y < 0
      · go_enter Tryd.func14, Tryd.ntmps14
        go_wp2_with (go_at_call 22; with_reducible refine (HI.out _).mono ?_; rintro e w' ⟨rfl, rfl⟩)
        go_ret
        exact ⟨rfl, rfl⟩
      · have h1 : 10001 < y := by omega
        clear d
        go_enter Tryd.func14, Tryd.ntmps14
        go_wp2_with (go_at_call 22; with_reducible refine (HI.out _).mono ?_; rintro e w' ⟨rfl, rfl⟩)
        go_ret
        exact ⟨rfl, rfl⟩

theorem weeks_any (y x : Int) (w : World) (hT : CTab w) :
    Calls Tryd.prog 16 #[.int .i64 y, .int .i64 x] w fun r w' => r = .returned (.int .i64 (wksA y x)) ∧ w = w' := by
  have HT := Lib.hid hT
  clear hT
  by_cases d : 0 ≤ y ∧ y ≤ 10000
  · obtain ⟨h0, h1⟩ := d
    have HF := Lib.hid (fun W hW => first_week y x W hW)
    have HG := Lib.hid (fun W hW => first_week (y + 1) x W hW)
    rcases e : wkB x with _ | _
    · rw [wksA_wk e]
      rw [fstA_wk e] at HF HG
      clear e
      go_enter Tryd.func16, Tryd.ntmps16
      go_wp2_with (go_at_call 14; first | (with_reducible refine (HG.out _ HT.out).mono ?_; rintro e w' ⟨rfl, rfl⟩) | (with_reducible refine (HF.out _ HT.out).mono ?_; rintro e w' ⟨rfl, rfl⟩))
      go_ret
      exact ⟨rfl, rfl⟩
    · rw [wksA_of h0 h1 e]
      rw [fstA_of h0 (by omega) e] at HF
      rw [fstA_of (by omega) (by omega) e] at HG
      have f0 := fstW_lo x h0
      have f1 := fstW_hi (y := y + 1) x (by omega)
      have f2 : fstW y x ≤ fstW (y + 1) x := by have := fstW_mono x (show y < y + 1 by omega); omega
      have ed : (fstW (y + 1) x - fstW y x).tdiv 7 = wksW y x := by unfold wksW; exact Int.tdiv_eq_ediv_of_nonneg (by omega)
      obtain ⟨-, q1, q2⟩ := wksW_is y x
      clear e
      generalize wksW y x = q at *
      generalize fstW (y + 1) x = b at *
      generalize fstW y x = a at *
      go_enter Tryd.func16, Tryd.ntmps16
      go_wp2_with (go_at_call 14; first | (with_reducible refine (HG.out _ HT.out).mono ?_; rintro e w' ⟨rfl, rfl⟩) | (with_reducible refine (HF.out _ HT.out).mono ?_; rintro e w' ⟨rfl, rfl⟩))
      go_ret
      exact ⟨rfl, rfl⟩
  · rw [wksA_no d]
    by_cases h0 : y < 0
    · go_enter Tryd.func16, Tryd.ntmps16
      go_wp2_with fail
      go_ret
      exact ⟨rfl, rfl⟩
    · have h1 : 10000 < y := by omega
      clear d
      go_enter Tryd.func16, Tryd.ntmps16
      go_wp2_with fail
      go_ret
      exact ⟨rfl, rfl⟩

theorem date_not {n : Int} (h : dayB n = false) : dateY n = 0 ∧ dateM n = 0 ∧ dateD n = 0 ∧ dateE n = 8 := by
  simp [dateY, dateM, dateD, dateE, h]

theorem number_any (n x : Int) (w : World) (hT : CTab w) :
    Calls Tryd.prog 7 #[.int .i64 n, .int .i64 x] w fun r w' => r = .returned (.tuple #[.int .i64 (numY n x), .int .i64 (numK n x)]) ∧ w = w' := by
  have HT := Lib.hid hT
  clear hT
  have HI := Lib.hid (fun W => isw_any x W)
  have HD := Lib.hid (fun W hW => date_any n W hW)
  rcases d : dayB n with _ | _
  · obtain ⟨n1, n2, -⟩ := num_no (n := n) (w := x) (by rw [d]; simp)
    rw [n1, n2]
    obtain ⟨d1, d2, d3, d4⟩ := date_not d
    rw [d1, d2, d3, d4] at HD
    clear d1 d2 d3 d4 d n1 n2
    go_enter Tryd.func7, Tryd.ntmps7
    go_wp2_with (first | (go_at_call 22; with_reducible refine (HI.out _).mono ?_; rintro e w' ⟨rfl, rfl⟩) | (go_at_call 21; with_reducible refine (HD.out _ HT.out).mono ?_; rintro e w' ⟨rfl, rfl⟩))
    go_ret2
    exact ⟨rfl, rfl⟩
  · obtain ⟨d1, d2, d3, d4⟩ := date_of d
    rw [d1, d2, d3, d4] at HD
    clear d1 d2 d3 d4
    rcases e : wkB x with _ | _
    · obtain ⟨n1, n2, -⟩ := num_no (n := n) (w := x) (by rw [e]; simp)
      rw [n1, n2]
      rw [e] at HI
      clear d e n1 n2
      go_enter Tryd.func7, Tryd.ntmps7
      go_wp2_with (first | (go_at_call 22; with_reducible refine (HI.out _).mono ?_; rintro e w' ⟨rfl, rfl⟩) | (go_at_call 21; with_reducible refine (HD.out _ HT.out).mono ?_; rintro e w' ⟨rfl, rfl⟩))
      go_ret2
      exact ⟨rfl, rfl⟩
    · obtain ⟨n1, n2, -⟩ := num_of d e
      rw [n1, n2]
      clear n1 n2
      obtain ⟨h0, h1⟩ := dayB_yes d
      obtain ⟨y1, y2⟩ := (yOf_is n).may h0 h1
      have HF := Lib.hid (fun W hW => first_week (yOf n) x W hW)
      have HG := Lib.hid (fun W hW => first_week (yOf n + 1) x W hW)
      have HP := Lib.hid (fun W hW => first_week (yOf n - 1) x W hW)
      rw [fstA_of (by omega) (by omega) e] at HF
      rw [fstA_of (by omega) (by omega) e] at HG
      rw [fstA_of (by omega) (by omega) e] at HP
      have b0 := fstW_lo x (show 0 ≤ yOf n by omega)
      have b1 := fstW_hi x (show yOf n ≤ 10001 by omega)
      have c0 := fstW_lo x (show 0 ≤ yOf n + 1 by omega)
      have c1 := fstW_hi x (show yOf n + 1 ≤ 10001 by omega)
      have a0 := fstW_lo x (show 0 ≤ yOf n - 1 by omega)
      have a1 := fstW_hi x (show yOf n - 1 ≤ 10001 by omega)
      have hw := wyOf_is n x
      unfold IsWY at hw
      rw [e] at HI
      clear e d
      unfold wkOf
      unfold wyOf at hw ⊢
      generalize yOf n = y at *
      generalize mOf n = m at *
      generalize dOf n = dd at *
      by_cases k1 : n < fstW y x
      · rw [if_pos k1] at hw ⊢
        have ed : (n - fstW (y - 1) x).tdiv 7 = (n - fstW (y - 1) x) / 7 := Int.tdiv_eq_ediv_of_nonneg (by omega)
        obtain ⟨hw, -⟩ := hw
        generalize fstW y x = b at *
        generalize fstW (y + 1) x = c at *
        generalize fstW (y - 1) x = a at *
        go_enter Tryd.func7, Tryd.ntmps7
        go_wp2_with (first | (go_at_call 22; with_reducible refine (HI.out _).mono ?_; rintro e w' ⟨rfl, rfl⟩) | (go_at_call 21; with_reducible refine (HD.out _ HT.out).mono ?_; rintro e w' ⟨rfl, rfl⟩) | (go_at_call 14; first | (with_reducible refine (HP.out _ HT.out).mono ?_; rintro e w' ⟨rfl, rfl⟩) | (with_reducible refine (HG.out _ HT.out).mono ?_; rintro e w' ⟨rfl, rfl⟩) | (with_reducible refine (HF.out _ HT.out).mono ?_; rintro e w' ⟨rfl, rfl⟩)))
        go_ret2
        exact ⟨rfl, rfl⟩
      · rw [if_neg k1] at hw ⊢
        by_cases k2 : fstW (y + 1) x ≤ n
        · rw [if_pos k2] at hw ⊢
          have ed : (n - fstW (y + 1) x).tdiv 7 = (n - fstW (y + 1) x) / 7 := Int.tdiv_eq_ediv_of_nonneg (by omega)
          clear hw
          generalize fstW y x = b at *
          generalize fstW (y + 1) x = c at *
          generalize fstW (y - 1) x = a at *
          go_enter Tryd.func7, Tryd.ntmps7
          go_wp2_with (first | (go_at_call 22; with_reducible refine (HI.out _).mono ?_; rintro e w' ⟨rfl, rfl⟩) | (go_at_call 21; with_reducible refine (HD.out _ HT.out).mono ?_; rintro e w' ⟨rfl, rfl⟩) | (go_at_call 14; first | (with_reducible refine (HP.out _ HT.out).mono ?_; rintro e w' ⟨rfl, rfl⟩) | (with_reducible refine (HG.out _ HT.out).mono ?_; rintro e w' ⟨rfl, rfl⟩) | (with_reducible refine (HF.out _ HT.out).mono ?_; rintro e w' ⟨rfl, rfl⟩)))
          go_ret2
          exact ⟨rfl, rfl⟩
        · rw [if_neg k2] at hw ⊢
          have ed : (n - fstW y x).tdiv 7 = (n - fstW y x) / 7 := Int.tdiv_eq_ediv_of_nonneg (by omega)
          clear hw
          generalize fstW y x = b at *
          generalize fstW (y + 1) x = c at *
          generalize fstW (y - 1) x = a at *
          go_enter Tryd.func7, Tryd.ntmps7
          go_wp2_with (first | (go_at_call 22; with_reducible refine (HI.out _).mono ?_; rintro e w' ⟨rfl, rfl⟩) | (go_at_call 21; with_reducible refine (HD.out _ HT.out).mono ?_; rintro e w' ⟨rfl, rfl⟩) | (go_at_call 14; first | (with_reducible refine (HP.out _ HT.out).mono ?_; rintro e w' ⟨rfl, rfl⟩) | (with_reducible refine (HG.out _ HT.out).mono ?_; rintro e w' ⟨rfl, rfl⟩) | (with_reducible refine (HF.out _ HT.out).mono ?_; rintro e w' ⟨rfl, rfl⟩)))
          go_ret2
          exact ⟨rfl, rfl⟩

theorem back_any (n x : Int) (w : World) (hT : CTab w) :
    Calls Tryd.prog 11 #[.int .i64 n, .int .i64 x] w fun r w' => r = .returned (.int .i64 (bckA n x)) ∧ w = w' := by
  have HT := Lib.hid hT
  clear hT
  have HN := Lib.hid (fun W hW => number_any n x W hW)
  by_cases d : dayB n = true ∧ wkB x = true
  · obtain ⟨d, e⟩ := d
    obtain ⟨n1, n2, n3⟩ := num_of d e
    rw [n1, n2] at HN
    rw [n3]
    clear n1 n2 n3
    obtain ⟨h0, h1⟩ := dayB_yes d
    obtain ⟨y1, y2⟩ := wyOf_may (w := x) h0 h1
    have HW := Lib.hid (fun W hW => weeks_any (wyOf n x) x W hW)
    rw [wksA_of y1 y2 e] at HW
    have h := wk_is n x
    have k1 := h.k1; have k2 := h.k2
    obtain ⟨-, q1, q2⟩ := wksW_is (wyOf n x) x
    clear h d e
    generalize wksW (wyOf n x) x = q at *
    generalize wyOf n x = y at *
    generalize wkOf n x = k at *
    go_enter Tryd.func11, Tryd.ntmps11
    go_wp2_with (first | (go_at_call 7; with_reducible refine (HN.out _ HT.out).mono ?_; rintro e w' ⟨rfl, rfl⟩) | (go_at_call 16; with_reducible refine (HW.out _ HT.out).mono ?_; rintro e w' ⟨rfl, rfl⟩))
    go_ret
    exact ⟨rfl, rfl⟩
  · obtain ⟨n1, n2, n3⟩ := num_no d
    rw [n1, n2] at HN
    rw [n3]
    clear n1 n2 n3 d
    go_enter Tryd.func11, Tryd.ntmps11
    go_wp2_with (go_at_call 7; with_reducible refine (HN.out _ HT.out).mono ?_; rintro e w' ⟨rfl, rfl⟩)
    go_ret
    exact ⟨rfl, rfl⟩
end Go.Proofs.YtldpnidegicmeaaDoor.Wk
