/- Contracts of the document's answers on weeks (errandref10). -/
import Derived.Test.YtldpnidegicmeaaDoorCivRef
import Derived.Test.YtldpnidegicmeaaDoorWeekPlain
namespace Go.Proofs.YtldpnidegicmeaaDoor.Wk
open Go.RowKit Civ

theorem ris_any (x : Int) (w : World) :
    Calls Tryd.prog 23 #[.int .i64 x] w fun r w' => r = .returned (.bool (wkB x)) ∧ w = w' := by
  by_cases h : 0 ≤ x ∧ x ≤ 6
  · obtain ⟨h1, h2⟩ := h
    rw [wkB_of ⟨h1, h2⟩]
    go_enter Tryd.func23, Tryd.ntmps23
    go_wp2
    go_ret
    exact ⟨rfl, rfl⟩
  · rw [wkB_not h]
    by_cases h1 : x < 0
    · go_enter Tryd.func23, Tryd.ntmps23
      go_wp2
      go_ret
      exact ⟨rfl, rfl⟩
    · have h2 : decide (x ≤ 6) = false := by simp; omega
      go_enter Tryd.func23, Tryd.ntmps23
      go_wp2
      go_ret
      exact ⟨rfl, rfl⟩

theorem rest7 (n : Int) : (n.tmod 7 + 7).tmod 7 = n % 7 := by
  have h1 := Int.tmod_def n 7
  by_cases h : 0 ≤ n
  · rw [Int.tmod_eq_emod_of_nonneg h, Int.tmod_eq_emod_of_nonneg (by omega)]; omega
  · have : n.tmod 7 = - ((-n) % 7) := by
      rw [show n = - (-n) by omega, Int.neg_tmod, Int.tmod_eq_emod_of_nonneg (by omega)]; simp
    rw [this, Int.tmod_eq_emod_of_nonneg (by omega)]; omega

theorem rbegin_any (n x : Int) (h1 : -1000 ≤ n) (h2 : n ≤ 4000000) (hx : wkB x = true) (w : World) :
    Calls Tryd.prog 25 #[.int .i64 n, .int .i64 x] w fun r w' => r = .returned (.int .i64 (begW n x)) ∧ w = w' := by
  obtain ⟨x1, x2⟩ := wkB_yes hx
  clear hx
  go_enter Tryd.func25, Tryd.ntmps25
  go_wp2
  go_loop [0] (fun v => ∃ k : Int, 0 ≤ k ∧ k ≤ (n - x) % 7 ∧ v = .int .i64 (n - k)) (fun v => (intOf v - begW n x).toNat)
  case atStart => exact ⟨0, by omega, by omega, by congr 1; omega⟩
  case round =>
    obtain ⟨k, k1, k2, rfl⟩ := hrel
    have e : (wrap64 ((n - k).tmod 7 + 7)).tmod 7 = (n - k) % 7 := by
      have t1 := Int.tmod_lt_of_pos (n - k) (show (0 : Int) < 7 by omega)
      have t2 := Int.lt_tmod_of_pos (n - k) (show (0 : Int) < 7 by omega)
      rw [show wrap64 ((n - k).tmod 7 + 7) = (n - k).tmod 7 + 7 by unfold wrap64; omega]
      exact rest7 _
    by_cases c : (n - k) % 7 = x
    · have c' : ((n - k) % 7 != x) = false := by simp [c]
      have eb := Lib.hid (begW_one (n := n) (w := x) (b := n - k) (by omega) (by omega) (by omega))
      clear c
      go_wp2
      go_ret
      refine ⟨?_, rfl⟩
      rw [eb.out]; rfl
    · have c' : ((n - k) % 7 != x) = true := by simp [c]
      have k3 : k + 1 ≤ (n - x) % 7 := by omega
      clear c k2
      go_wp2
      go_round
      case rel => exact ⟨k + 1, by omega, by omega, by congr 1; omega⟩
      case measure => simp [intOf]; unfold begW; omega

theorem rBegin_any (n x : Int) (w : World) :
    Calls Tryd.prog 10 #[.int .i64 n, .int .i64 x] w fun r w' => r = .returned (.int .i64 (begA n x)) ∧ w = w' := by
  have HI := Lib.hid (fun W => ris_any x W)
  rcases e : wkB x with _ | _
  · rw [begA_wk e]
    rw [e] at HI
    go_enter Tryd.func10, Tryd.ntmps10
    go_wp2_with (go_at_call 23; with_reducible refine (HI.out _).mono ?_; rintro e w' ⟨rfl, rfl⟩)
    go_ret
    exact ⟨rfl, rfl⟩
  · rcases d : dayB n with _ | _
    · rw [begA_day d]
      have hn := dayB_no d
      rw [e] at HI
      clear d e
      by_cases h0 : n < 0
      · go_enter Tryd.func10, Tryd.ntmps10
        go_wp2_with (go_at_call 23; with_reducible refine (HI.out _).mono ?_; rintro e w' ⟨rfl, rfl⟩)
        go_ret
        exact ⟨rfl, rfl⟩
      · have h1 : 3652058 < n := by omega
        clear hn
        go_enter Tryd.func10, Tryd.ntmps10
        go_wp2_with (go_at_call 23; with_reducible refine (HI.out _).mono ?_; rintro e w' ⟨rfl, rfl⟩)
        go_ret
        exact ⟨rfl, rfl⟩
    · rw [begA_of d e]
      obtain ⟨h0, h1⟩ := dayB_yes d
      have HB := Lib.hid (fun W => rbegin_any n x (by omega) (by omega) e W)
      rw [e] at HI
      clear d e
      go_enter Tryd.func10, Tryd.ntmps10
      go_wp2_with (first | (go_at_call 23; with_reducible refine (HI.out _).mono ?_; rintro e w' ⟨rfl, rfl⟩) | (go_at_call 25; with_reducible refine (HB.out _).mono ?_; rintro e w' ⟨rfl, rfl⟩))
      go_ret
      exact ⟨rfl, rfl⟩

theorem jan_day {y : Int} (h1 : 1 ≤ y) (h2 : y ≤ 9999) : dayA y 1 4 = aheadY y + 3 ∧ dayE y 1 4 = 0 := by
  have h : isD y 1 4 = true := isD_of ⟨by omega, by rw [lenM_of h1 h2 (by omega) (by omega)]; simp [monL]⟩
  simp only [dayA, dayE, h, if_true, dayN, cumL_one, and_true]
  omega

theorem rjan_any (y : Int) (h0 : 0 ≤ y) (h1 : y ≤ 10001) (w : World) :
    Calls Tryd.prog 26 #[.int .i64 y] w fun r w' => r = .returned (.int .i64 (aheadY y + 3)) ∧ w = w' := by
  by_cases c0 : y = 0
  · subst c0
    rw [show aheadY 0 + 3 = -363 by decide]
    go_enter Tryd.func26, Tryd.ntmps26
    go_wp2
    go_ret
    exact ⟨rfl, rfl⟩
  · by_cases c1 : y ≤ 9999
    · obtain ⟨j1, j2⟩ := jan_day (y := y) (by omega) c1
      have HD := Lib.hid (fun W => rday_any y 1 4 W)
      rw [j1, j2] at HD
      have hm : min y 9999 = y := by omega
      have a0 := aheadY_lo (y := y) (by omega)
      have a1 := aheadY_hi (y := y) (by omega)
      clear j1 j2
      have c0' : (y == 0) = false := by simpa using c0
      clear c0
      go_enter Tryd.func26, Tryd.ntmps26
      go_wp2_with (go_at_call 35; with_reducible refine (HD.out _).mono ?_; rintro e w' ⟨rfl, rfl⟩)
      go_ret
      exact ⟨rfl, rfl⟩
    · obtain ⟨j1, j2⟩ := jan_day (y := 9999) (by omega) (by omega)
      have HD := Lib.hid (fun W => rday_any 9999 1 4 W)
      rw [j1, j2, show aheadY 9999 + 3 = 3651697 by decide] at HD
      clear j1 j2
      obtain rfl | rfl : y = 10000 ∨ y = 10001 := by omega
      · rw [show aheadY 10000 + 3 = 3652062 by decide]
        go_enter Tryd.func26, Tryd.ntmps26
        go_wp2_with (go_at_call 35; with_reducible refine (HD.out _).mono ?_; rintro e w' ⟨rfl, rfl⟩)
        go_ret
        exact ⟨rfl, rfl⟩
      · rw [show aheadY 10001 + 3 = 3652428 by decide]
        go_enter Tryd.func26, Tryd.ntmps26
        go_wp2_with (go_at_call 35; with_reducible refine (HD.out _).mono ?_; rintro e w' ⟨rfl, rfl⟩)
        go_ret
        exact ⟨rfl, rfl⟩

/-- Bounds of a year that is asked for. -/
theorem jan_lo {y : Int} (h : 0 ≤ y) : -1000 ≤ aheadY y + 3 := by have := aheadY_mono h; have : aheadY 0 = -366 := by decide
                                                                  omega
theorem jan_hi {y : Int} (h : y ≤ 10001) : aheadY y + 3 ≤ 4000000 := by have := aheadY_mono h; have : aheadY 10001 = 3652425 := by decide
                                                                        omega

theorem rFirst_any (y x : Int) (w : World) :
    Calls Tryd.prog 15 #[.int .i64 y, .int .i64 x] w fun r w' => r = .returned (.int .i64 (fstA y x)) ∧ w = w' := by
  have HI := Lib.hid (fun W => ris_any x W)
  rcases e : wkB x with _ | _
  · rw [fstA_wk e]
    rw [e] at HI
    go_enter Tryd.func15, Tryd.ntmps15
    go_wp2_with (go_at_call 23; with_reducible refine (HI.out _).mono ?_; rintro e w' ⟨rfl, rfl⟩)
    go_ret
    exact ⟨rfl, rfl⟩
  · by_cases d : 0 ≤ y ∧ y ≤ 10001
    · obtain ⟨h0, h1⟩ := d
      rw [fstA_of h0 h1 e]
      have HJ := Lib.hid (fun W => rjan_any y h0 h1 W)
      have HB := Lib.hid (fun W => rbegin_any (aheadY y + 3) x (jan_lo h0) (jan_hi h1) e W)
      rw [e] at HI
      clear e
      unfold fstW
      go_enter Tryd.func15, Tryd.ntmps15
      go_wp2_with (first | (go_at_call 23; with_reducible refine (HI.out _).mono ?_; rintro e w' ⟨rfl, rfl⟩) | (go_at_call 26; with_reducible refine (HJ.out _).mono ?_; rintro e w' ⟨rfl, rfl⟩) | (go_at_call 25; with_reducible refine (HB.out _).mono ?_; rintro e w' ⟨rfl, rfl⟩))
      go_ret
      exact ⟨rfl, rfl⟩
    · rw [fstA_no d]
      rw [e] at HI
      clear e
      by_cases h0 : y < 0
      · go_enter Tryd.func15, Tryd.ntmps15
        go_wp2_with (go_at_call 23; with_reducible refine (HI.out _).mono ?_; rintro e w' ⟨rfl, rfl⟩)
        go_ret
        exact ⟨rfl, rfl⟩
      · have h1 : 10001 < y := by omega
        clear d
        go_enter Tryd.func15, Tryd.ntmps15
        go_wp2_with (go_at_call 23; with_reducible refine (HI.out _).mono ?_; rintro e w' ⟨rfl, rfl⟩)
        go_ret
        exact ⟨rfl, rfl⟩

theorem fstW_lo {y : Int} (w : Int) (h : 0 ≤ y) : -1000 ≤ fstW y w := by have := aheadY_mono h; have h0 : aheadY 0 = -366 := by decide
                                                                         have := fstW_ge y w; omega
theorem fstW_hi {y : Int} (w : Int) (h : y ≤ 10001) : fstW y w ≤ 4000000 := by have := jan_hi h; have := fstW_le y w; omega

theorem rWeeks_any (y x : Int) (w : World) :
    Calls Tryd.prog 17 #[.int .i64 y, .int .i64 x] w fun r w' => r = .returned (.int .i64 (wksA y x)) ∧ w = w' := by
  have HI := Lib.hid (fun W => ris_any x W)
  rcases e : wkB x with _ | _
  · rw [wksA_wk e]
    rw [e] at HI
    go_enter Tryd.func17, Tryd.ntmps17
    go_wp2_with (go_at_call 23; with_reducible refine (HI.out _).mono ?_; rintro e w' ⟨rfl, rfl⟩)
    go_ret
    exact ⟨rfl, rfl⟩
  · by_cases d : 0 ≤ y ∧ y ≤ 10000
    · obtain ⟨h0, h1⟩ := d
      rw [wksA_of h0 h1 e]
      have HF := Lib.hid (fun W => rFirst_any y x W)
      have HG := Lib.hid (fun W => rFirst_any (y + 1) x W)
      rw [fstA_of h0 (by omega) e] at HF
      rw [fstA_of (by omega) (by omega) e] at HG
      have f0 := fstW_lo x h0
      have f1 := fstW_hi (y := y + 1) x (by omega)
      have f2 : fstW y x ≤ fstW (y + 1) x := by have := fstW_mono x (show y < y + 1 by omega); omega
      have ed : (fstW (y + 1) x - fstW y x).tdiv 7 = wksW y x := by unfold wksW; exact Int.tdiv_eq_ediv_of_nonneg (by omega)
      obtain ⟨-, q1, q2⟩ := wksW_is y x
      rw [e] at HI
      clear e
      generalize wksW y x = q at *
      generalize fstW (y + 1) x = b at *
      generalize fstW y x = a at *
      go_enter Tryd.func17, Tryd.ntmps17
      go_wp2_with (first | (go_at_call 23; with_reducible refine (HI.out _).mono ?_; rintro e w' ⟨rfl, rfl⟩) | (go_at_call 15; first | (with_reducible refine (HG.out _).mono ?_; rintro e w' ⟨rfl, rfl⟩) | (with_reducible refine (HF.out _).mono ?_; rintro e w' ⟨rfl, rfl⟩)))
      go_ret
      exact ⟨rfl, rfl⟩
    · rw [wksA_no d]
      rw [e] at HI
      clear e
      by_cases h0 : y < 0
      · go_enter Tryd.func17, Tryd.ntmps17
        go_wp2_with (go_at_call 23; with_reducible refine (HI.out _).mono ?_; rintro e w' ⟨rfl, rfl⟩)
        go_ret
        exact ⟨rfl, rfl⟩
      · have h1 : 10000 < y := by omega
        clear d
        go_enter Tryd.func17, Tryd.ntmps17
        go_wp2_with (go_at_call 23; with_reducible refine (HI.out _).mono ?_; rintro e w' ⟨rfl, rfl⟩)
        go_ret
        exact ⟨rfl, rfl⟩

theorem date_of {n : Int} (h : dayB n = true) : dateY n = yOf n ∧ dateM n = mOf n ∧ dateD n = dOf n ∧ dateE n = 0 := by
  simp [dateY, dateM, dateD, dateE, h]

theorem rNumber_any (n x : Int) (w : World) :
    Calls Tryd.prog 8 #[.int .i64 n, .int .i64 x] w fun r w' => r = .returned (.tuple #[.int .i64 (numY n x), .int .i64 (numK n x)]) ∧ w = w' := by
  have HI := Lib.hid (fun W => ris_any x W)
  rcases e : wkB x with _ | _
  · obtain ⟨n1, n2, -⟩ := num_no (n := n) (w := x) (by rw [e]; simp)
    rw [n1, n2]
    rw [e] at HI
    clear n1 n2 e
    go_enter Tryd.func8, Tryd.ntmps8
    go_wp2_with (go_at_call 23; with_reducible refine (HI.out _).mono ?_; rintro e w' ⟨rfl, rfl⟩)
    go_ret2
    exact ⟨rfl, rfl⟩
  · rcases d : dayB n with _ | _
    · obtain ⟨n1, n2, -⟩ := num_no (n := n) (w := x) (by rw [d]; simp)
      rw [n1, n2]
      have hn := dayB_no d
      rw [e] at HI
      clear d e n1 n2
      by_cases h0 : n < 0
      · go_enter Tryd.func8, Tryd.ntmps8
        go_wp2_with (go_at_call 23; with_reducible refine (HI.out _).mono ?_; rintro e w' ⟨rfl, rfl⟩)
        go_ret2
        exact ⟨rfl, rfl⟩
      · have h1 : 3652058 < n := by omega
        clear hn
        go_enter Tryd.func8, Tryd.ntmps8
        go_wp2_with (go_at_call 23; with_reducible refine (HI.out _).mono ?_; rintro e w' ⟨rfl, rfl⟩)
        go_ret2
        exact ⟨rfl, rfl⟩
    · obtain ⟨n1, n2, -⟩ := num_of d e
      rw [n1, n2]
      clear n1 n2
      obtain ⟨h0, h1⟩ := dayB_yes d
      obtain ⟨y1, y2⟩ := (yOf_is n).may h0 h1
      have HD := Lib.hid (fun W => rdate_any n W)
      obtain ⟨d1, d2, d3, d4⟩ := date_of d
      rw [d1, d2, d3, d4] at HD
      clear d1 d2 d3 d4
      have HF := Lib.hid (fun W => rFirst_any (yOf n) x W)
      have HG := Lib.hid (fun W => rFirst_any (yOf n + 1) x W)
      have HP := Lib.hid (fun W => rFirst_any (yOf n - 1) x W)
      rw [fstA_of (by omega) (by omega) e] at HF
      rw [fstA_of (by omega) (by omega) e] at HG
      rw [fstA_of (by omega) (by omega) e] at HP
      have b0 := fstW_lo x (show 0 ≤ yOf n by omega)
      have b1 := fstW_hi x (show yOf n ≤ 10001 by omega)
      have c0 := fstW_lo x (show 0 ≤ yOf n + 1 by omega)
      have c1 := fstW_hi x (show yOf n + 1 ≤ 10001 by omega)
      have a0 := fstW_lo x (show 0 ≤ yOf n - 1 by omega)
      have a1 := fstW_hi x (show yOf n - 1 ≤ 10001 by omega)
      have hw := wyOf_is n x
      unfold IsWY at hw
      rw [e] at HI
      clear e d
      unfold wkOf
      unfold wyOf at hw ⊢
      generalize yOf n = y at *
      generalize mOf n = m at *
      generalize dOf n = dd at *
      by_cases k1 : n < fstW y x
      · rw [if_pos k1] at hw ⊢
        have ed : (n - fstW (y - 1) x).tdiv 7 = (n - fstW (y - 1) x) / 7 := Int.tdiv_eq_ediv_of_nonneg (by omega)
        obtain ⟨hw, -⟩ := hw
        generalize fstW y x = b at *
        generalize fstW (y + 1) x = c at *
        generalize fstW (y - 1) x = a at *
        go_enter Tryd.func8, Tryd.ntmps8
        go_wp2_with (first | (go_at_call 23; with_reducible refine (HI.out _).mono ?_; rintro e w' ⟨rfl, rfl⟩) | (go_at_call 24; with_reducible refine (HD.out _).mono ?_; rintro e w' ⟨rfl, rfl⟩) | (go_at_call 15; first | (with_reducible refine (HP.out _).mono ?_; rintro e w' ⟨rfl, rfl⟩) | (with_reducible refine (HG.out _).mono ?_; rintro e w' ⟨rfl, rfl⟩) | (with_reducible refine (HF.out _).mono ?_; rintro e w' ⟨rfl, rfl⟩)))
        go_ret2
        exact ⟨rfl, rfl⟩
      · rw [if_neg k1] at hw ⊢
        by_cases k2 : fstW (y + 1) x ≤ n
        · rw [if_pos k2] at hw ⊢
          have ed : (n - fstW (y + 1) x).tdiv 7 = (n - fstW (y + 1) x) / 7 := Int.tdiv_eq_ediv_of_nonneg (by omega)
          clear hw
          generalize fstW y x = b at *
          generalize fstW (y + 1) x = c at *
          generalize fstW (y - 1) x = a at *
          go_enter Tryd.func8, Tryd.ntmps8
          go_wp2_with (first | (go_at_call 23; with_reducible refine (HI.out _).mono ?_; rintro e w' ⟨rfl, rfl⟩) | (go_at_call 24; with_reducible refine (HD.out _).mono ?_; rintro e w' ⟨rfl, rfl⟩) | (go_at_call 15; first | (with_reducible refine (HP.out _).mono ?_; rintro e w' ⟨rfl, rfl⟩) | (with_reducible refine (HG.out _).mono ?_; rintro e w' ⟨rfl, rfl⟩) | (with_reducible refine (HF.out _).mono ?_; rintro e w' ⟨rfl, rfl⟩)))
          go_ret2
          exact ⟨rfl, rfl⟩
        · rw [if_neg k2] at hw ⊢
          have ed : (n - fstW y x).tdiv 7 = (n - fstW y x) / 7 := Int.tdiv_eq_ediv_of_nonneg (by omega)
          clear hw
          generalize fstW y x = b at *
          generalize fstW (y + 1) x = c at *
          generalize fstW (y - 1) x = a at *
          go_enter Tryd.func8, Tryd.ntmps8
          go_wp2_with (first | (go_at_call 23; with_reducible refine (HI.out _).mono ?_; rintro e w' ⟨rfl, rfl⟩) | (go_at_call 24; with_reducible refine (HD.out _).mono ?_; rintro e w' ⟨rfl, rfl⟩) | (go_at_call 15; first | (with_reducible refine (HP.out _).mono ?_; rintro e w' ⟨rfl, rfl⟩) | (with_reducible refine (HG.out _).mono ?_; rintro e w' ⟨rfl, rfl⟩) | (with_reducible refine (HF.out _).mono ?_; rintro e w' ⟨rfl, rfl⟩)))
          go_ret2
          exact ⟨rfl, rfl⟩

/-- The number from a year's end is no less than -53, and below 0. -/
theorem back_far {n x : Int} : wkOf n x - wksW (wyOf n x) x - 1 ≤ -1 ∧ -53 ≤ wkOf n x - wksW (wyOf n x) x - 1 := by
  have h := wk_is n x
  have := h.k1; have := h.k2; have := wksW_is (wyOf n x) x
  omega

theorem rBack_any (n x : Int) (w : World) :
    Calls Tryd.prog 12 #[.int .i64 n, .int .i64 x] w fun r w' => r = .returned (.int .i64 (bckA n x)) ∧ w = w' := by
  have HN := Lib.hid (fun W => rNumber_any n x W)
  by_cases d : dayB n = true ∧ wkB x = true
  · obtain ⟨d, e⟩ := d
    obtain ⟨n1, n2, n3⟩ := num_of d e
    rw [n1, n2] at HN
    rw [n3]
    clear n1 n2 n3
    obtain ⟨h0, h1⟩ := dayB_yes d
    obtain ⟨y1, y2⟩ := wyOf_may (w := x) h0 h1
    have HW := Lib.hid (fun W => rWeeks_any (wyOf n x) x W)
    rw [wksA_of y1 y2 e] at HW
    have h := wk_is n x
    have k1 := h.k1; have k2 := h.k2
    obtain ⟨-, q1, q2⟩ := wksW_is (wyOf n x) x
    clear h d e
    generalize wksW (wyOf n x) x = q at *
    generalize wyOf n x = y at *
    generalize wkOf n x = k at *
    go_enter Tryd.func12, Tryd.ntmps12
    go_wp2_with (first | (go_at_call 8; with_reducible refine (HN.out _).mono ?_; rintro e w' ⟨rfl, rfl⟩) | (go_at_call 17; with_reducible refine (HW.out _).mono ?_; rintro e w' ⟨rfl, rfl⟩))
    go_ret
    exact ⟨rfl, rfl⟩
  · obtain ⟨n1, n2, n3⟩ := num_no d
    rw [n1, n2] at HN
    rw [n3]
    clear n1 n2 n3 d
    go_enter Tryd.func12, Tryd.ntmps12
    go_wp2_with (go_at_call 8; with_reducible refine (HN.out _).mono ?_; rintro e w' ⟨rfl, rfl⟩)
    go_ret
    exact ⟨rfl, rfl⟩
end Go.Proofs.YtldpnidegicmeaaDoor.Wk
