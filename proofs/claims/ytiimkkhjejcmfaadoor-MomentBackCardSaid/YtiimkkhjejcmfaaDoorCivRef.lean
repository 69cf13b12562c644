/- Contracts of the document's answers on days and dates (errandref09). -/
import Derived.Test.YtiimkkhjejcmfaaDoorCivPlain
import Derived.WalkKit
import Derived.WalkLawsBesides
import Derived.Below
import Derived.Lib.Hide
namespace Go.Proofs.YtiimkkhjejcmfaaDoor.Civ
open Go.RowKit

theorem rleap_any (y : Int) (w : World) :
    Calls Tryd.prog 42 #[.int .i64 y] w fun r w' => r = .returned (.bool (leapY y)) ∧ w = w' := by
  by_cases h : 1 ≤ y ∧ y ≤ 9999
  · obtain ⟨h1, h2⟩ := h
    have e4 : y.tmod 4 = y % 4 := Int.tmod_eq_emod_of_nonneg (by omega)
    have e5 : y.tmod 100 = y % 100 := Int.tmod_eq_emod_of_nonneg (by omega)
    have e6 : y.tmod 400 = y % 400 := Int.tmod_eq_emod_of_nonneg (by omega)
    have hy : yearB y = true := yearB_iff.2 ⟨h1, h2⟩
    by_cases h4 : y % 4 = 0
    · by_cases h5 : y % 100 = 0
      · by_cases h6 : y % 400 = 0
        · have hl : leapY y = true := by simp [leapY, leapN, hy, h4, h5, h6]
          rw [hl]; clear hl hy
          go_enter Tryd.func42, Tryd.ntmps42
          go_wp2
          go_ret
          exact ⟨rfl, rfl⟩
        · have hl : leapY y = false := by simp [leapY, leapN, hy, h4, h5, h6]
          have h6' : (y % 400 == 0) = false := by simpa using h6
          rw [hl]; clear hl hy
          go_enter Tryd.func42, Tryd.ntmps42
          go_wp2
          go_ret
          exact ⟨rfl, rfl⟩
      · have hl : leapY y = true := by simp [leapY, leapN, hy, h4, h5]
        rw [hl]; clear hl hy
        go_enter Tryd.func42, Tryd.ntmps42
        go_wp2
        go_ret
        exact ⟨rfl, rfl⟩
    · have h6 : ¬ y % 400 = 0 := by omega
      have hl : leapY y = false := by simp [leapY, leapN, hy, h4, h6]
      have h6' : (y % 400 == 0) = false := by simpa using h6
      rw [hl]; clear hl hy
      go_enter Tryd.func42, Tryd.ntmps42
      go_wp2
      go_ret
      exact ⟨rfl, rfl⟩
  · have hl : leapY y = false := by simp [leapY, yearB_no.2 h]
    rw [hl]
    clear hl
    go_enter Tryd.func42, Tryd.ntmps42
    go_wp2
    all_goals (go_ret; exact ⟨rfl, rfl⟩)

theorem rdays_any (y : Int) (w : World) :
    Calls Tryd.prog 41 #[.int .i64 y] w fun r w' => r = .returned (.int .i64 (daysY y)) ∧ w = w' := by
  by_cases h : 1 ≤ y ∧ y ≤ 9999
  · obtain ⟨h1, h2⟩ := h
    rw [daysY_of h1 h2]
    have HL := Lib.hid (fun W => rleap_any y W)
    rw [show leapY y = leapN y by simp [leapY, yearB_iff.2 ⟨h1, h2⟩]] at HL
    rcases e : leapN y with _ | _
    · rw [e] at HL
      rw [show oneY y = 0 by simp [oneY, e]]
      clear e
      go_enter Tryd.func41, Tryd.ntmps41
      go_wp2_with (go_at_call 42; with_reducible refine (HL.out _).mono ?_; rintro e w' ⟨rfl, rfl⟩)
      go_ret
      exact ⟨rfl, rfl⟩
    · rw [e] at HL
      rw [show oneY y = 1 by simp [oneY, e]]
      clear e
      go_enter Tryd.func41, Tryd.ntmps41
      go_wp2_with (go_at_call 42; with_reducible refine (HL.out _).mono ?_; rintro e w' ⟨rfl, rfl⟩)
      go_ret
      exact ⟨rfl, rfl⟩
  · rw [daysY_no h]
    go_enter Tryd.func41, Tryd.ntmps41
    go_wp2
    all_goals (go_ret; exact ⟨rfl, rfl⟩)

theorem rlen_any (y m : Int) (w : World) :
    Calls Tryd.prog 34 #[.int .i64 y, .int .i64 m] w fun r w' => r = .returned (.int .i64 (lenM y m)) ∧ w = w' := by
  have HD := Lib.hid (fun W => rdays_any y W)
  by_cases h : 1 ≤ y ∧ y ≤ 9999
  · obtain ⟨h1, h2⟩ := h
    rw [daysY_of h1 h2] at HD
    have ho := oneY_lo y
    have ho2 := oneY_hi y
    by_cases hm : 1 ≤ m ∧ m ≤ 12
    · obtain ⟨h3, h4⟩ := hm
      rw [lenM_of h1 h2 h3 h4]
      have hne : ((365 + oneY y : Int) == 0) = false := by simp; omega
      generalize oneY y = o at *
      unfold monL
      by_cases e2 : m = 2
      · subst e2
        rw [if_pos rfl, show (28 : Int) + o = 365 + o - 337 by omega]
        go_enter Tryd.func34, Tryd.ntmps34
        go_wp2_with (go_at_call 41; with_reducible refine (HD.out _).mono ?_; rintro e w' ⟨rfl, rfl⟩)
        go_ret
        exact ⟨rfl, rfl⟩
      · rw [if_neg e2]
        by_cases e4 : m = 4 ∨ m = 6 ∨ m = 9 ∨ m = 11
        · rw [if_pos e4]
          rcases e4 with rfl | rfl | rfl | rfl
          all_goals
            go_enter Tryd.func34, Tryd.ntmps34
            go_wp2_with (go_at_call 41; with_reducible refine (HD.out _).mono ?_; rintro e w' ⟨rfl, rfl⟩)
            go_ret
            exact ⟨rfl, rfl⟩
        · rw [if_neg e4]
          have e5 : (m == 4) = false := by simp; omega
          have e6 : (m == 6) = false := by simp; omega
          have e7 : (m == 9) = false := by simp; omega
          have e8 : (m == 11) = false := by simp; omega
          clear e4
          have e2' : (m == 2) = false := by simp; omega
          go_enter Tryd.func34, Tryd.ntmps34
          go_wp2_with (go_at_call 41; with_reducible refine (HD.out _).mono ?_; rintro e w' ⟨rfl, rfl⟩)
          go_ret
          exact ⟨rfl, rfl⟩
    · rw [lenM_no (fun k => hm k.2)]
      generalize oneY y = o at *
      go_enter Tryd.func34, Tryd.ntmps34
      go_wp2_with (go_at_call 41; with_reducible refine (HD.out _).mono ?_; rintro e w' ⟨rfl, rfl⟩)
      all_goals (go_ret; exact ⟨rfl, rfl⟩)
  · rw [daysY_no h] at HD
    rw [lenM_no (fun k => h k.1)]
    clear h
    go_enter Tryd.func34, Tryd.ntmps34
    go_wp2_with (go_at_call 41; with_reducible refine (HD.out _).mono ?_; rintro e w' ⟨rfl, rfl⟩)
    go_ret
    exact ⟨rfl, rfl⟩

theorem rahead_any (y : Int) (h1 : 1 ≤ y) (h2 : y ≤ 10000) (w : World) :
    Calls Tryd.prog 35 #[.int .i64 y] w fun r w' => r = .returned (.int .i64 (aheadY y)) ∧ w = w' := by
  unfold aheadY
  go_enter Tryd.func35, Tryd.ntmps35
  go_wp2
  go_ret
  exact ⟨rfl, rfl⟩

theorem rday_any (y m d : Int) (w : World) :
    Calls Tryd.prog 24 #[.int .i64 y, .int .i64 m, .int .i64 d] w fun r w' => r = .returned (.tuple #[.int .i64 (dayA y m d), .int .i64 (dayE y m d)]) ∧ w = w' := by
  unfold dayA dayE
  have HL := Lib.hid (fun i W => rlen_any y i W)
  have hl0 := lenM_lo y m
  have hl1 := lenM_hi y m
  rcases e : isD y m d with _ | _
  · have hn := isD_no e
    clear e
    go_enter Tryd.func24, Tryd.ntmps24
    generalize hl : lenM y m = l at *
    by_cases hd : d < 1
    · go_wp2_with (go_at_call 34; with_reducible refine (HL.out _ _).mono ?_; rintro e w' ⟨rfl, rfl⟩)
      go_ret2
      exact ⟨rfl, rfl⟩
    · have hd2 : l < d := by omega
      rw [← hl] at hd2
      go_wp2_with (go_at_call 34; with_reducible refine (HL.out _ _).mono ?_; rintro e w' ⟨rfl, rfl⟩)
      go_ret2
      exact ⟨rfl, rfl⟩
  · obtain ⟨hd1, hd2⟩ := isD_yes e
    obtain ⟨h1, h2, h3, h4⟩ := lenM_pos hd1 hd2
    have HA := Lib.hid (fun W => rahead_any y h1 (by omega) W)
    have ha0 := aheadY_lo h1
    have ha1 := aheadY_hi (y := y) (by omega)
    have hm0 := oneY_lo y
    have hm1 := oneY_hi y
    clear e hl0
    rw [if_pos rfl, if_pos rfl]
    unfold dayN
    go_enter Tryd.func24, Tryd.ntmps24
    go_wp2_with (first | (go_at_call 34; with_reducible refine (HL.out _ _).mono ?_; rintro e w' ⟨rfl, rfl⟩) | (go_at_call 35; with_reducible refine (HA.out _).mono ?_; rintro e w' ⟨rfl, rfl⟩))
    go_loop [8, 9] (fun n i => ∃ k : Int, 1 ≤ k ∧ k ≤ m ∧ i = .int .i64 k ∧ n = .int .i64 (aheadY y + d - 1 + cumL (oneY y) k)) (fun _ i => (m - intOf i).toNat)
    case atStart => exact ⟨1, by omega, by omega, rfl, by rw [cumL_one]; congr 1; omega⟩
    case round =>
      obtain ⟨k, hk1, hk2, rfl, rfl⟩ := hrel
      have hc0 := cumL_lo hm0 hk1 (by omega)
      have hc1 := cumL_hi hm1 hm0 hk1 (by omega)
      have hc2 := @monL_lo (oneY y) k hm0
      by_cases hlt : k < m
      · have hn := cumL_next (oneY y) hk1 (by omega)
        have hlk := lenM_of h1 h2 hk1 (show k ≤ 12 by omega)
        have HK := Lib.hid (fun W => HL.out k W)
        rw [hlk] at HK
        clear hlk
        go_wp2_with (go_at_call 34; with_reducible refine (HK.out _).mono ?_; rintro e w' ⟨rfl, rfl⟩)
        go_round
        case rel => exact ⟨k + 1, by omega, by omega, rfl, by congr 1; omega⟩
        case measure => simp [intOf]; omega
      · obtain rfl : k = m := by omega
        go_wp2_with fail
        refine bodyPost_ret (v := .tuple #[.int .i64 (aheadY y + d - 1 + cumL (oneY y) k), .int .i64 0]) (by simp [results, Tryd.results24, go_sem]) rfl ⟨?_, rfl⟩
        rw [show aheadY y + cumL (oneY y) k + d - 1 = aheadY y + d - 1 + cumL (oneY y) k by omega]

theorem rdate_any (n : Int) (w : World) :
    Calls Tryd.prog 28 #[.int .i64 n] w fun r w' => r = .returned (.tuple #[.int .i64 (dateY n), .int .i64 (dateM n), .int .i64 (dateD n), .int .i64 (dateE n)]) ∧ w = w' := by
  unfold dateY dateM dateD dateE
  rcases e : dayB n with _ | _
  · have hn := dayB_no e
    clear e
    by_cases h0 : n < 0
    · go_enter Tryd.func28, Tryd.ntmps28
      go_wp2
      exact bodyPost_ret (v := .tuple #[.int .i64 0, .int .i64 0, .int .i64 0, .int .i64 8]) (by simp [results, Tryd.results28, go_sem]) rfl ⟨rfl, rfl⟩
    · have h1 : 3652058 < n := by omega
      go_enter Tryd.func28, Tryd.ntmps28
      go_wp2
      exact bodyPost_ret (v := .tuple #[.int .i64 0, .int .i64 0, .int .i64 0, .int .i64 8]) (by simp [results, Tryd.results28, go_sem]) rfl ⟨rfl, rfl⟩
  · obtain ⟨h0, h1⟩ := dayB_yes e
    clear e
    rw [if_pos rfl, if_pos rfl, if_pos rfl, if_pos rfl]
    have hst : aheadY (n / 366 + 1) ≤ n := by unfold aheadY; omega
    have HA := Lib.hid rahead_any
    go_enter Tryd.func28, Tryd.ntmps28
    go_wp2
    go_loop [6] (fun v => ∃ y : Int, 1 ≤ y ∧ aheadY y ≤ n ∧ v = .int .i64 y) (fun v => (10000 - intOf v).toNat)
    case atStart => exact ⟨n / 366 + 1, by omega, hst, rfl⟩
    case round =>
      obtain ⟨y, hy1, hy2, rfl⟩ := hrel
      have he := aheadY_end
      have hy3 := aheadY_lt (y := y) (z := 10000) (by omega)
      have ha0 := aheadY_lo hy1
      have hx := aheadY_next y
      clear hst
      by_cases hlt : aheadY (y + 1) ≤ n
      · go_wp2_with (go_at_call 35; with_reducible refine (HA.out _ (by omega) (by omega) _).mono ?_; rintro e w' ⟨rfl, rfl⟩)
        go_round
        case rel => exact ⟨y + 1, by omega, hlt, rfl⟩
        case measure => simp [intOf]; omega
      · have hY : IsYear n y := ⟨hy2, by omega⟩
        have ho := oneY_lo y
        have ho2 := oneY_hi y
        have hye := Lib.hid hY.eq
        go_wp2_with (go_at_call 35; with_reducible refine (HA.out _ (by omega) (by omega) _).mono ?_; rintro e w' ⟨rfl, rfl⟩)
        have HL := Lib.hid (fun m W => rlen_any y m W)
        go_loop [7, 8] (fun v u => ∃ m : Int, 1 ≤ m ∧ m ≤ 12 ∧ cumL (oneY y) m ≤ n - aheadY y ∧ v = .int .i64 m ∧ u = .int .i64 (n - aheadY y + 1 - cumL (oneY y) m)) (fun v _ => (12 - intOf v).toNat)
        case atStart => exact ⟨1, by omega, by omega, by rw [cumL_one]; omega, rfl, by rw [cumL_one]; congr 1; omega⟩
        case round =>
          obtain ⟨m, hm1, hm2, hm3, rfl, rfl⟩ := hrel
          have HK := Lib.hid (fun W => HL.out m W)
          rw [lenM_of hy1 (by omega) hm1 hm2] at HK
          have hnx := cumL_next (oneY y) hm1 hm2
          have hc0 := cumL_lo ho hm1 hm2
          have hl0 := @monL_lo (oneY y) m ho
          have hl1 := @monL_hi (oneY y) m ho2
          by_cases hgt : cumL (oneY y) (m + 1) ≤ n - aheadY y
          · have hm4 : m < 12 := by
              by_cases hc : m < 12
              · exact hc
              · obtain rfl : m = 12 := by omega
                have := cumL_end (oneY y)
                rw [show (12 : Int) + 1 = 13 from rfl] at hgt hnx
                omega
            clear hye hY hlt
            go_wp2_with (go_at_call 34; with_reducible refine (HK.out _).mono ?_; rintro e w' ⟨rfl, rfl⟩)
            go_round
            case rel => exact ⟨m + 1, by omega, by omega, by omega, rfl, by congr 1; omega⟩
            case measure => simp [intOf]; omega
          · have hdt : IsDate n y m (n - aheadY y + 1 - cumL (oneY y) m) := ⟨hy1, by omega, hm1, hm2, by omega, by omega, by unfold dayN; omega⟩
            have HE := Lib.hid hdt.eq
            clear hye hY hlt hdt
            go_wp2_with (go_at_call 34; with_reducible refine (HK.out _).mono ?_; rintro e w' ⟨rfl, rfl⟩)
            refine bodyPost_ret (v := .tuple #[.int .i64 y, .int .i64 m, .int .i64 (n - aheadY y + 1 - cumL (oneY y) m), .int .i64 0]) (by simp [results, Tryd.results28, go_sem]) rfl ⟨?_, rfl⟩
            obtain ⟨e1, e2, e3⟩ := HE.out
            rw [← e1, ← e2, ← e3]

end Go.Proofs.YtiimkkhjejcmfaaDoor.Civ
