/- Contracts of package civil: days and dates, as the plain functions say, where the table of constants reads as it is laid. -/
import Derived.Test.YtiimkkhjejcmfaaDoorCivRef
namespace Go.Proofs.YtiimkkhjejcmfaaDoor.Civ
open Go.RowKit

/-- The table: how many days a year has ahead of each month. -/
def tabC : List Int := [0, 31, 59, 90, 120, 151, 181, 212, 243, 273, 304, 334, 365]
/-- The table reads as it is laid. -/
def CTab (w : World) : Prop := ∀ i : Nat, i < 13 → w.cell? ⟨0, i, none⟩ = some (.int .i64 (tabC.getD i 0))
theorem tab_lo : ∀ k : Fin 13, 0 ≤ tabC.getD k.val 0 ∧ tabC.getD k.val 0 ≤ 365 := by decide
theorem tab_is : ∀ k : Fin 13, tabC.getD k.val 0 = cumL 0 ((k.val : Int) + 1) := by decide
theorem cumL_of (o : Int) {m : Int} (h1 : 1 ≤ m) (h2 : m ≤ 13) : cumL o m = cumL 0 m + (if m ≤ 2 then 0 else o) := by
  by_cases h13 : m = 13
  · subst h13; simp [cumL]
  rcases months h1 (by omega : m ≤ 12) with rfl | rfl | rfl | rfl | rfl | rfl | rfl | rfl | rfl | rfl | rfl | rfl <;> simp [cumL]

theorem isyear_any (y : Int) (w : World) :
    Calls Tryd.prog 39 #[.int .i64 y] w fun r w' => r = .returned (.bool (yearB y)) ∧ w = w' := by
  by_cases h1 : 1 ≤ y
  · by_cases h2 : y ≤ 9999
    · rw [yearB_iff.2 ⟨h1, h2⟩]
      go_enter Tryd.func39, Tryd.ntmps39
      go_wp2
      go_ret
      exact ⟨rfl, rfl⟩
    · rw [yearB_no.2 (fun h => h2 h.2)]
      go_enter Tryd.func39, Tryd.ntmps39
      go_wp2
      go_ret
      exact ⟨rfl, rfl⟩
  · rw [yearB_no.2 (fun h => h1 h.1)]
    go_enter Tryd.func39, Tryd.ntmps39
    go_wp2
    go_ret
    exact ⟨rfl, rfl⟩

theorem isday_any (n : Int) (w : World) :
    Calls Tryd.prog 36 #[.int .i64 n] w fun r w' => r = .returned (.bool (dayB n)) ∧ w = w' := by
  by_cases h1 : 0 ≤ n
  · by_cases h2 : n ≤ 3652058
    · rw [dayB_of ⟨h1, h2⟩]
      go_enter Tryd.func36, Tryd.ntmps36
      go_wp2
      go_ret
      exact ⟨rfl, rfl⟩
    · rw [dayB_not (fun h => h2 h.2)]
      go_enter Tryd.func36, Tryd.ntmps36
      go_wp2
      go_ret
      exact ⟨rfl, rfl⟩
  · rw [dayB_not (fun h => h1 h.1)]
    go_enter Tryd.func36, Tryd.ntmps36
    go_wp2
    go_ret
    exact ⟨rfl, rfl⟩

theorem leap_any (y : Int) (w : World) :
    Calls Tryd.prog 40 #[.int .i64 y] w fun r w' => r = .returned (.bool (leapY y)) ∧ w = w' := by
  have HI := Lib.hid (fun W => isyear_any y W)
  by_cases h : 1 ≤ y ∧ y ≤ 9999
  · obtain ⟨h1, h2⟩ := h
    have e4 : y.tmod 4 = y % 4 := Int.tmod_eq_emod_of_nonneg (by omega)
    have e5 : y.tmod 100 = y % 100 := Int.tmod_eq_emod_of_nonneg (by omega)
    have e6 : y.tmod 400 = y % 400 := Int.tmod_eq_emod_of_nonneg (by omega)
    have hy : yearB y = true := yearB_iff.2 ⟨h1, h2⟩
    rw [hy] at HI
    by_cases h4 : y % 4 = 0
    · by_cases h5 : y % 100 = 0
      · by_cases h6 : y % 400 = 0
        · have hl : leapY y = true := by simp [leapY, leapN, hy, h4, h5, h6]
          rw [hl]; clear hl hy
          go_enter Tryd.func40, Tryd.ntmps40
          go_wp2_with (go_at_call 39; with_reducible refine (HI.out _).mono ?_; rintro e w' ⟨rfl, rfl⟩)
          go_ret
          exact ⟨rfl, rfl⟩
        · have hl : leapY y = false := by simp [leapY, leapN, hy, h4, h5, h6]
          have h6' : (y % 400 == 0) = false := by simpa using h6
          rw [hl]; clear hl hy
          go_enter Tryd.func40, Tryd.ntmps40
          go_wp2_with (go_at_call 39; with_reducible refine (HI.out _).mono ?_; rintro e w' ⟨rfl, rfl⟩)
          go_ret
          exact ⟨rfl, rfl⟩
      · have hl : leapY y = true := by simp [leapY, leapN, hy, h4, h5]
        rw [hl]; clear hl hy
        go_enter Tryd.func40, Tryd.ntmps40
        go_wp2_with (go_at_call 39; with_reducible refine (HI.out _).mono ?_; rintro e w' ⟨rfl, rfl⟩)
        go_ret
        exact ⟨rfl, rfl⟩
    · have h6 : ¬ y % 400 = 0 := by omega
      have hl : leapY y = false := by simp [leapY, leapN, hy, h4, h6]
      have h6' : (y % 400 == 0) = false := by simpa using h6
      rw [hl]; clear hl hy
      go_enter Tryd.func40, Tryd.ntmps40
      go_wp2_with (go_at_call 39; with_reducible refine (HI.out _).mono ?_; rintro e w' ⟨rfl, rfl⟩)
      go_ret
      exact ⟨rfl, rfl⟩
  · have hl : leapY y = false := by simp [leapY, yearB_no.2 h]
    rw [yearB_no.2 h] at HI
    rw [hl]
    clear hl
    go_enter Tryd.func40, Tryd.ntmps40
    go_wp2_with (go_at_call 39; with_reducible refine (HI.out _).mono ?_; rintro e w' ⟨rfl, rfl⟩)
    all_goals (go_ret; exact ⟨rfl, rfl⟩)

theorem ahead_any (y : Int) (k : Nat) (h1 : 1 ≤ y) (h2 : y ≤ 9999) (hk : k < 13) (w : World) (hT : CTab w) :
    Calls Tryd.prog 33 #[.int .i64 y, .int .i64 ((k : Int) + 1)] w fun r w' => r = .returned (.int .i64 (cumL (oneY y) ((k : Int) + 1))) ∧ w = w' := by
  rw [cumL_of _ (by omega) (by omega)]
  have h0 := hT k hk
  rw [← tab_is ⟨k, hk⟩]
  dsimp only
  obtain ⟨t1, t2⟩ := tab_lo ⟨k, hk⟩
  dsimp only at t1 t2
  have HL := Lib.hid (fun W => leap_any y W)
  rw [show leapY y = leapN y by simp [leapY, yearB_iff.2 ⟨h1, h2⟩]] at HL
  generalize tabC.getD k 0 = t at *
  have e0 : (k : Int) + 1 - 1 = k := by omega
  by_cases hm : (k : Int) + 1 ≤ 2
  · rw [if_pos hm]
    go_enter Tryd.func33, Tryd.ntmps33
    go_wp2_with (go_at_call 40; with_reducible refine (HL.out _).mono ?_; rintro e w' ⟨rfl, rfl⟩)
    go_ret
    exact ⟨by first | rfl | (rw [Int.add_zero]; rfl), rfl⟩
  · rw [if_neg hm]
    rcases e : leapN y with _ | _
    · rw [e] at HL
      rw [show oneY y = 0 by simp [oneY, e]]
      clear e
      go_enter Tryd.func33, Tryd.ntmps33
      go_wp2_with (go_at_call 40; with_reducible refine (HL.out _).mono ?_; rintro e w' ⟨rfl, rfl⟩)
      go_ret
      exact ⟨by first | rfl | (rw [Int.add_zero]; rfl), rfl⟩
    · rw [e] at HL
      rw [show oneY y = 1 by simp [oneY, e]]
      clear e
      go_enter Tryd.func33, Tryd.ntmps33
      go_wp2_with (go_at_call 40; with_reducible refine (HL.out _).mono ?_; rintro e w' ⟨rfl, rfl⟩)
      go_ret
      exact ⟨rfl, rfl⟩

theorem len_any (y m : Int) (w : World) (hT : CTab w) :
    Calls Tryd.prog 31 #[.int .i64 y, .int .i64 m] w fun r w' => r = .returned (.int .i64 (lenM y m)) ∧ w = w' := by
  have HI := Lib.hid (fun W => isyear_any y W)
  by_cases h : (1 ≤ y ∧ y ≤ 9999) ∧ 1 ≤ m ∧ m ≤ 12
  · obtain ⟨⟨h1, h2⟩, h3, h4⟩ := h
    rw [lenM_of h1 h2 h3 h4]
    rw [yearB_iff.2 ⟨h1, h2⟩] at HI
    obtain ⟨k, rfl⟩ : ∃ k : Nat, m = (k : Int) + 1 := ⟨(m - 1).toNat, by omega⟩
    have hn := Lib.hid (cumL_next (oneY y) h3 h4)
    have HA := Lib.hid (fun W hW => ahead_any y k h1 h2 (by omega) W hW)
    have HT := Lib.hid hT
    have HB := Lib.hid (fun W hW => ahead_any y (k + 1) h1 h2 (by omega) W hW)
    have c0 := cumL_lo (o := oneY y) (m := (k : Int) + 1) (oneY_lo y) h3 h4
    have c1 := cumL_hi (o := oneY y) (m := (k : Int) + 1) (oneY_hi y) (oneY_lo y) h3 h4
    have o2 := oneY_hi y
    have l0 := @monL_lo (oneY y) ((k : Int) + 1) (oneY_lo y)
    have l1 := @monL_hi (oneY y) ((k : Int) + 1) (oneY_hi y)
    rw [show ((k + 1 : Nat) : Int) + 1 = (k : Int) + 1 + 1 from rfl, hn.out] at HB
    clear hn
    generalize cumL (oneY y) ((k : Int) + 1) = c at *
    generalize monL (oneY y) ((k : Int) + 1) = l at *
    generalize oneY y = o at *
    go_enter Tryd.func31, Tryd.ntmps31
    go_wp2_with (first | (go_at_call 39; with_reducible refine (HI.out _).mono ?_; rintro e w' ⟨rfl, rfl⟩) | (go_at_call 33; first | (with_reducible refine (HB.out _ HT.out).mono ?_; rintro e w' ⟨rfl, rfl⟩) | (with_reducible refine (HA.out _ HT.out).mono ?_; rintro e w' ⟨rfl, rfl⟩)))
    go_ret
    refine ⟨?_, rfl⟩
    show Ending.returned (Value.int .i64 (c + l - c)) = _
    rw [show c + l - c = l by omega]
  · rw [lenM_no h]
    clear hT
    by_cases g1 : 1 ≤ y ∧ y ≤ 9999
    · rw [yearB_iff.2 g1] at HI
      obtain ⟨g1, g2⟩ := g1
      by_cases g3 : m < 1
      · go_enter Tryd.func31, Tryd.ntmps31
        go_wp2_with (go_at_call 39; with_reducible refine (HI.out _).mono ?_; rintro e w' ⟨rfl, rfl⟩)
        go_ret
        exact ⟨rfl, rfl⟩
      · have g4 : 12 < m := by omega
        go_enter Tryd.func31, Tryd.ntmps31
        go_wp2_with (go_at_call 39; with_reducible refine (HI.out _).mono ?_; rintro e w' ⟨rfl, rfl⟩)
        go_ret
        exact ⟨rfl, rfl⟩
    · rw [yearB_no.2 g1] at HI
      go_enter Tryd.func31, Tryd.ntmps31
      go_wp2_with (go_at_call 39; with_reducible refine (HI.out _).mono ?_; rintro e w' ⟨rfl, rfl⟩)
      go_ret
      exact ⟨rfl, rfl⟩

theorem first_any (y : Int) (h1 : 1 ≤ y) (h2 : y ≤ 10000) (w : World) :
    Calls Tryd.prog 32 #[.int .i64 y] w fun r w' => r = .returned (.int .i64 (aheadY y)) ∧ w = w' := by
  unfold aheadY
  go_enter Tryd.func32, Tryd.ntmps32
  go_wp2
  go_ret
  exact ⟨by first | rfl | (rw [Int.mul_comm (y - 1) 365]; rfl), rfl⟩

theorem day_any (y m d : Int) (w : World) (hT : CTab w) :
    Calls Tryd.prog 21 #[.int .i64 y, .int .i64 m, .int .i64 d] w fun r w' => r = .returned (.tuple #[.int .i64 (dayA y m d), .int .i64 (dayE y m d)]) ∧ w = w' := by
  unfold dayA dayE
  have HL := Lib.hid (fun W hW => len_any y m W hW)
  have HT := Lib.hid hT
  clear hT
  have hl0 := lenM_lo y m
  have hl1 := lenM_hi y m
  rcases e : isD y m d with _ | _
  · have hn := isD_no e
    clear e
    go_enter Tryd.func21, Tryd.ntmps21
    by_cases hd : d < 1
    · go_wp2_with (go_at_call 31; with_reducible refine (HL.out _ HT.out).mono ?_; rintro e w' ⟨rfl, rfl⟩)
      go_ret2
      exact ⟨rfl, rfl⟩
    · have hd2 : lenM y m < d := by omega
      go_wp2_with (go_at_call 31; with_reducible refine (HL.out _ HT.out).mono ?_; rintro e w' ⟨rfl, rfl⟩)
      go_ret2
      exact ⟨rfl, rfl⟩
  · obtain ⟨hd1, hd2⟩ := isD_yes e
    obtain ⟨h1, h2, h3, h4⟩ := lenM_pos hd1 hd2
    obtain ⟨k, rfl⟩ : ∃ k : Nat, m = (k : Int) + 1 := ⟨(m - 1).toNat, by omega⟩
    have HA := Lib.hid (fun W => first_any y h1 (by omega) W)
    have HB := Lib.hid (fun W hW => ahead_any y k h1 h2 (by omega) W hW)
    have ha0 := aheadY_lo h1
    have ha1 := aheadY_hi (y := y) (by omega)
    have c0 := cumL_lo (o := oneY y) (m := (k : Int) + 1) (oneY_lo y) h3 h4
    have c1 := cumL_hi (o := oneY y) (m := (k : Int) + 1) (oneY_hi y) (oneY_lo y) h3 h4
    have l0 := @monL_lo (oneY y) ((k : Int) + 1) (oneY_lo y)
    have o2 := oneY_hi y
    clear e hl0
    rw [if_pos rfl, if_pos rfl]
    unfold dayN
    go_enter Tryd.func21, Tryd.ntmps21
    go_wp2_with (first | (go_at_call 31; with_reducible refine (HL.out _ HT.out).mono ?_; rintro e w' ⟨rfl, rfl⟩) | (go_at_call 32; with_reducible refine (HA.out _).mono ?_; rintro e w' ⟨rfl, rfl⟩) | (go_at_call 33; with_reducible refine (HB.out _ HT.out).mono ?_; rintro e w' ⟨rfl, rfl⟩))
    go_ret2
    exact ⟨rfl, rfl⟩

/-- The year of a day by stretches of 400, 100, 4 years and one. -/
theorem year_of {n q b c d e : Int} (hn : n = 146097 * q + 36524 * b + 1461 * c + d) (hb0 : 0 ≤ b) (hb : b ≤ 3) (hb3 : b < 3 → 1461 * c + d < 36524)
    (hc : 1461 * c + d < 36525) (hc0 : 0 ≤ c) (hd0 : 0 ≤ d) (hd : d < 1461) (he0 : 0 ≤ e) (he : e ≤ 3) (he1 : 365 * e ≤ d) (he3 : e < 3 → d < 365 * e + 365) :
    IsYear n (400 * q + 100 * b + 4 * c + e + 1) := by
  have k4 : (400 * q + 100 * b + 4 * c + e) / 4 = 100 * q + 25 * b + c := by clear hn hb3 hc hd0 hd he1 he3; omega
  have hc24 : c ≤ 24 := by omega
  have k100 : (400 * q + 100 * b + 4 * c + e) / 100 = 4 * q + b := by clear hn hb3 hc hd0 hd he1 he3 k4; omega
  have k400 : (400 * q + 100 * b + 4 * c + e) / 400 = q := by clear hn hb3 hc hd0 hd he1 he3 k4 k100; omega
  have ha : aheadY (400 * q + 100 * b + 4 * c + e + 1) = 146097 * q + 36524 * b + 1461 * c + 365 * e := by
    unfold aheadY
    rw [show 400 * q + 100 * b + 4 * c + e + 1 - 1 = 400 * q + 100 * b + 4 * c + e by omega, k4, k100, k400]; omega
  clear k4 k100 k400
  refine ⟨by omega, ?_⟩
  rw [aheadY_next, ha]
  by_cases e3 : e = 3
  · subst e3
    by_cases h1 : d < 1460
    · have := oneY_lo (400 * q + 100 * b + 4 * c + 3 + 1); omega
    · have hl : leapN (400 * q + 100 * b + 4 * c + 3 + 1) = true := by
        rw [leapN_iff]
        by_cases h24 : c = 24
        · subst h24
          have : b = 3 := by omega
          subst this
          right; clear hn ha; omega
        · left; clear hn ha hb3; constructor <;> omega
      rw [show oneY (400 * q + 100 * b + 4 * c + 3 + 1) = 1 by simp [oneY, hl]]
      omega
  · have := oneY_lo (400 * q + 100 * b + 4 * c + e + 1); omega

theorem year_any (n : Int) (h0 : 0 ≤ n) (h1 : n ≤ 3652058) (w : World) :
    Calls Tryd.prog 37 #[.int .i64 n] w fun r w' => r = .returned (.int .i64 (yOf n)) ∧ w = w' := by
  have HY : ∀ b c d e, n % 146097 = 36524 * b + 1461 * c + d → 0 ≤ b → b ≤ 3 → (b < 3 → 1461 * c + d < 36524) → 1461 * c + d < 36525 → 0 ≤ c → 0 ≤ d → d < 1461 → 0 ≤ e → e ≤ 3 → 365 * e ≤ d → (e < 3 → d < 365 * e + 365) →
      400 * (n / 146097) + 100 * b + 4 * c + e + 1 = yOf n := fun b c d e k1 k2 k3 k4 k5 k6 k7 k8 k9 k10 k11 k12 =>
    (year_of (q := n / 146097) (by omega) k2 k3 k4 k5 k6 k7 k8 k9 k10 k11 k12).eq
  replace HY := Lib.hid HY
  go_enter Tryd.func37, Tryd.ntmps37
  go_wp2
  all_goals (go_ret; refine ⟨congrArg (fun z => Ending.returned (Value.int .i64 z)) (?_ : _ = yOf n), rfl⟩)
  · have := HY.out 3 ((n % 146097 - 109572) / 1461) ((n % 146097 - 109572) % 1461) 3 (by omega) (by omega) (by omega) (by omega) (by omega) (by omega) (by omega) (by omega) (by omega) (by omega) (by omega) (by omega)
    omega
  · have := HY.out (n % 146097 / 36524) ((n % 146097 - n % 146097 / 36524 * 36524) / 1461) ((n % 146097 - n % 146097 / 36524 * 36524) % 1461) 3 (by omega) (by omega) (by omega) (by omega) (by omega) (by omega) (by omega) (by omega) (by omega) (by omega) (by omega) (by omega)
    omega
  · have := HY.out (n % 146097 / 36524) ((n % 146097 - n % 146097 / 36524 * 36524) / 1461) ((n % 146097 - n % 146097 / 36524 * 36524) % 1461) ((n % 146097 - n % 146097 / 36524 * 36524) % 1461 / 365) (by omega) (by omega) (by omega) (by omega) (by omega) (by omega) (by omega) (by omega) (by omega) (by omega) (by omega) (by omega)
    omega

theorem date_any (n : Int) (w : World) (hT : CTab w) :
    Calls Tryd.prog 26 #[.int .i64 n] w fun r w' => r = .returned (.tuple #[.int .i64 (dateY n), .int .i64 (dateM n), .int .i64 (dateD n), .int .i64 (dateE n)]) ∧ w = w' := by
  unfold dateY dateM dateD dateE
  have HT := Lib.hid hT
  clear hT
  have HD := Lib.hid (fun W => isday_any n W)
  rcases e : dayB n with _ | _
  · rw [e] at HD
    clear e
    go_enter Tryd.func26, Tryd.ntmps26
    go_wp2_with (go_at_call 36; with_reducible refine (HD.out _).mono ?_; rintro e w' ⟨rfl, rfl⟩)
    exact bodyPost_ret (v := .tuple #[.int .i64 0, .int .i64 0, .int .i64 0, .int .i64 8]) (by simp [results, Tryd.results26, go_sem]) rfl ⟨rfl, rfl⟩
  · obtain ⟨h0, h1⟩ := dayB_yes e
    rw [e] at HD
    clear e
    rw [if_pos rfl, if_pos rfl, if_pos rfl, if_pos rfl]
    have hd := dOf_is h0 h1
    have hy := hd.year
    have y1 := hd.y1
    have y2 := hd.y2
    have a1 := hy.1
    have a2 := hy.2
    rw [aheadY_next] at a2
    have a0 := aheadY_lo y1
    have o0 := oneY_lo (yOf n)
    have o1 := oneY_hi (yOf n)
    have HY := Lib.hid (fun W => year_any n h0 h1 W)
    have HE := Lib.hid (fun m d (h : IsDate n (yOf n) m d) => h.eq)
    clear hd hy
    generalize yOf n = y at *
    have HA := Lib.hid (fun W => first_any y y1 (by omega) W)
    have HB := Lib.hid (fun k (hk : k < 13) W hW => ahead_any y k y1 y2 hk W hW)
    go_enter Tryd.func26, Tryd.ntmps26
    go_wp2_with (first | (go_at_call 36; with_reducible refine (HD.out _).mono ?_; rintro e w' ⟨rfl, rfl⟩) | (go_at_call 37; with_reducible refine (HY.out _).mono ?_; rintro e w' ⟨rfl, rfl⟩) | (go_at_call 32; with_reducible refine (HA.out _).mono ?_; rintro e w' ⟨rfl, rfl⟩))
    go_loop [7] (fun v => ∃ k : Nat, k < 12 ∧ n - aheadY y < cumL (oneY y) ((k : Int) + 1 + 1) ∧ v = .int .i64 ((k : Int) + 1)) (fun v => (intOf v).toNat)
    case atStart => exact ⟨11, by omega, by rw [show ((11 : Nat) : Int) + 1 + 1 = 13 from rfl, cumL_end]; omega, rfl⟩
    case round =>
      obtain ⟨k, hk1, hk2, rfl⟩ := hrel
      have hnx := Lib.hid (cumL_next (oneY y) (m := (k : Int) + 1) (by omega) (by omega))
      have c0 := cumL_lo (m := (k : Int) + 1) o0 (by omega) (by omega)
      have c1 := cumL_hi (m := (k : Int) + 1) o1 o0 (by omega) (by omega)
      have l0 := @monL_lo (oneY y) ((k : Int) + 1) o0
      have HK := Lib.hid (fun W hW => HB.out k (by omega) W hW)
      by_cases hgt : n - aheadY y < cumL (oneY y) ((k : Int) + 1)
      · have hk0 : 0 < k := by
          rcases k with _ | k
          · have := cumL_one (oneY y); rw [show ((0 : Nat) : Int) + 1 = 1 from rfl] at hgt; omega
          · omega
        go_wp2_with (go_at_call 33; with_reducible refine (HK.out _ HT.out).mono ?_; rintro e w' ⟨rfl, rfl⟩)
        go_round
        case rel => exact ⟨k - 1, by omega, by rw [show ((k - 1 : Nat) : Int) + 1 + 1 = (k : Int) + 1 by omega]; exact hgt, by congr 1; omega⟩
        case measure => simp [intOf] <;> omega
      · have hdt : IsDate n y ((k : Int) + 1) (n - aheadY y - cumL (oneY y) ((k : Int) + 1) + 1) := ⟨y1, y2, by omega, by omega, by omega, by have := hnx.out; omega, by unfold dayN; omega⟩
        have HE2 := Lib.hid (HE.out _ _ hdt)
        clear hdt
        go_wp2_with (go_at_call 33; with_reducible refine (HK.out _ HT.out).mono ?_; rintro e w' ⟨rfl, rfl⟩)
        refine bodyPost_ret (v := .tuple #[.int .i64 y, .int .i64 ((k : Int) + 1), .int .i64 (n - aheadY y - cumL (oneY y) ((k : Int) + 1) + 1), .int .i64 0]) (by simp [results, Tryd.results26, go_sem]) rfl ⟨?_, rfl⟩
        obtain ⟨-, e2, e3⟩ := HE2.out
        rw [← e2, ← e3]

end Go.Proofs.YtiimkkhjejcmfaaDoor.Civ
