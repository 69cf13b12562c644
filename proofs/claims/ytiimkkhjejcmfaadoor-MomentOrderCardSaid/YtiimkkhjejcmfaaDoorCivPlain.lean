/- Plain facts of the calendar: years, months, dates and days, one to one. -/
import Derived.Test.YtiimkkhjejcmfaaDoorRows
namespace Go.Proofs.YtiimkkhjejcmfaaDoor.Civ

/-- Is it a year? -/
def yearB (y : Int) : Bool := decide (1 ≤ y) && decide (y ≤ 9999)
theorem yearB_iff {y : Int} : yearB y = true ↔ 1 ≤ y ∧ y ≤ 9999 := by unfold yearB; simp
theorem yearB_no {y : Int} : yearB y = false ↔ ¬ (1 ≤ y ∧ y ≤ 9999) := by rw [← yearB_iff]; simp
/-- A leap year, by its number alone. -/
def leapN (y : Int) : Bool := (decide (y % 4 = 0) && !decide (y % 100 = 0)) || decide (y % 400 = 0)
theorem leapN_iff {y : Int} : leapN y = true ↔ (y % 4 = 0 ∧ ¬ y % 100 = 0) ∨ y % 400 = 0 := by unfold leapN; simp
theorem leapN_no {y : Int} : leapN y = false ↔ ¬ ((y % 4 = 0 ∧ ¬ y % 100 = 0) ∨ y % 400 = 0) := by rw [← leapN_iff]; simp
/-- Is it a leap year? -/
def leapY (y : Int) : Bool := yearB y && leapN y
/-- One day more, of a leap year. -/
def oneY (y : Int) : Int := if leapN y = true then 1 else 0
theorem oneY_cases (y : Int) : oneY y = 0 ∨ oneY y = 1 := by unfold oneY; by_cases h : leapN y = true <;> simp [h]
theorem oneY_lo (y : Int) : 0 ≤ oneY y := by rcases oneY_cases y with h | h <;> omega
theorem oneY_hi (y : Int) : oneY y ≤ 1 := by rcases oneY_cases y with h | h <;> omega
/-- How many days a year has. -/
def daysY (y : Int) : Int := if 1 ≤ y ∧ y ≤ 9999 then 365 + oneY y else 0
theorem daysY_of {y : Int} (h1 : 1 ≤ y) (h2 : y ≤ 9999) : daysY y = 365 + oneY y := if_pos ⟨h1, h2⟩
theorem daysY_no {y : Int} (h : ¬ (1 ≤ y ∧ y ≤ 9999)) : daysY y = 0 := if_neg h
/-- How many days a month has, in a year with so many days more. -/
def monL (o m : Int) : Int := if m = 2 then 28 + o else if m = 4 ∨ m = 6 ∨ m = 9 ∨ m = 11 then 30 else 31
/-- How many days such a year has ahead of a month. -/
def cumL (o m : Int) : Int :=
  if m ≤ 1 then 0 else if m = 2 then 31 else if m = 3 then 59 + o else if m = 4 then 90 + o else if m = 5 then 120 + o else if m = 6 then 151 + o
  else if m = 7 then 181 + o else if m = 8 then 212 + o else if m = 9 then 243 + o else if m = 10 then 273 + o else if m = 11 then 304 + o else if m = 12 then 334 + o else 365 + o
/-- Is it a month? -/
theorem months {m : Int} (h1 : 1 ≤ m) (h2 : m ≤ 12) : m = 1 ∨ m = 2 ∨ m = 3 ∨ m = 4 ∨ m = 5 ∨ m = 6 ∨ m = 7 ∨ m = 8 ∨ m = 9 ∨ m = 10 ∨ m = 11 ∨ m = 12 := by omega
theorem cumL_next (o : Int) {m : Int} (h1 : 1 ≤ m) (h2 : m ≤ 12) : cumL o (m + 1) = cumL o m + monL o m := by
  rcases months h1 h2 with rfl | rfl | rfl | rfl | rfl | rfl | rfl | rfl | rfl | rfl | rfl | rfl <;> simp [cumL, monL] <;> omega
theorem cumL_one (o : Int) : cumL o 1 = 0 := rfl
theorem cumL_end (o : Int) : cumL o 13 = 365 + o := rfl
theorem monL_lo {o m : Int} (h : 0 ≤ o) : 28 ≤ monL o m := by unfold monL; split; (· omega); (· split <;> omega)
theorem monL_hi {o m : Int} (h : o ≤ 1) : monL o m ≤ 31 := by unfold monL; split; (· omega); (· split <;> omega)
theorem cumL_lo {o m : Int} (h : 0 ≤ o) (h1 : 1 ≤ m) (h2 : m ≤ 12) : 0 ≤ cumL o m := by
  rcases months h1 h2 with rfl | rfl | rfl | rfl | rfl | rfl | rfl | rfl | rfl | rfl | rfl | rfl <;> simp [cumL] <;> omega
theorem cumL_hi {o m : Int} (h : o ≤ 1) (h0 : 0 ≤ o) (h1 : 1 ≤ m) (h2 : m ≤ 12) : cumL o m + monL o m ≤ 365 + o := by
  rcases months h1 h2 with rfl | rfl | rfl | rfl | rfl | rfl | rfl | rfl | rfl | rfl | rfl | rfl <;> simp [cumL, monL] <;> omega
/-- Months follow one another. -/
theorem cumL_mono {o m k : Int} (h0 : 0 ≤ o) (h1 : 1 ≤ m) (h2 : k ≤ 12) (h : m < k) : cumL o m + monL o m ≤ cumL o k := by
  rcases months h1 (by omega) with rfl | rfl | rfl | rfl | rfl | rfl | rfl | rfl | rfl | rfl | rfl | rfl <;>
  rcases months (m := k) (by omega) h2 with rfl | rfl | rfl | rfl | rfl | rfl | rfl | rfl | rfl | rfl | rfl | rfl <;> simp [cumL, monL] at * <;> omega
/-- How many days a month has. -/
def lenM (y m : Int) : Int := if (1 ≤ y ∧ y ≤ 9999) ∧ 1 ≤ m ∧ m ≤ 12 then monL (oneY y) m else 0
theorem lenM_of {y m : Int} (h1 : 1 ≤ y) (h2 : y ≤ 9999) (h3 : 1 ≤ m) (h4 : m ≤ 12) : lenM y m = monL (oneY y) m := if_pos ⟨⟨h1, h2⟩, h3, h4⟩
theorem lenM_no {y m : Int} (h : ¬ ((1 ≤ y ∧ y ≤ 9999) ∧ 1 ≤ m ∧ m ≤ 12)) : lenM y m = 0 := if_neg h
theorem lenM_lo (y m : Int) : 0 ≤ lenM y m := by
  unfold lenM; split
  · have := @monL_lo (oneY y) m (oneY_lo y); omega
  · omega
theorem lenM_hi (y m : Int) : lenM y m ≤ 31 := by
  unfold lenM; split
  · exact monL_hi (oneY_hi y)
  · omega
theorem lenM_pos {y m d : Int} (h1 : 1 ≤ d) (h2 : d ≤ lenM y m) : 1 ≤ y ∧ y ≤ 9999 ∧ 1 ≤ m ∧ m ≤ 12 := by
  unfold lenM at h2; split at h2
  · rename_i h; exact ⟨h.1.1, h.1.2, h.2.1, h.2.2⟩
  · omega
/-- How many days there are ahead of a year. -/
def aheadY (y : Int) : Int := (y - 1) * 365 + (y - 1) / 4 - (y - 1) / 100 + (y - 1) / 400
theorem aheadY_next (y : Int) : aheadY (y + 1) = aheadY y + (365 + oneY y) := by
  unfold aheadY oneY
  by_cases h : leapN y = true
  · rw [if_pos h]; rw [leapN_iff] at h; omega
  · rw [if_neg h]; rw [leapN_iff] at h; omega
theorem aheadY_mono {y z : Int} (h : y ≤ z) : aheadY y ≤ aheadY z := by unfold aheadY; omega
theorem aheadY_lt {y z : Int} (h : aheadY y < aheadY z) : y < z := by
  by_cases hc : y < z
  · exact hc
  · have := aheadY_mono (y := z) (z := y) (by omega); omega
theorem aheadY_one : aheadY 1 = 0 := rfl
theorem aheadY_end : aheadY 10000 = 3652059 := rfl
theorem aheadY_lo {y : Int} (h : 1 ≤ y) : 0 ≤ aheadY y := aheadY_one ▸ aheadY_mono h
theorem aheadY_hi {y : Int} (h : y ≤ 10000) : aheadY y ≤ 3652059 := aheadY_end ▸ aheadY_mono h
/-- The year of a day. -/
def IsYear (n y : Int) : Prop := aheadY y ≤ n ∧ n < aheadY (y + 1)
theorem IsYear.one {n y z : Int} (h : IsYear n y) (k : IsYear n z) : y = z := by
  have h1 := h.1; have h2 := h.2; have k1 := k.1; have k2 := k.2
  have := aheadY_lt (y := y) (z := z + 1) (by omega)
  have := aheadY_lt (y := z) (z := y + 1) (by omega)
  omega
theorem IsYear.may {n y : Int} (h : IsYear n y) (h0 : 0 ≤ n) (h1 : n ≤ 3652058) : 1 ≤ y ∧ y ≤ 9999 := by
  have k1 := h.1; have k2 := h.2
  have := aheadY_one; have := aheadY_end
  have := aheadY_lt (y := 1) (z := y + 1) (by omega)
  have := aheadY_lt (y := y) (z := 10000) (by omega)
  omega
/-- The day of a date. -/
def dayN (y m d : Int) : Int := aheadY y + cumL (oneY y) m + d - 1
/-- A day's date. -/
structure IsDate (n y m d : Int) : Prop where
  y1 : 1 ≤ y
  y2 : y ≤ 9999
  m1 : 1 ≤ m
  m2 : m ≤ 12
  d1 : 1 ≤ d
  d2 : d ≤ monL (oneY y) m
  is : dayN y m d = n
theorem IsDate.len {n y m d : Int} (h : IsDate n y m d) : d ≤ lenM y m := by rw [lenM_of h.y1 h.y2 h.m1 h.m2]; exact h.d2
theorem isDate_of {y m d : Int} (h1 : 1 ≤ d) (h2 : d ≤ lenM y m) : IsDate (dayN y m d) y m d := by
  obtain ⟨a, b, c, e⟩ := lenM_pos h1 h2
  exact ⟨a, b, c, e, h1, by rwa [lenM_of a b c e] at h2, rfl⟩
theorem IsDate.year {n y m d : Int} (h : IsDate n y m d) : IsYear n y := by
  have h0 := h.is; have h1 := h.d1; have h2 := h.d2
  have k1 := cumL_lo (oneY_lo y) h.m1 h.m2
  have k2 := cumL_hi (oneY_hi y) (oneY_lo y) h.m1 h.m2
  unfold dayN at h0
  exact ⟨by omega, by rw [aheadY_next]; omega⟩
theorem IsDate.lo {n y m d : Int} (h : IsDate n y m d) : 0 ≤ n := by
  have := h.year.1; have := aheadY_lo h.y1; omega
theorem IsDate.hi {n y m d : Int} (h : IsDate n y m d) : n ≤ 3652058 := by
  have h1 := h.year.2; have h2 := h.y2; have := aheadY_hi (y := y + 1) (by omega); omega
theorem IsDate.one {n y m d a b c : Int} (h : IsDate n y m d) (k : IsDate n a b c) : y = a ∧ m = b ∧ d = c := by
  obtain rfl := h.year.one k.year
  have h0 := h.is; have k0 := k.is; have h1 := h.d1; have k1 := k.d1; have h2 := h.d2; have k2 := k.d2
  unfold dayN at h0 k0
  have : m = b := by
    by_cases e1 : m < b
    · have := cumL_mono (oneY_lo y) h.m1 k.m2 e1; omega
    · by_cases e2 : b < m
      · have := cumL_mono (oneY_lo y) k.m1 h.m2 e2; omega
      · omega
  subst this
  exact ⟨rfl, rfl, by omega⟩
/-- The next date of a day. -/
theorem IsDate.next {n y m d : Int} (h : IsDate n y m d) (hn : n < 3652058) :
    (d < monL (oneY y) m ∧ IsDate (n + 1) y m (d + 1)) ∨ (d = monL (oneY y) m ∧ m < 12 ∧ IsDate (n + 1) y (m + 1) 1) ∨ (d = monL (oneY y) m ∧ m = 12 ∧ IsDate (n + 1) (y + 1) 1 1) := by
  have h0 := h.is; have h1 := h.d1; have h2 := h.d2; have hm1 := h.m1; have hm2 := h.m2; have hy1 := h.y1; have hy2 := h.y2
  unfold dayN at h0
  have hc := cumL_next (oneY y) h.m1 h.m2
  by_cases e1 : d < monL (oneY y) m
  · exact .inl ⟨e1, h.y1, h.y2, h.m1, h.m2, by omega, by omega, by unfold dayN; omega⟩
  · by_cases e2 : m < 12
    · exact .inr (.inl ⟨by omega, e2, h.y1, h.y2, by omega, by omega, by omega, by have := @monL_lo (oneY y) (m + 1) (oneY_lo y); omega, by unfold dayN; omega⟩)
    · obtain rfl : m = 12 := by omega
      have hce := cumL_end (oneY y)
      have hc1 := cumL_one (oneY (y + 1))
      rw [show (12 : Int) + 1 = 13 from rfl, hce] at hc
      have ha := aheadY_next y
      refine .inr (.inr ⟨by omega, rfl, by omega, ?_, by omega, by omega, by omega, by have := @monL_lo (oneY (y + 1)) 1 (oneY_lo _); omega, by unfold dayN; omega⟩)
      have he := aheadY_end
      have := aheadY_lt (y := y + 1) (z := 10000) (by omega)
      omega
/-- 400 years on. -/
theorem oneY_400 (y : Int) : oneY (y + 400) = oneY y := by
  unfold oneY
  have : leapN (y + 400) = leapN y := by
    by_cases h : leapN y = true
    · rw [h]; rw [leapN_iff] at h ⊢; omega
    · have h' : leapN y = false := by simpa using h
      rw [h']; rw [leapN_no] at h' ⊢; omega
  rw [this]
theorem aheadY_400 (y : Int) : aheadY (y + 400) = aheadY y + 146097 := by unfold aheadY; omega
theorem dayN_400 (y m d : Int) : dayN (y + 400) m d = dayN y m d + 146097 := by unfold dayN; rw [oneY_400, aheadY_400]; omega
theorem lenM_400 {y m : Int} (h1 : 1 ≤ y) (h2 : y ≤ 9599) : lenM (y + 400) m = lenM y m := by
  unfold lenM; rw [oneY_400]
  by_cases h : 1 ≤ m ∧ m ≤ 12
  · rw [if_pos ⟨⟨by omega, by omega⟩, h⟩, if_pos ⟨⟨by omega, by omega⟩, h⟩]
  · rw [if_neg (fun k => h k.2), if_neg (fun k => h k.2)]

/-- The year of a day, worked out. -/
def yOf (n : Int) : Int := if aheadY (n * 400 / 146097 + 2) ≤ n then n * 400 / 146097 + 2 else if aheadY (n * 400 / 146097 + 1) ≤ n then n * 400 / 146097 + 1 else n * 400 / 146097
theorem yOf_is (n : Int) : IsYear n (yOf n) := by
  unfold yOf IsYear
  have h0 : aheadY (n * 400 / 146097) ≤ n := by unfold aheadY; omega
  have h3 : n < aheadY (n * 400 / 146097 + 2 + 1) := by unfold aheadY; omega
  generalize n * 400 / 146097 = q at *
  split
  · exact ⟨by assumption, h3⟩
  · split
    · exact ⟨by assumption, by rw [show q + 1 + 1 = q + 2 by omega]; omega⟩
    · exact ⟨h0, by omega⟩
theorem IsYear.eq {n y : Int} (h : IsYear n y) : y = yOf n := h.one (yOf_is n)
/-- The month of a place in a year. -/
def mAt (o r : Int) : Int :=
  if r < cumL o 2 then 1 else if r < cumL o 3 then 2 else if r < cumL o 4 then 3 else if r < cumL o 5 then 4 else if r < cumL o 6 then 5 else if r < cumL o 7 then 6
  else if r < cumL o 8 then 7 else if r < cumL o 9 then 8 else if r < cumL o 10 then 9 else if r < cumL o 11 then 10 else if r < cumL o 12 then 11 else 12
theorem mAt_is {o r : Int} (h1 : 0 ≤ r) (h2 : r < 365 + o) : 1 ≤ mAt o r ∧ mAt o r ≤ 12 ∧ cumL o (mAt o r) ≤ r ∧ r < cumL o (mAt o r + 1) := by
  unfold mAt
  repeat' split
  all_goals (refine ⟨by omega, by omega, ?_, ?_⟩ <;> first | assumption | omega | (simp [cumL] at *; omega) | (simp [cumL]; omega))
def mOf (n : Int) : Int := mAt (oneY (yOf n)) (n - aheadY (yOf n))
def dOf (n : Int) : Int := n - aheadY (yOf n) - cumL (oneY (yOf n)) (mOf n) + 1
theorem dOf_is {n : Int} (h0 : 0 ≤ n) (h1 : n ≤ 3652058) : IsDate n (yOf n) (mOf n) (dOf n) := by
  have hy := yOf_is n
  obtain ⟨a, b⟩ := hy.may h0 h1
  have h2 := hy.1; have h3 := hy.2; rw [aheadY_next] at h3
  obtain ⟨c, d, e, f⟩ := mAt_is (o := oneY (yOf n)) (r := n - aheadY (yOf n)) (by omega) (by omega)
  have hc := cumL_next (oneY (yOf n)) c d
  refine ⟨a, b, c, d, ?_, ?_, ?_⟩
  · unfold dOf mOf; omega
  · unfold dOf mOf; omega
  · unfold dayN dOf mOf; omega
theorem IsDate.eq {n y m d : Int} (h : IsDate n y m d) : y = yOf n ∧ m = mOf n ∧ d = dOf n := h.one (dOf_is h.lo h.hi)
/-- Is it a date? -/
def isD (y m d : Int) : Bool := decide (1 ≤ d) && decide (d ≤ lenM y m)
theorem isD_yes {y m d : Int} (h : isD y m d = true) : 1 ≤ d ∧ d ≤ lenM y m := by unfold isD at h; simpa using h
theorem isD_no {y m d : Int} (h : isD y m d = false) : ¬ (1 ≤ d ∧ d ≤ lenM y m) := by intro k; unfold isD at h; simp at h; omega
theorem isD_of {y m d : Int} (h : 1 ≤ d ∧ d ≤ lenM y m) : isD y m d = true := by unfold isD; simp [h]
theorem isD_not {y m d : Int} (h : ¬ (1 ≤ d ∧ d ≤ lenM y m)) : isD y m d = false := by
  rcases e : isD y m d with _ | _
  · rfl
  · exact absurd (isD_yes e) h
/-- What Day answers. -/
def dayA (y m d : Int) : Int := if isD y m d = true then dayN y m d else 0
def dayE (y m d : Int) : Int := if isD y m d = true then 0 else 8
/-- Is it a day? -/
def dayB (n : Int) : Bool := decide (0 ≤ n) && decide (n ≤ 3652058)
theorem dayB_yes {n : Int} (h : dayB n = true) : 0 ≤ n ∧ n ≤ 3652058 := by unfold dayB at h; simpa using h
theorem dayB_no {n : Int} (h : dayB n = false) : ¬ (0 ≤ n ∧ n ≤ 3652058) := by intro k; unfold dayB at h; simp at h; omega
theorem dayB_of {n : Int} (h : 0 ≤ n ∧ n ≤ 3652058) : dayB n = true := by unfold dayB; simp [h]
theorem dayB_not {n : Int} (h : ¬ (0 ≤ n ∧ n ≤ 3652058)) : dayB n = false := by
  rcases e : dayB n with _ | _
  · rfl
  · exact absurd (dayB_yes e) h
/-- What Date answers. -/
def dateY (n : Int) : Int := if dayB n = true then yOf n else 0
def dateM (n : Int) : Int := if dayB n = true then mOf n else 0
def dateD (n : Int) : Int := if dayB n = true then dOf n else 0
def dateE (n : Int) : Int := if dayB n = true then 0 else 8
/-- What Weekday and Place answer. -/
def wkA (n : Int) : Int := if dayB n = true then n % 7 else -1
def plA (n : Int) : Int := if dayB n = true then n - aheadY (yOf n) + 1 else 0
end Go.Proofs.YtiimkkhjejcmfaaDoor.Civ
