/- Plain facts of weeks: where they begin, the years that they belong to, and their numbers. -/
import Derived.Test.YtldpnidegicmeaaDoorCivPlain
namespace Go.Proofs.YtldpnidegicmeaaDoor.Wk
open Civ

/-- Is it a weekday? -/
def wkB (w : Int) : Bool := decide (0 ≤ w) && decide (w ≤ 6)
theorem wkB_yes {w : Int} (h : wkB w = true) : 0 ≤ w ∧ w ≤ 6 := by unfold wkB at h; simpa using h
theorem wkB_no {w : Int} (h : wkB w = false) : ¬ (0 ≤ w ∧ w ≤ 6) := by intro k; unfold wkB at h; simp at h; omega
theorem wkB_of {w : Int} (h : 0 ≤ w ∧ w ≤ 6) : wkB w = true := by unfold wkB; simp [h]
theorem wkB_not {w : Int} (h : ¬ (0 ≤ w ∧ w ≤ 6)) : wkB w = false := by
  rcases e : wkB w with _ | _
  · rfl
  · exact absurd (wkB_yes e) h
/-- Where a day's week begins. -/
def begW (n w : Int) : Int := n - (n - w) % 7
theorem begW_le (n w : Int) : begW n w ≤ n := by unfold begW; omega
theorem begW_ge (n w : Int) : n - 6 ≤ begW n w := by unfold begW; omega
theorem begW_mod (n w : Int) : (begW n w - w) % 7 = 0 := by unfold begW; omega
theorem begW_one {n w b : Int} (h1 : b ≤ n) (h2 : n - 6 ≤ b) (h3 : (b - w) % 7 = 0) : begW n w = b := by unfold begW; omega
/-- What Begin answers. -/
def begA (n w : Int) : Int := if dayB n = true ∧ wkB w = true then begW n w else 0
theorem begA_of {n w : Int} (h1 : dayB n = true) (h2 : wkB w = true) : begA n w = begW n w := if_pos ⟨h1, h2⟩
theorem begA_day {n w : Int} (h : dayB n = false) : begA n w = 0 := if_neg (fun k => by rw [h] at k; cases k.1)
theorem begA_wk {n w : Int} (h : wkB w = false) : begA n w = 0 := if_neg (fun k => by rw [h] at k; cases k.2)
/-- Where a year's first week begins. -/
def fstW (y w : Int) : Int := begW (aheadY y + 3) w
theorem fstW_le (y w : Int) : fstW y w ≤ aheadY y + 3 := begW_le _ _
theorem fstW_ge (y w : Int) : aheadY y - 3 ≤ fstW y w := by have := begW_ge (aheadY y + 3) w; unfold fstW; omega
theorem fstW_mod (y w : Int) : (fstW y w - w) % 7 = 0 := begW_mod _ _
theorem fstW_next (y w : Int) : fstW (y + 1) w = fstW y w + 364 ∨ fstW (y + 1) w = fstW y w + 371 := by
  have h1 := fstW_le y w; have h2 := fstW_ge y w; have h3 := fstW_mod y w
  have k1 := fstW_le (y + 1) w; have k2 := fstW_ge (y + 1) w; have k3 := fstW_mod (y + 1) w
  have hn := aheadY_next y
  have o0 := oneY_lo y; have o1 := oneY_hi y
  omega
theorem fstW_400 (y w : Int) : fstW (y + 400) w = fstW y w + 146097 := by
  have h1 := fstW_le y w; have h2 := begW_ge (aheadY y + 3) w; have h3 := fstW_mod y w
  have := aheadY_400 y
  unfold fstW at *
  exact begW_one (by omega) (by omega) (by omega)
/-- A week's beginnings are of the same weekday. -/
theorem begW_below {n w f : Int} (hf : (f - w) % 7 = 0) (h : f ≤ n) : f ≤ begW n w := by unfold begW; omega
theorem begW_above {n w f : Int} (hf : (f - w) % 7 = 0) (h : n < f) : begW n w ≤ f - 7 := by unfold begW; omega
/-- The year that a day's week belongs to. -/
def IsWY (n w y : Int) : Prop := fstW y w ≤ n ∧ n < fstW (y + 1) w
theorem fstW_mono {y z : Int} (w : Int) (h : y < z) : fstW y w < fstW z w := by
  have h1 := fstW_le y w
  have h2 := fstW_ge z w
  have h3 := aheadY_mono (y := y + 1) (z := z) (by omega)
  have := aheadY_next y; have := oneY_lo y
  omega
theorem IsWY.one {n w y z : Int} (h : IsWY n w y) (k : IsWY n w z) : y = z := by
  have h1 := h.1; have h2 := h.2; have k1 := k.1; have k2 := k.2
  by_cases c : y < z
  · by_cases d : y + 1 = z
    · subst d; omega
    · have := fstW_mono w (y := y + 1) (z := z) (by omega); omega
  · by_cases c : z < y
    · by_cases d : z + 1 = y
      · subst d; omega
      · have := fstW_mono w (y := z + 1) (z := y) (by omega); omega
    · omega
/-- The year that a day's week belongs to, worked out. -/
def wyOf (n w : Int) : Int := if n < fstW (yOf n) w then yOf n - 1 else if fstW (yOf n + 1) w ≤ n then yOf n + 1 else yOf n
theorem wyOf_is (n w : Int) : IsWY n w (wyOf n w) := by
  have hy := yOf_is n
  have h1 := hy.1; have h2 := hy.2
  unfold wyOf IsWY
  generalize yOf n = y at *
  have a1 := aheadY_next y
  have a2 := aheadY_next (y - 1)
  have f1 := fstW_le (y - 1) w
  have f2 := fstW_ge (y + 1 + 1) w
  have a3 := aheadY_next (y + 1)
  have o1 := oneY_lo y; have o2 := oneY_lo (y - 1); have o3 := oneY_lo (y + 1)
  rw [show y - 1 + 1 = y by omega] at a2
  by_cases c : n < fstW y w
  · rw [if_pos c, show y - 1 + 1 = y by omega]
    exact ⟨by omega, c⟩
  · rw [if_neg c]
    by_cases d : fstW (y + 1) w ≤ n
    · rw [if_pos d]; exact ⟨d, by omega⟩
    · rw [if_neg d]; exact ⟨by omega, by omega⟩
theorem IsWY.eq {n w y : Int} (h : IsWY n w y) : y = wyOf n w := h.one (wyOf_is n w)
/-- It is the year of the day, or the one ahead, or the next one. -/
theorem wyOf_near (n w : Int) : yOf n - 1 ≤ wyOf n w ∧ wyOf n w ≤ yOf n + 1 := by
  unfold wyOf; split
  · omega
  · split <;> omega
theorem wyOf_may {n w : Int} (h0 : 0 ≤ n) (h1 : n ≤ 3652058) : 0 ≤ wyOf n w ∧ wyOf n w ≤ 10000 := by
  have := (yOf_is n).may h0 h1
  have := wyOf_near n w
  omega
/-- The number of a day's week. -/
def wkOf (n w : Int) : Int := (n - fstW (wyOf n w) w) / 7 + 1
/-- How many weeks belong to a year. -/
def wksW (y w : Int) : Int := (fstW (y + 1) w - fstW y w) / 7
theorem wksW_is (y w : Int) : fstW (y + 1) w = fstW y w + 7 * wksW y w ∧ 52 ≤ wksW y w ∧ wksW y w ≤ 53 := by
  unfold wksW; rcases fstW_next y w with h | h <;> rw [h] <;> omega
/-- A day's week, its number, and where it begins. -/
structure Wk (n w y k b : Int) : Prop where
  yr : wyOf n w = y
  no : wkOf n w = k
  bg : begW n w = b
  is : fstW y w + 7 * (k - 1) = b
  k1 : 1 ≤ k
  k2 : k ≤ wksW y w
theorem wk_of {n w y : Int} (h : IsWY n w y) {b : Int} (hb : (b - w) % 7 = 0) (h1 : b ≤ n) (h2 : n - 6 ≤ b) :
    Wk n w y ((b - fstW y w) / 7 + 1) b := by
  have e := h.eq
  have hf := fstW_mod y w
  have hw := wksW_is y w
  have hx := h.1; have hz := h.2
  refine ⟨e.symm, ?_, begW_one h1 h2 hb, by omega, by omega, by omega⟩
  unfold wkOf
  rw [← e]; omega
theorem wk_is (n w : Int) : Wk n w (wyOf n w) (wkOf n w) (begW n w) := by
  have h := wk_of (wyOf_is n w) (begW_mod n w) (begW_le n w) (begW_ge n w)
  exact ⟨rfl, rfl, rfl, by rw [h.no]; exact h.is, by rw [h.no]; exact h.k1, by rw [h.no]; exact h.k2⟩
/-- The next day. -/
theorem Wk.next {n w y k b : Int} (h : Wk n w y k b) :
    ((¬ (n + 1 - w) % 7 = 0) ∧ Wk (n + 1) w y k b) ∨ ((n + 1 - w) % 7 = 0 ∧ b = n - 6 ∧ k = wksW y w ∧ Wk (n + 1) w (y + 1) 1 (n + 1)) ∨ ((n + 1 - w) % 7 = 0 ∧ b = n - 6 ∧ ¬ k = wksW y w ∧ Wk (n + 1) w y (k + 1) (n + 1)) := by
  have hy := wyOf_is n w
  rw [h.yr] at hy
  have b1 := begW_le n w; have b2 := begW_ge n w; have b3 := begW_mod n w
  rw [h.bg] at b1 b2 b3
  have his := h.is
  have hx := hy.1; have hz := hy.2
  have hf := fstW_mod y w
  have hg := fstW_mod (y + 1) w
  have hw := wksW_is y w
  by_cases c : (n + 1 - w) % 7 = 0
  · have e : b = n - 6 := by omega
    by_cases d : k = wksW y w
    · refine .inr (.inl ⟨c, e, d, ?_⟩)
      have hn := fstW_next (y + 1) w
      have e2 : n + 1 = fstW (y + 1) w := by omega
      have := wk_of (n := n + 1) (w := w) (y := y + 1) ⟨by omega, by omega⟩ (b := n + 1) c (by omega) (by omega)
      rwa [show (n + 1 - fstW (y + 1) w) / 7 + 1 = 1 by omega] at this
    · refine .inr (.inr ⟨c, e, d, ?_⟩)
      have hk := h.k2
      have := wk_of (n := n + 1) (w := w) (y := y) ⟨by omega, by omega⟩ (b := n + 1) c (by omega) (by omega)
      rwa [show (n + 1 - fstW y w) / 7 + 1 = k + 1 by omega] at this
  · refine .inl ⟨c, ?_⟩
    have := wk_of (n := n + 1) (w := w) (y := y) ⟨by omega, by omega⟩ (b := b) b3 (by omega) (by omega)
    rwa [show (b - fstW y w) / 7 + 1 = k by omega] at this
/-- What First and Weeks answer. -/
def fstA (y w : Int) : Int := if (0 ≤ y ∧ y ≤ 10001) ∧ wkB w = true then fstW y w else 0
theorem fstA_of {y w : Int} (h1 : 0 ≤ y) (h2 : y ≤ 10001) (h3 : wkB w = true) : fstA y w = fstW y w := if_pos ⟨⟨h1, h2⟩, h3⟩
theorem fstA_no {y w : Int} (h : ¬ (0 ≤ y ∧ y ≤ 10001)) : fstA y w = 0 := if_neg (fun k => h k.1)
theorem fstA_wk {y w : Int} (h : wkB w = false) : fstA y w = 0 := if_neg (fun k => by rw [h] at k; cases k.2)
def wksA (y w : Int) : Int := if (0 ≤ y ∧ y ≤ 10000) ∧ wkB w = true then wksW y w else 0
theorem wksA_of {y w : Int} (h1 : 0 ≤ y) (h2 : y ≤ 10000) (h3 : wkB w = true) : wksA y w = wksW y w := if_pos ⟨⟨h1, h2⟩, h3⟩
theorem wksA_no {y w : Int} (h : ¬ (0 ≤ y ∧ y ≤ 10000)) : wksA y w = 0 := if_neg (fun k => h k.1)
theorem wksA_wk {y w : Int} (h : wkB w = false) : wksA y w = 0 := if_neg (fun k => by rw [h] at k; cases k.2)
/-- What Number and Back answer. -/
def numY (n w : Int) : Int := if dayB n = true ∧ wkB w = true then wyOf n w else 0
def numK (n w : Int) : Int := if dayB n = true ∧ wkB w = true then wkOf n w else 0
def bckA (n w : Int) : Int := if dayB n = true ∧ wkB w = true then wkOf n w - wksW (wyOf n w) w - 1 else 0
theorem num_of {n w : Int} (h1 : dayB n = true) (h2 : wkB w = true) : numY n w = wyOf n w ∧ numK n w = wkOf n w ∧ bckA n w = wkOf n w - wksW (wyOf n w) w - 1 :=
  ⟨if_pos ⟨h1, h2⟩, if_pos ⟨h1, h2⟩, if_pos ⟨h1, h2⟩⟩
theorem num_no {n w : Int} (h : ¬ (dayB n = true ∧ wkB w = true)) : numY n w = 0 ∧ numK n w = 0 ∧ bckA n w = 0 := ⟨if_neg h, if_neg h, if_neg h⟩
/-- The days of a week that are of its year. -/
theorem wk_four {n w y : Int} (h : wyOf n w = y) :
    (aheadY y ≤ begW n w ∧ begW n w + 3 < aheadY (y + 1)) ∨ (begW n w < aheadY y ∧ aheadY y ≤ begW n w + 3 ∧ begW n w + 6 < aheadY (y + 1)) := by
  have hy := wyOf_is n w
  rw [h] at hy
  have b1 := begW_below (fstW_mod y w) hy.1
  have b2 := begW_above (fstW_mod (y + 1) w) hy.2
  have f1 := fstW_ge y w
  have f2 := fstW_le (y + 1) w
  have hn := aheadY_next y
  have o := oneY_lo y
  omega
end Go.Proofs.YtldpnidegicmeaaDoor.Wk
