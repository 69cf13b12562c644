/- The walk of CivilBack. -/
import Derived.Test.YthkiecgaoidmfaaDoorCivLaw
import Derived.Deep.RegionWith
import Derived.ChangeKeysEq
namespace Go.Proofs.YthkiecgaoidmfaaDoor.Civ
open Go.RowKit

theorem CTab.below {w w' : World} (h : CTab w) (hb : Below w.heap.size w w') : CTab w' := by
  intro i hi
  have h0 := h i hi
  have hlt : (⟨0, i, none⟩ : Addr).block < w.heap.size := by
    by_cases hc : 0 < w.heap.size
    · exact hc
    · exfalso
      simp [World.cell?, Array.getElem?_eq_none (show w.heap.size ≤ 0 by omega)] at h0
  rw [hb.cell hlt]; exact h0

/-- What is asked of a day and the next one. -/
structure Nx (n y m d u v x : Int) : Prop where
  is : IsDate n y m d
  nx : IsDate (n + 1) u v x
theorem dateY_of {n y m d : Int} (h : IsDate n y m d) : dateY n = y ∧ dateM n = m ∧ dateD n = d ∧ dateE n = 0 := by
  obtain ⟨e1, e2, e3⟩ := h.eq
  have hb := dayB_of ⟨h.lo, h.hi⟩
  simp [dateY, dateM, dateD, dateE, hb, e1, e2, e3]
theorem dayA_of {n y m d : Int} (h : IsDate n y m d) : dayA y m d = n ∧ dayE y m d = 0 := by
  have hb := isD_of ⟨h.d1, h.len⟩
  simp [dayA, dayE, hb, h.is]
theorem wkA_of {n : Int} (h0 : 0 ≤ n) (h1 : n ≤ 3652058) : wkA n = n % 7 := by simp [wkA, dayB_of ⟨h0, h1⟩]
theorem wkA_next {n : Int} (h0 : 0 ≤ n) (h1 : n < 3652058) : wkA (n + 1) = (wkA n + 1) % 7 := by rw [wkA_of (by omega) (by omega), wkA_of (by omega) (by omega)]; omega
theorem plA_of {n y m d : Int} (h : IsDate n y m d) : plA n = n - aheadY y + 1 := by
  simp [plA, dayB_of ⟨h.lo, h.hi⟩, ← h.year.eq]
theorem plA_lo {n y m d : Int} (h : IsDate n y m d) : 1 ≤ plA n ∧ plA n ≤ 366 := by
  rw [plA_of h]
  have h1 := h.year.1; have h2 := h.year.2; rw [aheadY_next] at h2
  have := oneY_hi y
  omega

theorem plain3 : Tryd.prog.plainKey 3 = true := by kernel_rfl
theorem cells3 : Tryd.prog.cellsOf 3 = 1 := by kernel_rfl
/-- An array of three numbers, held against itself. -/
theorem eq3' (W : World) (d : Nat) (a b c : Int) : (Op.equalIn (d + 1 + 1) 37 (.agg #[.int .i64 a, .int .i64 b, .int .i64 c]) (.agg #[.int .i64 a, .int .i64 b, .int .i64 c])).run Tryd.prog W = .ok true W := by
  obtain ⟨i, hi⟩ := info_of_underlying Tryd.underlying3
  rw [run_equalIn_array (P := Tryd.prog) W (d + 1) _ _ Tryd.underlying37 hi, cells3]
  have e0 : (part 3 #[.int .i64 a, .int .i64 b, .int .i64 c] 0).run Tryd.prog W = .ok (.int .i64 a) W := run_part_plain W plain3 (by simp)
  have e1 : (part 3 #[.int .i64 a, .int .i64 b, .int .i64 c] 1).run Tryd.prog W = .ok (.int .i64 b) W := run_part_plain W plain3 (by simp)
  have e2 : (part 3 #[.int .i64 a, .int .i64 b, .int .i64 c] 2).run Tryd.prog W = .ok (.int .i64 c) W := run_part_plain W plain3 (by simp)
  have f := fun x : Int => run_equalIn_int (P := Tryd.prog) (w := W) d 3 .i64 .i64 x x Tryd.underlying3
  simp [Op.eqItems, List.range_succ, Sem.run_bind, e0, e1, e2, f, Result.andThen_ok]
theorem eq3 (W : World) (a b c : Int) : (Op.equalIn 10000 37 (.agg #[.int .i64 a, .int .i64 b, .int .i64 c]) (.agg #[.int .i64 a, .int .i64 b, .int .i64 c])).run Tryd.prog W = .ok true W := eq3' W 9998 a b c

set_option maxRecDepth 100000 in
set_option maxHeartbeats 2000000 in
theorem walk_back (k : Int) (hk0 : 0 ≤ k) (hk1 : k < 4294967296) (w : World) (hT : CTab w) :
    Calls Tryd.prog 5 #[.int .u32 k] w fun r w' => r = .returned (.bool true) ∧ Below w.heap.size w w' := by
  have hn0 : 0 ≤ k % 3652058 := by omega
  have hn1 : k % 3652058 < 3652058 := by omega
  have hD := dOf_is hn0 (by omega : k % 3652058 ≤ 3652058)
  have HT := Lib.hid hT
  clear hT
  have et : k.tmod 3652058 = k % 3652058 := Int.tmod_eq_emod_of_nonneg (by omega)
  have H1 := Lib.hid (fun W hW => date_any (k % 3652058) W hW)
  have H2 := Lib.hid (fun W hW => day_any (yOf (k % 3652058)) (mOf (k % 3652058)) (dOf (k % 3652058)) W hW)
  have H3 := Lib.hid (fun W hW => date_any (k % 3652058 + 1) W hW)
  have H4 := Lib.hid (fun W hW => len_any (yOf (k % 3652058)) (mOf (k % 3652058)) W hW)
  have H5 := Lib.hid (fun W => weekday_any (k % 3652058) W)
  have H6 := Lib.hid (fun W => weekday_any (k % 3652058 + 1) W)
  have H7 := Lib.hid (fun W => place_any (k % 3652058) W)
  have H8 := Lib.hid (fun W => place_any (k % 3652058 + 1) W)
  have H9 := Lib.hid (fun W hW => awake_any W hW)
  have hwk := wkA_of hn0 (by omega : k % 3652058 ≤ 3652058)
  have hw0 : 0 ≤ wkA (k % 3652058) := by rw [hwk]; omega
  have hw1 : wkA (k % 3652058) ≤ 6 := by rw [hwk]; omega
  rw [wkA_next hn0 hn1] at H6
  clear hwk
  obtain ⟨p0, p1⟩ := plA_lo hD
  obtain ⟨e1, e2, e3, e4⟩ := dateY_of hD
  rw [e1, e2, e3, e4] at H1
  obtain ⟨f1, f2⟩ := dayA_of hD
  rw [f1, f2] at H2
  rw [lenM_of hD.y1 hD.y2 hD.m1 hD.m2] at H4
  have y1 := hD.y1; have y2 := hD.y2; have m1 := hD.m1; have m2 := hD.m2; have d1 := hD.d1; have d2 := hD.d2
  have hnx := hD.next hn1
  have hpl := plA_of hD
  have l1 := @monL_hi (oneY (yOf (k % 3652058))) (mOf (k % 3652058)) (oneY_hi _)
  clear e1 e2 e3 e4 f1 f2 hD
  generalize yOf (k % 3652058) = y at *
  generalize mOf (k % 3652058) = m at *
  generalize dOf (k % 3652058) = d at *
  rcases hnx with ⟨g1, hN⟩ | ⟨g1, g2, hN⟩ | ⟨g1, g2, hN⟩
  · obtain ⟨e1, e2, e3, e4⟩ := dateY_of hN
    rw [e1, e2, e3, e4] at H3
    have hq := plA_of hN
    rw [show plA (k % 3652058 + 1) = plA (k % 3652058) + 1 by omega] at H8
    have g3 : (d == monL (oneY y) m) = false := by simp; omega
    have g4 : ¬ d = monL (oneY y) m := by omega
    have g5 : m = 12 → d < 31 := by intro h; subst h; simpa [monL] using g1
    have heq := fun W => eq3 W y m (d + 1)
    have heq' := fun W => eq3 W y 12 (d + 1)
    clear e1 e2 e3 e4 hq hpl hN
    generalize plA (k % 3652058) = p at *
    generalize wkA (k % 3652058) = q at *
    generalize monL (oneY y) m = l at *
    generalize k % 3652058 = n at *
    go_enter Tryd.func5, Tryd.ntmps5
    go_wp2_with (first | (go_at_call 16; first | (with_reducible refine (H1.out _ (HT.out.below (by repeat (first | exact Below.refl _ _ | exact Below.alloc (Below.refl _ _) (Nat.le_refl _) _ | refine Below.drew ?_ | (with_reducible refine Below.setCell ?_ (Nat.le_refl _) _))))).mono ?_; rintro e w' ⟨rfl, rfl⟩) | (with_reducible refine (H3.out _ (HT.out.below (by repeat (first | exact Below.refl _ _ | exact Below.alloc (Below.refl _ _) (Nat.le_refl _) _ | refine Below.drew ?_ | (with_reducible refine Below.setCell ?_ (Nat.le_refl _) _))))).mono ?_; rintro e w' ⟨rfl, rfl⟩)) | (go_at_call 7; with_reducible refine (H2.out _ (HT.out.below (by repeat (first | exact Below.refl _ _ | exact Below.alloc (Below.refl _ _) (Nat.le_refl _) _ | refine Below.drew ?_ | (with_reducible refine Below.setCell ?_ (Nat.le_refl _) _))))).mono ?_; rintro e w' ⟨rfl, rfl⟩) | (go_at_call 13; with_reducible refine (H4.out _ (HT.out.below (by repeat (first | exact Below.refl _ _ | exact Below.alloc (Below.refl _ _) (Nat.le_refl _) _ | refine Below.drew ?_ | (with_reducible refine Below.setCell ?_ (Nat.le_refl _) _))))).mono ?_; rintro e w' ⟨rfl, rfl⟩) | (go_at_call 18; first | (with_reducible refine (H5.out _).mono ?_; rintro e w' ⟨rfl, rfl⟩) | (with_reducible refine (H6.out _).mono ?_; rintro e w' ⟨rfl, rfl⟩)) | (go_at_call 20; first | (with_reducible refine (H7.out _).mono ?_; rintro e w' ⟨rfl, rfl⟩) | (with_reducible refine (H8.out _).mono ?_; rintro e w' ⟨rfl, rfl⟩)) | (go_at_call 15; with_reducible refine (H9.out _ (HT.out.below (by repeat (first | exact Below.refl _ _ | exact Below.alloc (Below.refl _ _) (Nat.le_refl _) _ | refine Below.drew ?_ | (with_reducible refine Below.setCell ?_ (Nat.le_refl _) _))))).mono ?_; rintro e w' ⟨rfl, rfl⟩))
    all_goals (go_ret; exact ⟨rfl, by repeat (first | exact Below.refl _ _ | refine Below.setCell ?_ (Nat.le_refl _) _ | exact Below.alloc (Below.refl _ _) (Nat.le_refl _) _ | refine Below.drew ?_)⟩)
  · obtain ⟨e1, e2, e3, e4⟩ := dateY_of hN
    rw [e1, e2, e3, e4] at H3
    have hq := plA_of hN
    rw [show plA (k % 3652058 + 1) = plA (k % 3652058) + 1 by omega] at H8
    have g4 : (m == 12) = false := by simp; omega
    have heq := fun W => eq3 W y (m + 1) 1
    subst g1
    clear e1 e2 e3 e4 hq hpl hN
    generalize plA (k % 3652058) = p at *
    generalize wkA (k % 3652058) = q at *
    generalize monL (oneY y) m = l at *
    generalize k % 3652058 = n at *
    go_enter Tryd.func5, Tryd.ntmps5
    go_wp2_with (first | (go_at_call 16; first | (with_reducible refine (H1.out _ (HT.out.below (by repeat (first | exact Below.refl _ _ | exact Below.alloc (Below.refl _ _) (Nat.le_refl _) _ | refine Below.drew ?_ | (with_reducible refine Below.setCell ?_ (Nat.le_refl _) _))))).mono ?_; rintro e w' ⟨rfl, rfl⟩) | (with_reducible refine (H3.out _ (HT.out.below (by repeat (first | exact Below.refl _ _ | exact Below.alloc (Below.refl _ _) (Nat.le_refl _) _ | refine Below.drew ?_ | (with_reducible refine Below.setCell ?_ (Nat.le_refl _) _))))).mono ?_; rintro e w' ⟨rfl, rfl⟩)) | (go_at_call 7; with_reducible refine (H2.out _ (HT.out.below (by repeat (first | exact Below.refl _ _ | exact Below.alloc (Below.refl _ _) (Nat.le_refl _) _ | refine Below.drew ?_ | (with_reducible refine Below.setCell ?_ (Nat.le_refl _) _))))).mono ?_; rintro e w' ⟨rfl, rfl⟩) | (go_at_call 13; with_reducible refine (H4.out _ (HT.out.below (by repeat (first | exact Below.refl _ _ | exact Below.alloc (Below.refl _ _) (Nat.le_refl _) _ | refine Below.drew ?_ | (with_reducible refine Below.setCell ?_ (Nat.le_refl _) _))))).mono ?_; rintro e w' ⟨rfl, rfl⟩) | (go_at_call 18; first | (with_reducible refine (H5.out _).mono ?_; rintro e w' ⟨rfl, rfl⟩) | (with_reducible refine (H6.out _).mono ?_; rintro e w' ⟨rfl, rfl⟩)) | (go_at_call 20; first | (with_reducible refine (H7.out _).mono ?_; rintro e w' ⟨rfl, rfl⟩) | (with_reducible refine (H8.out _).mono ?_; rintro e w' ⟨rfl, rfl⟩)) | (go_at_call 15; with_reducible refine (H9.out _ (HT.out.below (by repeat (first | exact Below.refl _ _ | exact Below.alloc (Below.refl _ _) (Nat.le_refl _) _ | refine Below.drew ?_ | (with_reducible refine Below.setCell ?_ (Nat.le_refl _) _))))).mono ?_; rintro e w' ⟨rfl, rfl⟩))
    all_goals (go_ret; exact ⟨rfl, by repeat (first | exact Below.refl _ _ | refine Below.setCell ?_ (Nat.le_refl _) _ | exact Below.alloc (Below.refl _ _) (Nat.le_refl _) _ | refine Below.drew ?_)⟩)
  · obtain ⟨e1, e2, e3, e4⟩ := dateY_of hN
    rw [e1, e2, e3, e4] at H3
    have hq := plA_of hN
    have hz := hN.is
    rw [show plA (k % 3652058 + 1) = 1 by unfold dayN at hz; rw [cumL_one] at hz; omega] at H8
    have heq := fun W => eq3 W (y + 1) 1 1
    subst g2
    obtain rfl : d = 31 := g1
    rw [show monL (oneY y) 12 = 31 from rfl] at *
    clear e1 e2 e3 e4 hq hpl hN hz
    generalize plA (k % 3652058) = p at *
    generalize wkA (k % 3652058) = q at *
    generalize k % 3652058 = n at *
    go_enter Tryd.func5, Tryd.ntmps5
    go_wp2_with (first | (go_at_call 16; first | (with_reducible refine (H1.out _ (HT.out.below (by repeat (first | exact Below.refl _ _ | exact Below.alloc (Below.refl _ _) (Nat.le_refl _) _ | refine Below.drew ?_ | (with_reducible refine Below.setCell ?_ (Nat.le_refl _) _))))).mono ?_; rintro e w' ⟨rfl, rfl⟩) | (with_reducible refine (H3.out _ (HT.out.below (by repeat (first | exact Below.refl _ _ | exact Below.alloc (Below.refl _ _) (Nat.le_refl _) _ | refine Below.drew ?_ | (with_reducible refine Below.setCell ?_ (Nat.le_refl _) _))))).mono ?_; rintro e w' ⟨rfl, rfl⟩)) | (go_at_call 7; with_reducible refine (H2.out _ (HT.out.below (by repeat (first | exact Below.refl _ _ | exact Below.alloc (Below.refl _ _) (Nat.le_refl _) _ | refine Below.drew ?_ | (with_reducible refine Below.setCell ?_ (Nat.le_refl _) _))))).mono ?_; rintro e w' ⟨rfl, rfl⟩) | (go_at_call 13; with_reducible refine (H4.out _ (HT.out.below (by repeat (first | exact Below.refl _ _ | exact Below.alloc (Below.refl _ _) (Nat.le_refl _) _ | refine Below.drew ?_ | (with_reducible refine Below.setCell ?_ (Nat.le_refl _) _))))).mono ?_; rintro e w' ⟨rfl, rfl⟩) | (go_at_call 18; first | (with_reducible refine (H5.out _).mono ?_; rintro e w' ⟨rfl, rfl⟩) | (with_reducible refine (H6.out _).mono ?_; rintro e w' ⟨rfl, rfl⟩)) | (go_at_call 20; first | (with_reducible refine (H7.out _).mono ?_; rintro e w' ⟨rfl, rfl⟩) | (with_reducible refine (H8.out _).mono ?_; rintro e w' ⟨rfl, rfl⟩)) | (go_at_call 15; with_reducible refine (H9.out _ (HT.out.below (by repeat (first | exact Below.refl _ _ | exact Below.alloc (Below.refl _ _) (Nat.le_refl _) _ | refine Below.drew ?_ | (with_reducible refine Below.setCell ?_ (Nat.le_refl _) _))))).mono ?_; rintro e w' ⟨rfl, rfl⟩))
    all_goals (go_ret; exact ⟨rfl, by repeat (first | exact Below.refl _ _ | refine Below.setCell ?_ (Nat.le_refl _) _ | exact Below.alloc (Below.refl _ _) (Nat.le_refl _) _ | refine Below.drew ?_)⟩)
end Go.Proofs.YthkiecgaoidmfaaDoor.Civ
