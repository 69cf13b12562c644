/- Contracts of Check, Split and Before, of the program and of the document. -/
import Derived.Test.YtiimkkhjejcmfaaDoorMomChk
import Derived.Deep.QuietTactic
import Derived.BigQuiet
namespace Go.Proofs.YtiimkkhjejcmfaaDoor.Mom
open Go.RowKit Civ

theorem chk_at {k s : Int} (h : ¬ atE k s = 0) : chkA k s = atE k s := if_neg h
theorem chk_day {s : Int} (h : atE 1 s = 0) (hs : ¬ s % 86400 = 0) : chkA 1 s = 2 := by unfold chkA; rw [if_pos h, if_pos ⟨rfl, hs⟩]
/-- A value's block behind a call. -/
theorem two_cells {w w1 : World} {k s : Int} {t : TypeId} (hb : Below (w.alloc (.cells #[.int .u8 k, .int .i64 s] t)).heap.size (w.alloc (.cells #[.int .u8 k, .int .i64 s] t)) w1) :
    w1.cell? ⟨w.heap.size, 0, none⟩ = some (.int .u8 k) ∧ w1.cell? ⟨w.heap.size, 1, none⟩ = some (.int .i64 s) ∧ Below w.heap.size w w1 ∧ w.heap.size < w1.heap.size := by
  have h0 : (w.alloc (.cells #[.int .u8 k, .int .i64 s] t)).heap[w.heap.size]? = some (.cells #[.int .u8 k, .int .i64 s] t) := heap_alloc_new w _
  have h1 := (hb.block w.heap.size (by simp)).trans h0
  refine ⟨?_, ?_, (new1 w _).trans (hb.mono (by simp)), by have := hb.size; simp at this; omega⟩
  · rw [cell_of_row w1 w.heap.size 0 _ t _ h1]; rfl
  · rw [cell_of_row w1 w.heap.size 1 _ t _ h1]; rfl

theorem check_any (k s : Int) (w : World) :
    Calls Tryd.prog 16 #[MV k s] w fun r w' => r = .returned (.int .i64 (chkA k s)) ∧ Below w.heap.size w w' := by
  have H := Lib.hid (fun W => at_any k s W)
  by_cases e : atE k s = 0
  · obtain ⟨a, b⟩ := atE_ok e
    obtain ⟨s0, s1⟩ := sB_yes b
    have hk := kB_cases a
    unfold atK atS at H
    rw [if_pos e, if_pos e, e] at H
    by_cases c : k = 1 ∧ ¬ s % 86400 = 0
    · obtain ⟨rfl, c⟩ := c
      rw [chk_day e c]
      rw [if_pos rfl] at H
      have t1 : (s == s - s % 86400) = false := by simp; omega
      clear e a b hk c
      generalize s - s % 86400 = z at *
      go_enter Tryd.func16, Tryd.ntmps16
      go_wp2_with (go_at_call 14; with_reducible refine (H.out _).mono ?_; rintro e w1 ⟨rfl, hb⟩; obtain ⟨c0, c1, hB, hz⟩ := two_cells hb; have HB := Lib.hid hB; clear hb hB)
      go_ret
      exact ⟨rfl, HB.out.alloc (by omega) _⟩
    · have hz0 : (if k = 1 then s - s % 86400 else s) = s := by
        split
        · rename_i h1
          have : s % 86400 = 0 := by by_cases h2 : s % 86400 = 0; (· exact h2); (· exact absurd ⟨h1, h2⟩ c)
          omega
        · rfl
      have hc : chkA k s = 0 := by unfold chkA; rw [if_pos e, if_neg c]
      rw [hc]
      rw [hz0] at H
      have t1 : (s == s) = true := by simp
      have t2 : (k == k) = true := by simp
      clear e a b hk c hz0 hc
      go_enter Tryd.func16, Tryd.ntmps16
      go_wp2_with (go_at_call 14; with_reducible refine (H.out _).mono ?_; rintro e w1 ⟨rfl, hb⟩; obtain ⟨c0, c1, hB, hz⟩ := two_cells hb; have HB := Lib.hid hB; clear hb hB)
      go_ret
      exact ⟨rfl, HB.out.alloc (by omega) _⟩
  · rw [chk_at e]
    have t1 : (atE k s != 0) = true := by simp; omega
    clear e
    generalize atK k s = k' at *
    generalize atS k s = s' at *
    generalize atE k s = e' at *
    go_enter Tryd.func16, Tryd.ntmps16
    go_wp2_with (go_at_call 14; with_reducible refine (H.out _).mono ?_; rintro e w1 ⟨rfl, hb⟩; obtain ⟨c0, c1, hB, hz⟩ := two_cells hb; have HB := Lib.hid hB; clear hb hB)
    go_ret
    exact ⟨rfl, HB.out.alloc (by omega) _⟩

theorem rcheck_any (k s : Int) (w : World) :
    Calls Tryd.prog 17 #[MV k s] w fun r w' => r = .returned (.int .i64 (chkA k s)) ∧ Below w.heap.size w w' := by
  rcases e : kB k with _ | _
  · have h := kB_no e
    have hE : atE k s = 11 := by unfold atE; rw [if_pos e]
    rw [chk_at (by omega), hE]
    clear hE e
    by_cases c1 : k < 1
    · clear h
      go_enter Tryd.func17, Tryd.ntmps17
      go_wp2_with fail
      go_ret
      exact ⟨rfl, new1 w _⟩
    · have c2 : 3 < k := by omega
      clear h
      go_enter Tryd.func17, Tryd.ntmps17
      go_wp2_with fail
      go_ret
      exact ⟨rfl, new1 w _⟩
  · rcases d : sB s with _ | _
    · have hs := sB_no d
      have hE : atE k s = 8 := by unfold atE; rw [if_neg (by simp [e]), if_pos d]
      rw [chk_at (by omega), hE]
      have hk := kB_cases e
      clear hE e d
      by_cases h0 : s < 0
      · rcases hk with rfl | rfl | rfl
        all_goals
          go_enter Tryd.func17, Tryd.ntmps17
          go_wp2_with fail
          go_ret
          exact ⟨rfl, new1 w _⟩
      · have h1 : 315537897599 < s := by omega
        rcases hk with rfl | rfl | rfl
        all_goals
          go_enter Tryd.func17, Tryd.ntmps17
          go_wp2_with fail
          go_ret
          exact ⟨rfl, new1 w _⟩
    · obtain ⟨s0, s1⟩ := sB_yes d
      have hE := atE_of e d
      have hk := kB_cases e
      have h2 : decide (315537897599 < s) = false := by simp; omega
      clear e d
      rcases hk with rfl | rfl | rfl
      · by_cases c : s % 86400 = 0
        · have hc : chkA 1 s = 0 := by unfold chkA; rw [if_pos hE, if_neg (fun h => h.2 c)]
          have t1 : (s % 86400 != 0) = false := by simp [c]
          rw [hc]
          clear hc c hE
          go_enter Tryd.func17, Tryd.ntmps17
          go_wp2_with fail
          go_ret
          exact ⟨rfl, new1 w _⟩
        · have t1 : (s % 86400 != 0) = true := by simp [c]
          rw [chk_day hE c]
          clear c hE
          go_enter Tryd.func17, Tryd.ntmps17
          go_wp2_with fail
          go_ret
          exact ⟨rfl, new1 w _⟩
      · have hc : chkA 2 s = 0 := by unfold chkA; rw [if_pos hE, if_neg (fun h => absurd h.1 (by decide))]
        rw [hc]
        clear hc hE
        go_enter Tryd.func17, Tryd.ntmps17
        go_wp2_with fail
        go_ret
        exact ⟨rfl, new1 w _⟩
      · have hc : chkA 3 s = 0 := by unfold chkA; rw [if_pos hE, if_neg (fun h => absurd h.1 (by decide))]
        rw [hc]
        clear hc hE
        go_enter Tryd.func17, Tryd.ntmps17
        go_wp2_with fail
        go_ret
        exact ⟨rfl, new1 w _⟩

theorem below_n {w wr : World} {B : Nat} (h : Below B w wr) : ∀ n, Below B w (wr.drewN n) := by
  intro n
  induction n with
  | zero => exact h
  | succ n ih => exact ih.drew
theorem split_any (k s : Int) (w : World) :
    Calls Tryd.prog 12 #[MV k s] w fun r w' => r = .returned (.tuple #[.int .i64 (spD k s), .int .i64 (spS k s)]) ∧ Below w.heap.size w w' := by
  have H := Lib.hid (fun W => check_any k s W)
  unfold spD spS
  by_cases e : chkA k s = 0
  · obtain ⟨-, -, s0, s1, -⟩ := chk_ok e
    rw [if_pos e, if_pos e]
    rw [e] at H
    clear e
    go_enter Tryd.func12, Tryd.ntmps12
    go_wp2_with (go_at_call 16; with_reducible refine (H.out _).mono ?_; rintro e w1 ⟨rfl, hb⟩; obtain ⟨c0, c1, hB, hz⟩ := two_cells hb; have HB := Lib.hid hB; clear hb hB)
    go_quiet (fail)
    go_wp2_with fail
    refine bodyPost_ret (v := .tuple #[.int .i64 (s / 86400), .int .i64 (s % 86400)]) (by simp [results, Tryd.results12, go_sem, *]) rfl ⟨rfl, ?_⟩
    exact below_n HB.out _
  · rw [if_neg e, if_neg e]
    have t1 : (chkA k s != 0) = true := by simp; omega
    clear e
    generalize chkA k s = e' at *
    go_enter Tryd.func12, Tryd.ntmps12
    go_wp2_with (go_at_call 16; with_reducible refine (H.out _).mono ?_; rintro e w1 ⟨rfl, hb⟩; obtain ⟨c0, c1, hB, hz⟩ := two_cells hb; have HB := Lib.hid hB; clear hb hB)
    refine bodyPost_ret (v := .tuple #[.int .i64 0, .int .i64 0]) (by simp [results, Tryd.results12, go_sem, *]) rfl ⟨rfl, HB.out⟩

theorem rsplit_any (k s : Int) (w : World) :
    Calls Tryd.prog 13 #[MV k s] w fun r w' => r = .returned (.tuple #[.int .i64 (spD k s), .int .i64 (spS k s)]) ∧ Below w.heap.size w w' := by
  have H := Lib.hid (fun W => rcheck_any k s W)
  unfold spD spS
  by_cases e : chkA k s = 0
  · obtain ⟨-, -, s0, s1, -⟩ := chk_ok e
    rw [if_pos e, if_pos e]
    rw [e] at H
    clear e
    go_enter Tryd.func13, Tryd.ntmps13
    go_wp2_with (go_at_call 17; with_reducible refine (H.out _).mono ?_; rintro e w1 ⟨rfl, hb⟩; obtain ⟨c0, c1, hB, hz⟩ := two_cells hb; have HB := Lib.hid hB; clear hb hB)
    go_quiet (fail)
    go_wp2_with fail
    refine bodyPost_ret (v := .tuple #[.int .i64 (s / 86400), .int .i64 (s % 86400)]) (by simp [results, Tryd.results13, go_sem, *]) rfl ⟨rfl, ?_⟩
    exact below_n HB.out _
  · rw [if_neg e, if_neg e]
    have t1 : (chkA k s != 0) = true := by simp; omega
    clear e
    generalize chkA k s = e' at *
    go_enter Tryd.func13, Tryd.ntmps13
    go_wp2_with (go_at_call 17; with_reducible refine (H.out _).mono ?_; rintro e w1 ⟨rfl, hb⟩; obtain ⟨c0, c1, hB, hz⟩ := two_cells hb; have HB := Lib.hid hB; clear hb hB)
    refine bodyPost_ret (v := .tuple #[.int .i64 0, .int .i64 0]) (by simp [results, Tryd.results13, go_sem, *]) rfl ⟨rfl, HB.out⟩

theorem two_news (w : World) (o o' : Obj) : Below w.heap.size w ((w.alloc o).alloc o') := (new1 w o).alloc (by simp) o'

theorem before_any (k s k' s' : Int) (w : World) :
    Calls Tryd.prog 18 #[MV k s, MV k' s'] w fun r w' => r = .returned (.bool (befA k s k' s')) ∧ Below w.heap.size w w' := by
  unfold befA
  by_cases c : s = s'
  · subst c
    have t1 : (s == s) = true := by simp
    have e : (decide (s < s) || (decide (s = s) && decide (k < k'))) = decide (k < k') := by simp
    rw [e]
    clear e
    go_enter Tryd.func18, Tryd.ntmps18
    go_wp2_with fail
    go_ret
    exact ⟨rfl, two_news w _ _⟩
  · have t1 : (s == s') = false := by simp [c]
    have e : (decide (s < s') || (decide (s = s') && decide (k < k'))) = decide (s < s') := by simp [c]
    rw [e]
    clear e c
    go_enter Tryd.func18, Tryd.ntmps18
    go_wp2_with fail
    go_ret
    exact ⟨rfl, two_news w _ _⟩

theorem rbefore_any (k s k' s' : Int) (w : World) :
    Calls Tryd.prog 19 #[MV k s, MV k' s'] w fun r w' => r = .returned (.bool (befA k s k' s')) ∧ Below w.heap.size w w' := by
  unfold befA
  by_cases h : s < s'
  · have e : (decide (s < s') || (decide (s = s') && decide (k < k'))) = true := by simp [h]
    rw [e]
    clear e
    go_enter Tryd.func19, Tryd.ntmps19
    go_wp2_with fail
    go_ret
    exact ⟨rfl, two_news w _ _⟩
  · by_cases c : s = s'
    · subst c
      have t1 : (s == s) = true := by simp
      have e : (decide (s < s) || (decide (s = s) && decide (k < k'))) = decide (k < k') := by simp
      rw [e]
      have t2 : decide (s < s) = false := by simp
      clear e h
      go_enter Tryd.func19, Tryd.ntmps19
      go_wp2_with fail
      go_ret
      exact ⟨rfl, two_news w _ _⟩
    · have t1 : (s == s') = false := by simp [c]
      have e : (decide (s < s') || (decide (s = s') && decide (k < k'))) = false := by simp [c, h]
      rw [e]
      clear e c
      go_enter Tryd.func19, Tryd.ntmps19
      go_wp2_with fail
      go_ret
      exact ⟨rfl, two_news w _ _⟩
end Go.Proofs.YtiimkkhjejcmfaaDoor.Mom
