/- Contracts of At, Check, Split and Before, of the program and of the document. -/
import Derived.Test.YtiimkkhjejcmfaaDoorMomWide
namespace Go.Proofs.YtiimkkhjejcmfaaDoor.Mom
open Go.RowKit Civ

/-- A value. -/
abbrev MV (k s : Int) : Value := .agg #[.int .u8 k, .int .i64 s]
theorem box2 (w : World) (o : Obj) (u v : Value) : Below w.heap.size w (((w.alloc o).setCell ⟨w.heap.size, 0, none⟩ u).setCell ⟨w.heap.size, 1, none⟩ v) :=
  ((new1 w o).setCell (p := ⟨w.heap.size, 0, none⟩) (by simp) u).setCell (p := ⟨w.heap.size, 1, none⟩) (by simp) v
theorem kB_cases {k : Int} (h : kB k = true) : k = 1 ∨ k = 2 ∨ k = 3 := by have := kB_yes h; omega

theorem at_any (k s : Int) (w : World) :
    Calls Tryd.prog 14 #[.int .u8 k, .int .i64 s] w fun r w' => r = .returned (.tuple #[MV (atK k s) (atS k s), .int .i64 (atE k s)]) ∧ Below w.heap.size w w' := by
  unfold atK atS
  rcases e : kB k with _ | _
  · have h := kB_no e
    have hE : atE k s = 11 := by unfold atE; rw [if_pos e]
    rw [hE, if_neg (by omega), if_neg (by omega)]
    have c1 : (k != 1) = true := by simp; omega
    have c2 : (k != 2) = true := by simp; omega
    have c3 : (k != 3) = true := by simp; omega
    clear hE e h
    go_enter Tryd.func14, Tryd.ntmps14
    go_wp2_with fail
    refine bodyPost_ret (v := .tuple #[MV 0 0, .int .i64 11]) (by simp [results, Tryd.results14, go_sem, *]) rfl ⟨rfl, ?_⟩
    exact new1 w _
  · rcases d : sB s with _ | _
    · have hs := sB_no d
      have hE : atE k s = 8 := by unfold atE; rw [if_neg (by simp [e]), if_pos d]
      rw [hE, if_neg (by omega), if_neg (by omega)]
      have hk := kB_cases e
      clear hE e d
      by_cases h0 : s < 0
      · rcases hk with rfl | rfl | rfl
        all_goals
          go_enter Tryd.func14, Tryd.ntmps14
          go_wp2_with fail
          refine bodyPost_ret (v := .tuple #[MV 0 0, .int .i64 8]) (by simp [results, Tryd.results14, go_sem, *]) rfl ⟨rfl, ?_⟩
          exact new1 w _
      · have h1 : 315537897599 < s := by omega
        rcases hk with rfl | rfl | rfl
        all_goals
          go_enter Tryd.func14, Tryd.ntmps14
          go_wp2_with fail
          refine bodyPost_ret (v := .tuple #[MV 0 0, .int .i64 8]) (by simp [results, Tryd.results14, go_sem, *]) rfl ⟨rfl, ?_⟩
          exact new1 w _
    · obtain ⟨s0, s1⟩ := sB_yes d
      rw [atE_of e d, if_pos rfl, if_pos rfl]
      have hk := kB_cases e
      have h2 : decide (315537897599 < s) = false := by simp; omega
      clear e d
      rcases hk with rfl | rfl | rfl
      · go_enter Tryd.func14, Tryd.ntmps14
        go_wp2_with fail
        refine bodyPost_ret (v := .tuple #[MV 1 (s - s % 86400), .int .i64 0]) (by simp [results, Tryd.results14, go_sem, *]) rfl ⟨rfl, ?_⟩
        exact new1 w _
      · go_enter Tryd.func14, Tryd.ntmps14
        go_wp2_with fail
        refine bodyPost_ret (v := .tuple #[MV 2 s, .int .i64 0]) (by simp [results, Tryd.results14, go_sem, *]) rfl ⟨rfl, ?_⟩
        exact new1 w _
      · go_enter Tryd.func14, Tryd.ntmps14
        go_wp2_with fail
        refine bodyPost_ret (v := .tuple #[MV 3 s, .int .i64 0]) (by simp [results, Tryd.results14, go_sem, *]) rfl ⟨rfl, ?_⟩
        exact new1 w _

theorem day_times {s : Int} : s / 86400 * 86400 = s - s % 86400 := by omega

theorem rat_any (k s : Int) (w : World) :
    Calls Tryd.prog 15 #[.int .u8 k, .int .i64 s] w fun r w' => r = .returned (.tuple #[MV (atK k s) (atS k s), .int .i64 (atE k s)]) ∧ Below w.heap.size w w' := by
  unfold atK atS
  rcases e : kB k with _ | _
  · have h := kB_no e
    have hE : atE k s = 11 := by unfold atE; rw [if_pos e]
    rw [hE, if_neg (by omega), if_neg (by omega)]
    clear hE e
    by_cases c1 : k < 1
    · clear h
      go_enter Tryd.func15, Tryd.ntmps15
      go_wp2_with fail
      refine bodyPost_ret (v := .tuple #[MV 0 0, .int .i64 11]) (by simp [results, Tryd.results15, go_sem, *]) rfl ⟨rfl, ?_⟩
      exact new1 w _
    · have c2 : 3 < k := by omega
      clear h
      go_enter Tryd.func15, Tryd.ntmps15
      go_wp2_with fail
      refine bodyPost_ret (v := .tuple #[MV 0 0, .int .i64 11]) (by simp [results, Tryd.results15, go_sem, *]) rfl ⟨rfl, ?_⟩
      exact new1 w _
  · rcases d : sB s with _ | _
    · have hs := sB_no d
      have hE : atE k s = 8 := by unfold atE; rw [if_neg (by simp [e]), if_pos d]
      rw [hE, if_neg (by omega), if_neg (by omega)]
      have hk := kB_cases e
      clear hE e d
      by_cases h0 : s < 0
      · rcases hk with rfl | rfl | rfl
        all_goals
          go_enter Tryd.func15, Tryd.ntmps15
          go_wp2_with fail
          refine bodyPost_ret (v := .tuple #[MV 0 0, .int .i64 8]) (by simp [results, Tryd.results15, go_sem, *]) rfl ⟨rfl, ?_⟩
          exact new1 w _
      · have h1 : 315537897599 < s := by omega
        rcases hk with rfl | rfl | rfl
        all_goals
          go_enter Tryd.func15, Tryd.ntmps15
          go_wp2_with fail
          refine bodyPost_ret (v := .tuple #[MV 0 0, .int .i64 8]) (by simp [results, Tryd.results15, go_sem, *]) rfl ⟨rfl, ?_⟩
          exact new1 w _
    · obtain ⟨s0, s1⟩ := sB_yes d
      rw [atE_of e d, if_pos rfl, if_pos rfl]
      have hk := kB_cases e
      have h2 : decide (315537897599 < s) = false := by simp; omega
      clear e d
      rcases hk with rfl | rfl | rfl
      · rw [if_pos rfl, ← day_times]
        go_enter Tryd.func15, Tryd.ntmps15
        go_wp2_with fail
        refine bodyPost_ret (v := .tuple #[MV 1 (s / 86400 * 86400), .int .i64 0]) (by simp [results, Tryd.results15, go_sem, *]) rfl ⟨rfl, ?_⟩
        exact new1 w _
      · go_enter Tryd.func15, Tryd.ntmps15
        go_wp2_with fail
        refine bodyPost_ret (v := .tuple #[MV 2 s, .int .i64 0]) (by simp [results, Tryd.results15, go_sem, *]) rfl ⟨rfl, ?_⟩
        exact new1 w _
      · go_enter Tryd.func15, Tryd.ntmps15
        go_wp2_with fail
        refine bodyPost_ret (v := .tuple #[MV 3 s, .int .i64 0]) (by simp [results, Tryd.results15, go_sem, *]) rfl ⟨rfl, ?_⟩
        exact new1 w _
end Go.Proofs.YtiimkkhjejcmfaaDoor.Mom
