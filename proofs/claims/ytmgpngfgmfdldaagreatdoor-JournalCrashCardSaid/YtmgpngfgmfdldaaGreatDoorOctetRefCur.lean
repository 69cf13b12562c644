/- Contracts of the document's answer (errandref01) for cursors: fine, Left, End, New, Num, Take; and of Own and Back of the statements. -/
import Derived.Test.YtmgpngfgmfdldaaGreatDoorOct
namespace Go.Proofs.YtmgpngfgmfdldaaGreatDoor.Oct
open Go.RowKit

theorem fine_yes (s : ByteArray) (p : Int) (w : World) (h1 : 0 ≤ p) (h2 : p ≤ s.size) :
    Calls Tryz.prog 129 #[CV s p 0] w fun r w' => r = .returned (.bool true) ∧ Below w.heap.size w w' := by
  go_enter Tryz.func129, Tryz.ntmps129
  go_wp2
  go_ret
  exact ⟨rfl, (Below.refl _ _).push _⟩

theorem fine_failed (s : ByteArray) (p e : Int) (w : World) (he : (e == 0) = false) :
    Calls Tryz.prog 129 #[CV s p e] w fun r w' => r = .returned (.bool false) ∧ Below w.heap.size w w' := by
  go_enter Tryz.func129, Tryz.ntmps129
  go_wp2
  go_ret
  exact ⟨rfl, (Below.refl _ _).push _⟩

theorem fine_out (s : ByteArray) (p : Int) (w : World) (h : p < 0 ∨ s.size < p) :
    Calls Tryz.prog 129 #[CV s p 0] w fun r w' => r = .returned (.bool false) ∧ Below w.heap.size w w' := by
  rcases h with h | h
  · have h' : decide (0 ≤ p) = false := decide_eq_false (by omega)
    go_enter Tryz.func129, Tryz.ntmps129
    go_wp2
    go_ret
    exact ⟨rfl, (Below.refl _ _).push _⟩
  · have h' : decide (0 ≤ p) = true := decide_eq_true (by omega)
    have h'' : decide (p ≤ s.size) = false := decide_eq_false (by omega)
    go_enter Tryz.func129, Tryz.ntmps129
    go_wp2
    go_ret
    exact ⟨rfl, (Below.refl _ _).push _⟩

theorem rnum_failed (s : ByteArray) (p e n : Int) (w : World) (he : (e != 0) = true) :
    Calls Tryz.prog 101 #[CV s p e, .int .i64 n] w fun r w' => r = .returned (.tuple #[CV s p e, .int .i64 0]) ∧ Below w.heap.size w w' := by
  go_enter Tryz.func101, Tryz.ntmps101
  go_wp2_with fail
  refine bodyPost_ret (v := .tuple #[CV s p e, .int .i64 0]) (by simp [results, Tryz.results101, go_sem]) rfl ⟨rfl, ?_⟩
  exact ((Below.refl _ _).push _).push _

theorem boxes35 {s : ByteArray} {p e : Int} {w w1 : World} (hb : Below ((w.alloc (.cells #[.string s, .int .i64 p, .int .i64 e] 164)).alloc (.cells #[.string ⟨#[]⟩, .int .i64 0, .int .i64 0] 164)).heap.size ((w.alloc (.cells #[.string s, .int .i64 p, .int .i64 e] 164)).alloc (.cells #[.string ⟨#[]⟩, .int .i64 0, .int .i64 0] 164)) w1) :
    Box w1 w.heap.size (.string s) (.int .i64 p) (.int .i64 e) ∧ Box w1 (w.heap.size + 1) (.string ⟨#[]⟩) (.int .i64 0) (.int .i64 0) ∧ Below w.heap.size w w1 ∧ w.heap.size + 1 < w1.heap.size := by
  refine ⟨((Box.new w _ _ _ 164).alloc (by simp) _).below hb (by simp; omega), ?_, (((Below.refl _ _).push _).push _).call hb, by have := hb.size; simp at this; omega⟩
  have h0 := Box.new (w.alloc (.cells #[.string s, .int .i64 p, .int .i64 e] 164)) (.string ⟨#[]⟩) (.int .i64 0) (.int .i64 0) 164
  rw [World.size_alloc] at h0
  exact h0.below hb (by simp)

theorem rnum_arg (s : ByteArray) (p n : Int) (w : World) (h : ¬ (0 ≤ p ∧ p ≤ s.size ∧ 1 ≤ n ∧ n ≤ 7)) :
    Calls Tryz.prog 101 #[CV s p 0, .int .i64 n] w fun r w' => r = .returned (.tuple #[CV s p 2, .int .i64 0]) ∧ Below w.heap.size w w' := by
  by_cases hi : 0 ≤ p ∧ p ≤ s.size
  · obtain ⟨h1, h2⟩ := hi
    by_cases hn : n < 1
    · have d1 : decide (n < 1) = true := decide_eq_true hn
      clear h
      go_enter Tryz.func101, Tryz.ntmps101
      go_wp2_with fail
      refine (fine_yes s p _ h1 h2).mono ?_
      rintro r w1 ⟨rfl, hb⟩
      obtain ⟨⟨x0, x1, x2, y0, y1, y2⟩, ⟨x3, x4, x5, y3, y4, y5⟩, hB, hz⟩ := boxes35 hb
      have HB := Lib.hid hB
      clear hb hB
      go_wp2
      refine bodyPost_ret (v := .tuple #[CV s p 2, .int .i64 0]) (by simp [results, Tryz.results101, go_sem, *]) rfl ⟨rfl, ?_⟩
      exact ((HB.out.setCell (Nat.le_succ _) _).setCell (Nat.le_succ _) _).setCell (Nat.le_succ _) _
    · have d1 : decide (n < 1) = false := decide_eq_false hn
      have d2 : decide (7 < n) = true := decide_eq_true (by omega)
      clear h
      go_enter Tryz.func101, Tryz.ntmps101
      go_wp2_with fail
      refine (fine_yes s p _ h1 h2).mono ?_
      rintro r w1 ⟨rfl, hb⟩
      obtain ⟨⟨x0, x1, x2, y0, y1, y2⟩, ⟨x3, x4, x5, y3, y4, y5⟩, hB, hz⟩ := boxes35 hb
      have HB := Lib.hid hB
      clear hb hB
      go_wp2
      refine bodyPost_ret (v := .tuple #[CV s p 2, .int .i64 0]) (by simp [results, Tryz.results101, go_sem, *]) rfl ⟨rfl, ?_⟩
      exact ((HB.out.setCell (Nat.le_succ _) _).setCell (Nat.le_succ _) _).setCell (Nat.le_succ _) _
  · have HI := Lib.hid (show p < 0 ∨ s.size < p by omega)
    clear h hi
    go_enter Tryz.func101, Tryz.ntmps101
    go_wp2_with fail
    refine (fine_out s p _ HI.out).mono ?_
    rintro r w1 ⟨rfl, hb⟩
    obtain ⟨⟨x0, x1, x2, y0, y1, y2⟩, ⟨x3, x4, x5, y3, y4, y5⟩, hB, hz⟩ := boxes35 hb
    have HB := Lib.hid hB
    clear hb hB
    go_wp2
    refine bodyPost_ret (v := .tuple #[CV s p 2, .int .i64 0]) (by simp [results, Tryz.results101, go_sem, *]) rfl ⟨rfl, ?_⟩
    exact ((HB.out.setCell (Nat.le_succ _) _).setCell (Nat.le_succ _) _).setCell (Nat.le_succ _) _

theorem rnum_cut (s : ByteArray) (p n : Int) (w : World) (_hs : s.size ≤ maxLen) (h1 : 0 ≤ p) (h2 : p ≤ s.size) (h3 : 1 ≤ n) (h4 : n ≤ 7) (h5 : s.size - p < n) :
    Calls Tryz.prog 101 #[CV s p 0, .int .i64 n] w fun r w' => r = .returned (.tuple #[CV s p 3, .int .i64 0]) ∧ Below w.heap.size w w' := by
  have d1 : decide (n < 1) = false := decide_eq_false (by omega)
  have d2 : decide (7 < n) = false := decide_eq_false (by omega)
  go_enter Tryz.func101, Tryz.ntmps101
  go_wp2_with fail
  refine (fine_yes s p _ h1 h2).mono ?_
  rintro r w1 ⟨rfl, hb⟩
  obtain ⟨⟨x0, x1, x2, y0, y1, y2⟩, ⟨x3, x4, x5, y3, y4, y5⟩, hB, hz⟩ := boxes35 hb
  have HB := Lib.hid hB
  clear hb hB
  go_wp2
  refine bodyPost_ret (v := .tuple #[CV s p 3, .int .i64 0]) (by simp [results, Tryz.results101, go_sem, *]) rfl ⟨rfl, ?_⟩
  exact ((HB.out.setCell (Nat.le_succ _) _).setCell (Nat.le_succ _) _).setCell (Nat.le_succ _) _

theorem num_step2 (s : ByteArray) (p k : Nat) (hk : k < 7) (h : p + k < s.size) :
    wrap64 (wrap64 (numAt s p k * 256) + wrap64 s[p + k].toNat) = numAt s p (k + 1) := by
  have hb := s[p + k].toNat_lt
  have h1 := numAt_nonneg s p k
  have h2 := numAt_succ s p k h
  have h3 := numAt_lt s p (k + 1) (by omega)
  rw [IntWalk.wrap64_in (numAt s p k * 256) (by omega), IntWalk.wrap64_in (s[p + k].toNat : Int) (by omega), IntWalk.wrap64_in _ (by omega), h2]

set_option maxHeartbeats 400000 in
theorem rnum_ok (s : ByteArray) (p n : Int) (w : World) (hs : s.size ≤ maxLen) (h1 : 0 ≤ p) (h2 : p + n ≤ s.size) (h3 : 1 ≤ n) (h4 : n ≤ 7) :
    Calls Tryz.prog 101 #[CV s p 0, .int .i64 n] w fun r w' => r = .returned (.tuple #[CV s (p + n) 0, .int .i64 (numAt s p n.toNat)]) ∧ Below w.heap.size w w' := by
  obtain ⟨p, rfl⟩ := Int.eq_ofNat_of_zero_le h1
  have h5 : (p : Int) ≤ s.size := by omega
  have hd : decide ((s.size : Int) - p < n) = false := decide_eq_false (by omega)
  have d1 : decide (n < 1) = false := decide_eq_false (by omega)
  have d2 : decide (7 < n) = false := decide_eq_false (by omega)
  unfold maxLen at hs
  go_enter Tryz.func101, Tryz.ntmps101
  go_wp2_with fail
  refine (fine_yes s p _ h1 h5).mono ?_
  rintro r w1 ⟨rfl, hb⟩
  obtain ⟨⟨x0, x1, x2, y0, y1, y2⟩, ⟨x3, x4, x5, y3, y4, y5⟩, hB, hz⟩ := boxes35 hb
  have HB := Lib.hid hB
  clear hb hB
  go_wp2
  go_loop [6, 7] (fun a i => ∃ k : Nat, (k : Int) ≤ n ∧ i = .int .i64 k ∧ a = .int .i64 (numAt s p k)) (fun _ i => (n - intOf i).toNat)
  case atStart => exact ⟨0, by omega, rfl, by rw [numAt_zero]⟩
  case round =>
    obtain ⟨k, hk, rfl, rfl⟩ := hrel
    by_cases hlt : (k : Int) < n
    · have hi : p + k < s.size := by omega
      go_wp2
      go_round
      case rel => exact ⟨k + 1, by omega, by go_num, by rw [num_step2 s p k (by omega) hi]⟩
      case measure => simp [intOf]; omega
    · obtain rfl : n = k := by omega
      go_wp2
      refine bodyPost_ret (v := .tuple #[CV s (p + k) 0, .int .i64 (numAt s p k)]) (by simp [results, Tryz.results101, go_sem, *]) rfl ⟨rfl, ?_⟩
      exact ((HB.out.setCell (Nat.le_succ _) _).setCell (Nat.le_succ _) _).setCell (Nat.le_succ _) _

end Go.Proofs.YtmgpngfgmfdldaaGreatDoor.Oct
