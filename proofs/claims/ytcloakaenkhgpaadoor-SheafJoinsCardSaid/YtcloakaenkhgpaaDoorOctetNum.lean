/- Contracts of Num and Take of package octet: what they read, for every cursor and width. -/
import Derived.Test.YtcloakaenkhgpaaDoorOctetCur
import Derived.Test.YtcloakaenkhgpaaDoorOctetPure
namespace Go.Proofs.YtcloakaenkhgpaaDoor.Oct
open Go.RowKit

set_option maxHeartbeats 400000 in
theorem num_ok (s : ByteArray) (p n : Int) (w : World) (hs : s.size ≤ maxLen) (h1 : 0 ≤ p) (h2 : p + n ≤ s.size) (h3 : 1 ≤ n) (h4 : n ≤ 7) :
    Calls Tryd.prog 40 #[CV s p 0, .int .i64 n] w fun r w' => r = .returned (.tuple #[CV s (p + n) 0, .int .i64 (numAt s p n.toNat)]) ∧ Below w.heap.size w w' := by
  obtain ⟨p, rfl⟩ := Int.eq_ofNat_of_zero_le h1
  have h5 : (p : Int) ≤ s.size := by omega
  have hd : decide ((s.size : Int) - p < n) = false := by simp; omega
  go_enter Tryd.func40, Tryd.ntmps40
  go_wp2_with fail
  refine (inside_yes s p 0 _ hs h1 h5).mono ?_
  rintro r w1 ⟨rfl, hb⟩
  obtain ⟨hc, hf⟩ := bcell hb
  have hz : w.heap.size + 1 < w1.heap.size := by have := hb.size; simp at this; omega
  go_wp2_with fail
  refine (isWidth_yes n _ h3 h4).mono ?_
  rintro r w1' ⟨rfl, rfl⟩
  go_wp2_with fail
  refine (left_yes s p _ hs h1 h5).mono ?_
  rintro r w2 ⟨rfl, hb2⟩
  have hz2 : w.heap.size + 1 < w2.heap.size := by have := hb2.size; omega
  have B0 : Box w2 w.heap.size (.string s) (.int .i64 p) (.int .i64 0) := (((Box.new w _ _ _ 81).alloc (by simp) _).below hb (by simp; omega)).below hb2 (by omega)
  have B1 : Box w2 (w.heap.size + 1) (.string ⟨#[]⟩) (.int .i64 0) (.int .i64 0) := by
    have h0 := Box.new (w.alloc (.cells #[.string s, .int .i64 p, .int .i64 0] 81)) (.string ⟨#[]⟩) (.int .i64 0) (.int .i64 0) 81
    rw [World.size_alloc] at h0
    exact (h0.below hb (by simp)).below hb2 (by omega)
  have HB : Hid (Below w.heap.size w w2) := Lib.hid ((((Below.refl _ _).alloc (Nat.le_refl _) _).alloc (by simp) _).trans ((hb.mono (by simp; omega)).trans (hb2.mono (by omega))))
  clear hb hb2 hc hf hz
  obtain ⟨x0, x1, x2, y0, y1, y2⟩ := B0
  obtain ⟨x3, x4, x5, y3, y4, y5⟩ := B1
  unfold maxLen at hs
  go_wp2
  go_loop [6, 29] (fun a i => ∃ k : Nat, (k : Int) ≤ n ∧ i = .int .i64 k ∧ a = .int .i64 (numAt s p k)) (fun _ i => (n - intOf i).toNat)
  case atStart => exact ⟨0, by omega, rfl, by rw [numAt_zero]⟩
  case round =>
    obtain ⟨k, hk, rfl, rfl⟩ := hrel
    by_cases hlt : (k : Int) < n
    · have hi : p + k < s.size := by omega
      go_wp2
      go_round
      case rel => exact ⟨k + 1, by omega, by go_num, by rw [num_step s p k (by omega) hi]⟩
      case measure => simp [intOf]; omega
    · obtain rfl : n = k := by omega
      go_wp2
      refine bodyPost_ret (v := .tuple #[CV s (p + k) 0, .int .i64 (numAt s p k)]) (by simp [results, Tryd.results40, go_sem, *]) rfl ⟨rfl, ?_⟩
      exact (((HB.out.setCell (Nat.le_refl _) _).setCell (Nat.le_succ _) _).setCell (Nat.le_succ _) _).setCell (Nat.le_succ _) _

theorem num_failed (s : ByteArray) (p e n : Int) (w : World) (he : (e != 0) = true) :
    Calls Tryd.prog 40 #[CV s p e, .int .i64 n] w fun r w' => r = .returned (.tuple #[CV s p e, .int .i64 0]) ∧ Below w.heap.size w w' := by
  go_enter Tryd.func40, Tryd.ntmps40
  go_wp2_with fail
  refine bodyPost_ret (v := .tuple #[CV s p e, .int .i64 0]) (by simp [results, Tryd.results40, go_sem]) rfl ⟨rfl, ?_⟩
  exact ((Below.refl _ _).alloc (Nat.le_refl _) _).alloc (by simp) _

/-- What is known of the two blocks of Num behind calls. -/
theorem num_boxes {s : ByteArray} {p e : Int} {w w1 : World} (hb : Below ((w.alloc (.cells #[.string s, .int .i64 p, .int .i64 e] 81)).alloc (.cells #[.string ⟨#[]⟩, .int .i64 0, .int .i64 0] 81)).heap.size ((w.alloc (.cells #[.string s, .int .i64 p, .int .i64 e] 81)).alloc (.cells #[.string ⟨#[]⟩, .int .i64 0, .int .i64 0] 81)) w1) :
    Box w1 w.heap.size (.string s) (.int .i64 p) (.int .i64 e) ∧ Box w1 (w.heap.size + 1) (.string ⟨#[]⟩) (.int .i64 0) (.int .i64 0) ∧ Below w.heap.size w w1 ∧ w.heap.size + 1 < w1.heap.size := by
  refine ⟨((Box.new w _ _ _ 81).alloc (by simp) _).below hb (by simp; omega), ?_, (((Below.refl _ _).alloc (Nat.le_refl _) _).alloc (by simp) _).trans (hb.mono (by simp; omega)), by have := hb.size; simp at this; omega⟩
  have h0 := Box.new (w.alloc (.cells #[.string s, .int .i64 p, .int .i64 e] 81)) (.string ⟨#[]⟩) (.int .i64 0) (.int .i64 0) 81
  rw [World.size_alloc] at h0
  exact h0.below hb (by simp)

theorem num_out (s : ByteArray) (p n : Int) (w : World) (hs : s.size ≤ maxLen) (h : p < 0 ∨ s.size < p) :
    Calls Tryd.prog 40 #[CV s p 0, .int .i64 n] w fun r w' => r = .returned (.tuple #[CV s p 2, .int .i64 0]) ∧ Below w.heap.size w w' := by
  have H := Lib.hid h
  clear h
  go_enter Tryd.func40, Tryd.ntmps40
  go_wp2_with fail
  refine (inside_no s p 0 _ hs H.out).mono ?_
  rintro r w1 ⟨rfl, hb⟩
  obtain ⟨⟨x0, x1, x2, y0, y1, y2⟩, B1, hB, hz⟩ := num_boxes hb
  have B1' := Lib.hid B1
  have HB := Lib.hid hB
  clear hb B1 hB
  go_wp2_with fail
  refine (failed_any s p 0 2 _).mono ?_
  rintro r w2 ⟨rfl, hb2⟩
  obtain ⟨x3, x4, x5, y3, y4, y5⟩ := B1'.out.below hb2 hz
  have hz2 : w.heap.size + 1 < w2.heap.size := by have := hb2.size; omega
  go_wp2
  refine bodyPost_ret (v := .tuple #[CV s p 2, .int .i64 0]) (by simp [results, Tryd.results40, go_sem, *]) rfl ⟨rfl, ?_⟩
  exact (((HB.out.trans (hb2.mono (by omega))).setCell (Nat.le_succ _) _).setCell (Nat.le_succ _) _).setCell (Nat.le_succ _) _

theorem num_width (s : ByteArray) (p n : Int) (w : World) (hs : s.size ≤ maxLen) (h1 : 0 ≤ p) (h2 : p ≤ s.size) (h : n < 1 ∨ 7 < n) :
    Calls Tryd.prog 40 #[CV s p 0, .int .i64 n] w fun r w' => r = .returned (.tuple #[CV s p 2, .int .i64 0]) ∧ Below w.heap.size w w' := by
  have H := Lib.hid h
  clear h
  go_enter Tryd.func40, Tryd.ntmps40
  go_wp2_with fail
  refine (inside_yes s p 0 _ hs h1 h2).mono ?_
  rintro r w1 ⟨rfl, hb⟩
  obtain ⟨⟨x0, x1, x2, y0, y1, y2⟩, B1, hB, hz⟩ := num_boxes hb
  have B1' := Lib.hid B1
  have HB := Lib.hid hB
  clear hb B1 hB
  go_wp2_with fail
  refine (isWidth_no n _ H.out).mono ?_
  rintro r w1' ⟨rfl, rfl⟩
  go_wp2_with fail
  refine (failed_any s p 0 2 _).mono ?_
  rintro r w2 ⟨rfl, hb2⟩
  obtain ⟨x3, x4, x5, y3, y4, y5⟩ := B1'.out.below hb2 hz
  have hz2 : w.heap.size + 1 < w2.heap.size := by have := hb2.size; omega
  go_wp2
  refine bodyPost_ret (v := .tuple #[CV s p 2, .int .i64 0]) (by simp [results, Tryd.results40, go_sem, *]) rfl ⟨rfl, ?_⟩
  exact (((HB.out.trans (hb2.mono (by omega))).setCell (Nat.le_succ _) _).setCell (Nat.le_succ _) _).setCell (Nat.le_succ _) _

theorem num_cut (s : ByteArray) (p n : Int) (w : World) (hs : s.size ≤ maxLen) (h1 : 0 ≤ p) (h2 : p ≤ s.size) (h3 : 1 ≤ n) (h4 : n ≤ 7) (h5 : s.size - p < n) :
    Calls Tryd.prog 40 #[CV s p 0, .int .i64 n] w fun r w' => r = .returned (.tuple #[CV s p 3, .int .i64 0]) ∧ Below w.heap.size w w' := by
  go_enter Tryd.func40, Tryd.ntmps40
  go_wp2_with fail
  refine (inside_yes s p 0 _ hs h1 h2).mono ?_
  rintro r w1 ⟨rfl, hb⟩
  obtain ⟨B0, B1, hB, hz⟩ := num_boxes hb
  obtain ⟨x0, x1, x2, y0, y1, y2⟩ := B0
  have B1' := Lib.hid B1
  have HB := Lib.hid hB
  clear hb B1 hB
  go_wp2_with fail
  refine (isWidth_yes n _ h3 h4).mono ?_
  rintro r w1' ⟨rfl, rfl⟩
  go_wp2_with fail
  refine (left_yes s p _ hs h1 h2).mono ?_
  rintro r w2 ⟨rfl, hb2⟩
  obtain ⟨x0', x1', x2', y0', y1', y2'⟩ := Box.below ⟨x0, x1, x2, y0, y1, y2⟩ hb2 (by omega)
  have HB2 := Lib.hid hb2
  clear hb2
  go_wp2_with fail
  refine (failed_any s p 0 3 _).mono ?_
  rintro r w3 ⟨rfl, hb3⟩
  have hz2 : w.heap.size + 1 < w2.heap.size := by have := HB2.out.size; omega
  have hz3 : w.heap.size + 1 < w3.heap.size := by have := hb3.size; omega
  obtain ⟨x3, x4, x5, y3, y4, y5⟩ := (B1'.out.below HB2.out hz).below hb3 hz2
  go_wp2
  refine bodyPost_ret (v := .tuple #[CV s p 3, .int .i64 0]) (by simp [results, Tryd.results40, go_sem, *]) rfl ⟨rfl, ?_⟩
  exact ((((HB.out.trans (HB2.out.mono (by omega))).trans (hb3.mono (by omega))).setCell (Nat.le_succ _) _).setCell (Nat.le_succ _) _).setCell (Nat.le_succ _) _

/-- What Num reads: the place, the error, the number. -/
def numR (s : ByteArray) (p e n : Int) : Int × Int × Int :=
  if e = 0 then (if 0 ≤ p ∧ p ≤ s.size ∧ 1 ≤ n ∧ n ≤ 7 then (if s.size - p < n then (p, 3, 0) else (p + n, 0, numAt s p n.toNat)) else (p, 2, 0)) else (p, e, 0)

theorem num_any (s : ByteArray) (p e n : Int) (w : World) (hs : s.size ≤ maxLen) :
    Calls Tryd.prog 40 #[CV s p e, .int .i64 n] w fun r w' => r = .returned (.tuple #[CV s (numR s p e n).1 (numR s p e n).2.1, .int .i64 (numR s p e n).2.2]) ∧ Below w.heap.size w w' := by
  unfold numR
  by_cases he : e = 0
  · subst he
    rw [if_pos rfl]
    by_cases h : 0 ≤ p ∧ p ≤ s.size ∧ 1 ≤ n ∧ n ≤ 7
    · rw [if_pos h]
      obtain ⟨h1, h2, h3, h4⟩ := h
      by_cases hc : s.size - p < n
      · rw [if_pos hc]; exact num_cut s p n w hs h1 h2 h3 h4 hc
      · rw [if_neg hc]; exact num_ok s p n w hs h1 (by omega) h3 h4
    · rw [if_neg h]
      by_cases hi : 0 ≤ p ∧ p ≤ s.size
      · exact num_width s p n w hs hi.1 hi.2 (by omega)
      · exact num_out s p n w hs (by omega)
  · rw [if_neg he]; exact num_failed s p e n w (by simpa using he)

end Go.Proofs.YtcloakaenkhgpaaDoor.Oct
