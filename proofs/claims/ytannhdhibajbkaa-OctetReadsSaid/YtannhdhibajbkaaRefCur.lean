/- Contracts of the document's answer (errandref01) for cursors: fine, Left, End, New, Num, Take; and of Own and Back of the statements. -/
import Derived.Test.YtannhdhibajbkaaTake
import Derived.Test.YtannhdhibajbkaaArgs
namespace Go.Proofs.Ytannhdhibajbkaa
open Go.RowKit

theorem fine_yes (s : ByteArray) (p : Int) (w : World) (h1 : 0 ≤ p) (h2 : p ≤ s.size) :
    Calls Try.prog 31 #[CV s p 0] w fun r w' => r = .returned (.bool true) ∧ Below w.heap.size w w' := by
  go_enter Try.func31, Try.ntmps31
  go_wp2
  go_ret
  exact ⟨rfl, (Below.refl _ _).push _⟩

theorem fine_failed (s : ByteArray) (p e : Int) (w : World) (he : (e == 0) = false) :
    Calls Try.prog 31 #[CV s p e] w fun r w' => r = .returned (.bool false) ∧ Below w.heap.size w w' := by
  go_enter Try.func31, Try.ntmps31
  go_wp2
  go_ret
  exact ⟨rfl, (Below.refl _ _).push _⟩

theorem fine_out (s : ByteArray) (p : Int) (w : World) (h : p < 0 ∨ s.size < p) :
    Calls Try.prog 31 #[CV s p 0] w fun r w' => r = .returned (.bool false) ∧ Below w.heap.size w w' := by
  rcases h with h | h
  · have h' : decide (0 ≤ p) = false := decide_eq_false (by omega)
    go_enter Try.func31, Try.ntmps31
    go_wp2
    go_ret
    exact ⟨rfl, (Below.refl _ _).push _⟩
  · have h' : decide (0 ≤ p) = true := decide_eq_true (by omega)
    have h'' : decide (p ≤ s.size) = false := decide_eq_false (by omega)
    go_enter Try.func31, Try.ntmps31
    go_wp2
    go_ret
    exact ⟨rfl, (Below.refl _ _).push _⟩

theorem rleft_yes (s : ByteArray) (p : Int) (w : World) (hs : s.size ≤ maxLen) (h1 : 0 ≤ p) (h2 : p ≤ s.size) :
    Calls Try.prog 18 #[CV s p 0] w fun r w' => r = .returned (.int .i64 (s.size - p)) ∧ Below w.heap.size w w' := by
  unfold maxLen at hs
  go_enter Try.func18, Try.ntmps18
  go_wp2_with fail
  refine (fine_yes s p _ h1 h2).mono ?_
  rintro r w1 ⟨rfl, hb⟩
  obtain ⟨hc, hf⟩ := bcell hb
  go_wp2
  go_ret
  exact ⟨rfl, ((Below.refl _ _).push _).call hb⟩

theorem rleft_no (s : ByteArray) (p e : Int) (w : World) (h : ¬ (e = 0 ∧ 0 ≤ p ∧ p ≤ s.size)) :
    Calls Try.prog 18 #[CV s p e] w fun r w' => r = .returned (.int .i64 0) ∧ Below w.heap.size w w' := by
  have H : Hid (∀ W, Calls Try.prog 31 #[CV s p e] W fun r w' => r = .returned (.bool false) ∧ Below W.heap.size W w') := Lib.hid (fun W => by
    by_cases he : e = 0
    · subst he; exact fine_out s p W (by omega)
    · exact fine_failed s p e W (by simpa using he))
  clear h
  go_enter Try.func18, Try.ntmps18
  go_wp2_with fail
  refine (H.out _).mono ?_
  rintro r w1 ⟨rfl, hb⟩
  go_wp2
  go_ret
  exact ⟨rfl, ((Below.refl _ _).push _).call hb⟩

theorem rleft_any (s : ByteArray) (p e : Int) (w : World) (hs : s.size ≤ maxLen) :
    Calls Try.prog 18 #[CV s p e] w fun r w' => r = .returned (.int .i64 (leftR s p e)) ∧ Below w.heap.size w w' := by
  unfold leftR
  by_cases h : e = 0 ∧ 0 ≤ p ∧ p ≤ s.size
  · rw [if_pos h]; obtain ⟨rfl, h1, h2⟩ := h; exact rleft_yes s p w hs h1 h2
  · rw [if_neg h]; exact rleft_no s p e w h

theorem rend_failed (s : ByteArray) (p e : Int) (w : World) (he : (e != 0) = true) :
    Calls Try.prog 20 #[CV s p e] w fun r w' => r = .returned (.int .i64 e) ∧ Below w.heap.size w w' := by
  go_enter Try.func20, Try.ntmps20
  go_wp2_with fail
  go_ret
  exact ⟨rfl, (Below.refl _ _).push _⟩

theorem rend_out (s : ByteArray) (p : Int) (w : World) (h : p < 0 ∨ s.size < p) :
    Calls Try.prog 20 #[CV s p 0] w fun r w' => r = .returned (.int .i64 2) ∧ Below w.heap.size w w' := by
  have H := Lib.hid h
  clear h
  go_enter Try.func20, Try.ntmps20
  go_wp2_with fail
  refine (fine_out s p _ H.out).mono ?_
  rintro r w1 ⟨rfl, hb⟩
  go_wp2
  go_ret
  exact ⟨rfl, ((Below.refl _ _).push _).call hb⟩

theorem rend_in (s : ByteArray) (p : Int) (w : World) (hs : s.size ≤ maxLen) (h1 : 0 ≤ p) (h2 : p ≤ s.size) :
    Calls Try.prog 20 #[CV s p 0] w fun r w' => r = .returned (.int .i64 (if p < s.size then 5 else 0)) ∧ Below w.heap.size w w' := by
  by_cases hlt : p < s.size
  all_goals
    first | rw [if_pos hlt] | rw [if_neg hlt]
    go_enter Try.func20, Try.ntmps20
    go_wp2_with fail
    refine (fine_yes s p _ h1 h2).mono ?_
    rintro r w1 ⟨rfl, hb⟩
    obtain ⟨hc, hf⟩ := bcell hb
    go_wp2_with fail
    refine (rleft_yes s p _ hs h1 h2).mono ?_
    rintro r w2 ⟨rfl, hb2⟩
    go_wp2
    go_ret
    exact ⟨rfl, (((Below.refl _ _).push _).call hb).call hb2⟩

theorem rend_any (s : ByteArray) (p e : Int) (w : World) (hs : s.size ≤ maxLen) :
    Calls Try.prog 20 #[CV s p e] w fun r w' => r = .returned (.int .i64 (endR s p e)) ∧ Below w.heap.size w w' := by
  unfold endR
  by_cases he : e = 0
  · subst he
    rw [if_pos rfl]
    by_cases h : 0 ≤ p ∧ p ≤ s.size
    · rw [if_pos h]; exact rend_in s p w hs h.1 h.2
    · rw [if_neg h]; exact rend_out s p w (by omega)
  · rw [if_neg he]; exact rend_failed s p e w (by simpa using he)

theorem rnew_any (s : ByteArray) (w : World) :
    Calls Try.prog 16 #[.string s] w fun r w' => r = .returned (CV s 0 0) ∧ Below w.heap.size w w' := by
  go_enter Try.func16, Try.ntmps16
  go_wp2
  refine bodyPost_ret (v := CV s 0 0) (by simp [results, Try.results16, go_sem]) rfl ⟨rfl, ?_⟩
  exact (Below.refl _ _).push _

theorem own_any (s : ByteArray) (p e : Int) (w : World) :
    Calls Try.prog 13 #[CV s p e] w fun r w' => r = .returned (CV s p e) ∧ Below w.heap.size w w' := by
  go_enter Try.func13, Try.ntmps13
  go_wp2
  refine bodyPost_ret (v := CV s p e) (by simp [results, Try.results13, go_sem]) rfl ⟨rfl, ?_⟩
  exact ((Below.refl _ _).push _).push _

theorem back_any (s : ByteArray) (p e : Int) (w : World) :
    Calls Try.prog 14 #[CV s p e] w fun r w' => r = .returned (CV s p e) ∧ Below w.heap.size w w' := by
  go_enter Try.func14, Try.ntmps14
  go_wp2
  refine bodyPost_ret (v := CV s p e) (by simp [results, Try.results14, go_sem]) rfl ⟨rfl, ?_⟩
  exact ((Below.refl _ _).push _).push _

theorem rnum_failed (s : ByteArray) (p e n : Int) (w : World) (he : (e != 0) = true) :
    Calls Try.prog 24 #[CV s p e, .int .i64 n] w fun r w' => r = .returned (.tuple #[CV s p e, .int .i64 0]) ∧ Below w.heap.size w w' := by
  go_enter Try.func24, Try.ntmps24
  go_wp2_with fail
  refine bodyPost_ret (v := .tuple #[CV s p e, .int .i64 0]) (by simp [results, Try.results24, go_sem]) rfl ⟨rfl, ?_⟩
  exact ((Below.refl _ _).push _).push _

theorem boxes35 {s : ByteArray} {p e : Int} {w w1 : World} (hb : Below ((w.alloc (.cells #[.string s, .int .i64 p, .int .i64 e] 35)).alloc (.cells #[.string ⟨#[]⟩, .int .i64 0, .int .i64 0] 35)).heap.size ((w.alloc (.cells #[.string s, .int .i64 p, .int .i64 e] 35)).alloc (.cells #[.string ⟨#[]⟩, .int .i64 0, .int .i64 0] 35)) w1) :
    Box w1 w.heap.size (.string s) (.int .i64 p) (.int .i64 e) ∧ Box w1 (w.heap.size + 1) (.string ⟨#[]⟩) (.int .i64 0) (.int .i64 0) ∧ Below w.heap.size w w1 ∧ w.heap.size + 1 < w1.heap.size := by
  refine ⟨((Box.new w _ _ _ 35).alloc (by simp) _).below hb (by simp; omega), ?_, (((Below.refl _ _).push _).push _).call hb, by have := hb.size; simp at this; omega⟩
  have h0 := Box.new (w.alloc (.cells #[.string s, .int .i64 p, .int .i64 e] 35)) (.string ⟨#[]⟩) (.int .i64 0) (.int .i64 0) 35
  rw [World.size_alloc] at h0
  exact h0.below hb (by simp)

theorem rnum_arg (s : ByteArray) (p n : Int) (w : World) (h : ¬ (0 ≤ p ∧ p ≤ s.size ∧ 1 ≤ n ∧ n ≤ 7)) :
    Calls Try.prog 24 #[CV s p 0, .int .i64 n] w fun r w' => r = .returned (.tuple #[CV s p 2, .int .i64 0]) ∧ Below w.heap.size w w' := by
  by_cases hi : 0 ≤ p ∧ p ≤ s.size
  · obtain ⟨h1, h2⟩ := hi
    by_cases hn : n < 1
    · have d1 : decide (n < 1) = true := decide_eq_true hn
      clear h
      go_enter Try.func24, Try.ntmps24
      go_wp2_with fail
      refine (fine_yes s p _ h1 h2).mono ?_
      rintro r w1 ⟨rfl, hb⟩
      obtain ⟨⟨x0, x1, x2, y0, y1, y2⟩, ⟨x3, x4, x5, y3, y4, y5⟩, hB, hz⟩ := boxes35 hb
      have HB := Lib.hid hB
      clear hb hB
      go_wp2
      refine bodyPost_ret (v := .tuple #[CV s p 2, .int .i64 0]) (by simp [results, Try.results24, go_sem, *]) rfl ⟨rfl, ?_⟩
      exact ((HB.out.setCell (Nat.le_succ _) _).setCell (Nat.le_succ _) _).setCell (Nat.le_succ _) _
    · have d1 : decide (n < 1) = false := decide_eq_false hn
      have d2 : decide (7 < n) = true := decide_eq_true (by omega)
      clear h
      go_enter Try.func24, Try.ntmps24
      go_wp2_with fail
      refine (fine_yes s p _ h1 h2).mono ?_
      rintro r w1 ⟨rfl, hb⟩
      obtain ⟨⟨x0, x1, x2, y0, y1, y2⟩, ⟨x3, x4, x5, y3, y4, y5⟩, hB, hz⟩ := boxes35 hb
      have HB := Lib.hid hB
      clear hb hB
      go_wp2
      refine bodyPost_ret (v := .tuple #[CV s p 2, .int .i64 0]) (by simp [results, Try.results24, go_sem, *]) rfl ⟨rfl, ?_⟩
      exact ((HB.out.setCell (Nat.le_succ _) _).setCell (Nat.le_succ _) _).setCell (Nat.le_succ _) _
  · have HI := Lib.hid (show p < 0 ∨ s.size < p by omega)
    clear h hi
    go_enter Try.func24, Try.ntmps24
    go_wp2_with fail
    refine (fine_out s p _ HI.out).mono ?_
    rintro r w1 ⟨rfl, hb⟩
    obtain ⟨⟨x0, x1, x2, y0, y1, y2⟩, ⟨x3, x4, x5, y3, y4, y5⟩, hB, hz⟩ := boxes35 hb
    have HB := Lib.hid hB
    clear hb hB
    go_wp2
    refine bodyPost_ret (v := .tuple #[CV s p 2, .int .i64 0]) (by simp [results, Try.results24, go_sem, *]) rfl ⟨rfl, ?_⟩
    exact ((HB.out.setCell (Nat.le_succ _) _).setCell (Nat.le_succ _) _).setCell (Nat.le_succ _) _

theorem rnum_cut (s : ByteArray) (p n : Int) (w : World) (_hs : s.size ≤ maxLen) (h1 : 0 ≤ p) (h2 : p ≤ s.size) (h3 : 1 ≤ n) (h4 : n ≤ 7) (h5 : s.size - p < n) :
    Calls Try.prog 24 #[CV s p 0, .int .i64 n] w fun r w' => r = .returned (.tuple #[CV s p 3, .int .i64 0]) ∧ Below w.heap.size w w' := by
  have d1 : decide (n < 1) = false := decide_eq_false (by omega)
  have d2 : decide (7 < n) = false := decide_eq_false (by omega)
  go_enter Try.func24, Try.ntmps24
  go_wp2_with fail
  refine (fine_yes s p _ h1 h2).mono ?_
  rintro r w1 ⟨rfl, hb⟩
  obtain ⟨⟨x0, x1, x2, y0, y1, y2⟩, ⟨x3, x4, x5, y3, y4, y5⟩, hB, hz⟩ := boxes35 hb
  have HB := Lib.hid hB
  clear hb hB
  go_wp2
  refine bodyPost_ret (v := .tuple #[CV s p 3, .int .i64 0]) (by simp [results, Try.results24, go_sem, *]) rfl ⟨rfl, ?_⟩
  exact ((HB.out.setCell (Nat.le_succ _) _).setCell (Nat.le_succ _) _).setCell (Nat.le_succ _) _

theorem num_step2 (s : ByteArray) (p k : Nat) (hk : k < 7) (h : p + k < s.size) :
    wrap64 (wrap64 (numAt s p k * 256) + wrap64 s[p + k].toNat) = numAt s p (k + 1) := by
  have hb := s[p + k].toNat_lt
  have h1 := numAt_nonneg s p k
  have h2 := numAt_succ s p k h
  have h3 := numAt_lt s p (k + 1) (by omega)
  rw [IntWalk.wrap64_in (numAt s p k * 256) (by omega), IntWalk.wrap64_in (s[p + k].toNat : Int) (by omega), IntWalk.wrap64_in _ (by omega), h2]

set_option maxHeartbeats 400000 in
theorem rnum_ok (s : ByteArray) (p n : Int) (w : World) (hs : s.size ≤ maxLen) (h1 : 0 ≤ p) (h2 : p + n ≤ s.size) (h3 : 1 ≤ n) (h4 : n ≤ 7) :
    Calls Try.prog 24 #[CV s p 0, .int .i64 n] w fun r w' => r = .returned (.tuple #[CV s (p + n) 0, .int .i64 (numAt s p n.toNat)]) ∧ Below w.heap.size w w' := by
  obtain ⟨p, rfl⟩ := Int.eq_ofNat_of_zero_le h1
  have h5 : (p : Int) ≤ s.size := by omega
  have hd : decide ((s.size : Int) - p < n) = false := decide_eq_false (by omega)
  have d1 : decide (n < 1) = false := decide_eq_false (by omega)
  have d2 : decide (7 < n) = false := decide_eq_false (by omega)
  unfold maxLen at hs
  go_enter Try.func24, Try.ntmps24
  go_wp2_with fail
  refine (fine_yes s p _ h1 h5).mono ?_
  rintro r w1 ⟨rfl, hb⟩
  obtain ⟨⟨x0, x1, x2, y0, y1, y2⟩, ⟨x3, x4, x5, y3, y4, y5⟩, hB, hz⟩ := boxes35 hb
  have HB := Lib.hid hB
  clear hb hB
  go_wp2
  go_loop [6, 7] (fun a i => ∃ k : Nat, (k : Int) ≤ n ∧ i = .int .i64 k ∧ a = .int .i64 (numAt s p k)) (fun _ i => (n - intOf i).toNat)
  case atStart => exact ⟨0, by omega, rfl, by rw [numAt_zero]⟩
  case round =>
    obtain ⟨k, hk, rfl, rfl⟩ := hrel
    by_cases hlt : (k : Int) < n
    · have hi : p + k < s.size := by omega
      go_wp2
      go_round
      case rel => exact ⟨k + 1, by omega, by go_num, by rw [num_step2 s p k (by omega) hi]⟩
      case measure => simp [intOf]; omega
    · obtain rfl : n = k := by omega
      go_wp2
      refine bodyPost_ret (v := .tuple #[CV s (p + k) 0, .int .i64 (numAt s p k)]) (by simp [results, Try.results24, go_sem, *]) rfl ⟨rfl, ?_⟩
      exact ((HB.out.setCell (Nat.le_succ _) _).setCell (Nat.le_succ _) _).setCell (Nat.le_succ _) _

end Go.Proofs.Ytannhdhibajbkaa
