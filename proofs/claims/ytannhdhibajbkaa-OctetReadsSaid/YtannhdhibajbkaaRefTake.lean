/- Contracts of Num and Take of the document's answer (errandref01). -/
import Derived.Test.YtannhdhibajbkaaRefCur
import Derived.BigRegion
import Derived.ChangeAlike
namespace Go.Proofs.Ytannhdhibajbkaa
open Go.RowKit

theorem rnum_any (s : ByteArray) (p e n : Int) (w : World) (hs : s.size ≤ maxLen) :
    Calls Try.prog 24 #[CV s p e, .int .i64 n] w fun r w' => r = .returned (.tuple #[CV s (numR s p e n).1 (numR s p e n).2.1, .int .i64 (numR s p e n).2.2]) ∧ Below w.heap.size w w' := by
  unfold numR
  by_cases he : e = 0
  · subst he
    rw [if_pos rfl]
    by_cases h : 0 ≤ p ∧ p ≤ s.size ∧ 1 ≤ n ∧ n ≤ 7
    · rw [if_pos h]
      obtain ⟨h1, h2, h3, h4⟩ := h
      by_cases hc : s.size - p < n
      · rw [if_pos hc]; exact rnum_cut s p n w hs h1 h2 h3 h4 hc
      · rw [if_neg hc]; exact rnum_ok s p n w hs h1 (by omega) h3 h4
    · rw [if_neg h]; exact rnum_arg s p n w h
  · rw [if_neg he]; exact rnum_failed s p e n w (by simpa using he)

set_option maxHeartbeats 400000 in
theorem rtake_bad (s : ByteArray) (p e : Int) (w : World) (hs : s.size ≤ maxLen) (h : (numR s p e 2).2.1 ≠ 0) :
    Calls Try.prog 22 #[CV s p e] w fun r w' => r = .returned (.tuple #[CV s p (numR s p e 2).2.1, .string ⟨#[]⟩]) ∧ Below w.heap.size w w' := by
  have hn := fun w => rnum_any s p e 2 w hs
  obtain ⟨e1, e2⟩ := numR_bad h
  rw [e1, e2] at hn
  generalize (numR s p e 2).2.1 = f at *
  have hf : (f != 0) = true := by simpa using h
  have HN := Lib.hid hn
  clear hn e1 e2 h
  go_enter Try.func22, Try.ntmps22
  go_wp2_with fail
  refine (HN.out _).mono ?_
  rintro r w1 ⟨rfl, hb⟩
  obtain ⟨B0, B1, hB, hz⟩ := boxes35 hb
  obtain ⟨x3, x4, x5, y3, y4, y5⟩ := B1
  have HB := Lib.hid hB
  clear hb hB B0
  go_wp2_with fail
  refine bodyPost_ret (v := .tuple #[CV s p f, .string ⟨#[]⟩]) (by simp [results, Try.results22, go_sem, *]) rfl ⟨rfl, ?_⟩
  exact (((HB.out.setCell (Nat.le_succ _) _).setCell (Nat.le_succ _) _).setCell (Nat.le_succ _) _).push _

set_option maxHeartbeats 400000 in
theorem rtake_short (s : ByteArray) (p : Int) (m : Int) (w : World) (hs : s.size ≤ maxLen) (h1 : 0 ≤ p) (h2 : p + 2 ≤ s.size) (hm : numAt s p 2 = m) (h3 : s.size - (p + 2) < m) :
    Calls Try.prog 22 #[CV s p 0] w fun r w' => r = .returned (.tuple #[CV s p 3, .string ⟨#[]⟩]) ∧ Below w.heap.size w w' := by
  have hn := fun w => rnum_ok s p 2 w hs h1 h2 (by omega) (by omega)
  rw [show (2 : Int).toNat = 2 from rfl, hm] at hn
  have hm0 := numAt_nonneg s p 2
  rw [hm] at hm0
  have HN := Lib.hid hn
  clear hn hm
  go_enter Try.func22, Try.ntmps22
  go_wp2_with fail
  refine (HN.out _).mono ?_
  rintro r w1 ⟨rfl, hb⟩
  obtain ⟨B0, B1, hB, hz⟩ := boxes35 hb
  have HB0 := Lib.hid B0
  have HB1 := Lib.hid B1
  have HB := Lib.hid hB
  clear hb hB B0 B1
  go_wp2_with fail
  refine (rleft_yes s (p + 2) _ hs (by omega) h2).mono ?_
  rintro r w2 ⟨rfl, hb2⟩
  have hl : w1.heap.size < w2.heap.size := by have := hb2.size; simp at this; omega
  have hz2 : w.heap.size + 1 < w2.heap.size := by omega
  have D0 := (HB0.out.alloc (by omega) (.cells #[.string s, .int .i64 (p + 2), .int .i64 0] 35)).below hb2 (by simp; omega)
  have D1 := (HB1.out.alloc hz (.cells #[.string s, .int .i64 (p + 2), .int .i64 0] 35)).below hb2 (by simp; omega)
  have HB2 := Lib.hid ((HB.out.push _).call hb2)
  clear hb2 HB0 HB1 HB
  obtain ⟨x0, x1, x2, y0, y1, y2⟩ := D0
  obtain ⟨x3, x4, x5, y3, y4, y5⟩ := D1
  go_wp2
  refine bodyPost_ret (v := .tuple #[CV s p 3, .string ⟨#[]⟩]) (by simp [results, Try.results22, go_sem, *]) rfl ⟨rfl, ?_⟩
  exact ((HB2.out.setCell (Nat.le_succ _) _).setCell (Nat.le_succ _) _).setCell (Nat.le_succ _) _

set_option maxHeartbeats 400000 in
theorem rtake_good (s : ByteArray) (p : Int) (m : Int) (w : World) (hs : s.size ≤ maxLen) (h1 : 0 ≤ p) (h2 : p + 2 ≤ s.size) (hm : numAt s p 2 = m) (h3 : m ≤ s.size - (p + 2)) :
    Calls Try.prog 22 #[CV s p 0] w fun r w' => r = .returned (.tuple #[CV s (p + 2 + m) 0, .string (s.extract (p + 2).toNat (p + 2 + m).toNat)]) ∧ Below w.heap.size w w' := by
  have hn := fun w => rnum_ok s p 2 w hs h1 h2 (by omega) (by omega)
  rw [show (2 : Int).toNat = 2 from rfl, hm] at hn
  have hm0 := numAt_nonneg s p 2
  rw [hm] at hm0
  have HN := Lib.hid hn
  clear hn hm
  obtain ⟨p, rfl⟩ := Int.eq_ofNat_of_zero_le h1
  obtain ⟨m, rfl⟩ := Int.eq_ofNat_of_zero_le hm0
  have hd : decide ((s.size : Int) - (↑p + 2) < ↑m) = false := decide_eq_false (by omega)
  go_enter Try.func22, Try.ntmps22
  go_wp2_with fail
  refine (HN.out _).mono ?_
  rintro r w1 ⟨rfl, hb⟩
  obtain ⟨B0, B1, hB, hz⟩ := boxes35 hb
  have HB0 := Lib.hid B0
  have HB1 := Lib.hid B1
  have HB := Lib.hid hB
  clear hb hB B0 B1
  go_wp2_with fail
  refine (rleft_yes s (p + 2) _ hs (by omega) h2).mono ?_
  rintro r w2 ⟨rfl, hb2⟩
  have hl : w1.heap.size < w2.heap.size := by have := hb2.size; simp at this; omega
  have hz2 : w.heap.size + 1 < w2.heap.size := by omega
  obtain ⟨x0, x1, x2, y0, y1, y2⟩ := (HB0.out.alloc (by omega) (.cells #[.string s, .int .i64 (p + 2), .int .i64 0] 35)).below hb2 (by simp; omega)
  obtain ⟨x3, x4, x5, y3, y4, y5⟩ := (HB1.out.alloc hz (.cells #[.string s, .int .i64 (p + 2), .int .i64 0] 35)).below hb2 (by simp; omega)
  obtain ⟨x6, x7, x8, y6, y7, y8⟩ := (Box.new w1 (.string s) (.int .i64 (p + 2)) (.int .i64 0) 35).below hb2 (by simp)
  have HB2 := Lib.hid ((HB.out.push _).call hb2)
  have hne : ¬ w.heap.size + 1 = w1.heap.size := by omega
  have hne1 : ¬ w.heap.size + 1 = w.heap.size := by omega
  clear hb2
  unfold maxLen at hs
  have hsl := fun wx => run_slice_string (P := Try.prog) (w := wx) 9 s .i64 .i64 ((p : Int) + 2) ((p : Int) + 2 + m) Try.underlying9 (by omega) (by omega) (by omega)
  have hwr : IntKind.i64.wrap ((p : Int) + 2 + m) = (p : Int) + 2 + m := IntWalk.i64_in _ (by omega)
  go_wp2_with fail
  go_region
  go_wp2
  refine bodyPost_ret (v := .tuple #[CV s (p + 2 + m) 0, .string (s.extract (p + 2) (p + 2 + m))]) (by simp [results, Try.results22, go_sem, *]) rfl ⟨rfl, ?_⟩
  exact (((HB2.out.setCell (Nat.le_succ _) _).setCell (Nat.le_succ _) _).setCell (Nat.le_succ _) _).drew

theorem rtake_any (s : ByteArray) (p e : Int) (w : World) (hs : s.size ≤ maxLen) :
    Calls Try.prog 22 #[CV s p e] w fun r w' => r = .returned (.tuple #[CV s (takeR s p e).1 (takeR s p e).2.1, .string (takeR s p e).2.2]) ∧ Below w.heap.size w w' := by
  unfold takeR
  by_cases h : (numR s p e 2).2.1 = 0
  · rw [if_pos h]
    obtain ⟨rfl, h1, -, -, h2, hr⟩ := numR_good h
    rw [hr]
    simp only
    by_cases hc : s.size - (p + 2) < numAt s p (2 : Int).toNat
    · rw [if_pos hc]; exact rtake_short s p _ w hs h1 h2 rfl hc
    · rw [if_neg hc]; exact rtake_good s p _ w hs h1 h2 rfl (by omega)
  · rw [if_neg h, (numR_bad h).1]; exact rtake_bad s p e w hs h

end Go.Proofs.Ytannhdhibajbkaa
