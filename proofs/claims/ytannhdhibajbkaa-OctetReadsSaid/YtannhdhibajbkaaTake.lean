/- Contract of Take of package octet: the text that it reads, for every cursor. -/
import Derived.Test.YtannhdhibajbkaaNum
namespace Go.Proofs.Ytannhdhibajbkaa
open Go.RowKit

/-- What Take reads: the place, the error, the text. -/
def takeR (s : ByteArray) (p e : Int) : Int × Int × ByteArray :=
  if (numR s p e 2).2.1 = 0 then
    (if s.size - (numR s p e 2).1 < (numR s p e 2).2.2 then (p, 3, ⟨#[]⟩)
     else ((numR s p e 2).1 + (numR s p e 2).2.2, 0, s.extract (numR s p e 2).1.toNat ((numR s p e 2).1 + (numR s p e 2).2.2).toNat))
  else ((numR s p e 2).1, (numR s p e 2).2.1, ⟨#[]⟩)

theorem numR_bad {s : ByteArray} {p e n : Int} (h : (numR s p e n).2.1 ≠ 0) : (numR s p e n).1 = p ∧ (numR s p e n).2.2 = 0 := by
  unfold numR at *
  split
  · split
    · split
      · exact ⟨rfl, rfl⟩
      · rename_i h1 h2 h3; simp [h1, h2, h3] at h
    · exact ⟨rfl, rfl⟩
  · exact ⟨rfl, rfl⟩

theorem numR_good {s : ByteArray} {p e n : Int} (h : (numR s p e n).2.1 = 0) :
    e = 0 ∧ 0 ≤ p ∧ 1 ≤ n ∧ n ≤ 7 ∧ p + n ≤ s.size ∧ numR s p e n = (p + n, 0, numAt s p n.toNat) := by
  unfold numR at *
  by_cases he : e = 0
  · rw [if_pos he] at h ⊢
    by_cases h2 : 0 ≤ p ∧ p ≤ s.size ∧ 1 ≤ n ∧ n ≤ 7
    · rw [if_pos h2] at h ⊢
      by_cases h3 : s.size - p < n
      · rw [if_pos h3] at h; simp at h
      · rw [if_neg h3]; exact ⟨he, by omega, by omega, by omega, by omega, rfl⟩
    · rw [if_neg h2] at h; simp at h
  · rw [if_neg he] at h; simp at h; omega

set_option maxHeartbeats 400000 in
theorem take_bad (s : ByteArray) (p e : Int) (w : World) (hs : s.size ≤ maxLen) (h : (numR s p e 2).2.1 ≠ 0) :
    Calls Try.prog 21 #[CV s p e] w fun r w' => r = .returned (.tuple #[CV s p (numR s p e 2).2.1, .string ⟨#[]⟩]) ∧ Below w.heap.size w w' := by
  have hn := fun w => num_any s p e 2 w hs
  obtain ⟨e1, e2⟩ := numR_bad h
  rw [e1, e2] at hn
  generalize (numR s p e 2).2.1 = f at *
  have hf : (f != 0) = true := by simpa using h
  have HN := Lib.hid hn
  clear hn e1 e2 h
  go_enter Try.func21, Try.ntmps21
  go_wp2_with fail
  refine (HN.out _).mono ?_
  rintro r w1 ⟨rfl, hb⟩
  obtain ⟨B0, B1, hB, hz⟩ := num_boxes hb
  obtain ⟨x3, x4, x5, y3, y4, y5⟩ := B1
  have HB := Lib.hid hB
  clear hb hB B0
  go_wp2_with fail
  refine bodyPost_ret (v := .tuple #[CV s p f, .string ⟨#[]⟩]) (by simp [results, Try.results21, go_sem, *]) rfl ⟨rfl, ?_⟩
  exact (((HB.out.setCell (Nat.le_succ _) _).setCell (Nat.le_succ _) _).setCell (Nat.le_succ _) _).push _

set_option maxHeartbeats 400000 in
theorem take_good (s : ByteArray) (p : Int) (m : Int) (w : World) (hs : s.size ≤ maxLen) (h1 : 0 ≤ p) (h2 : p + 2 ≤ s.size) (hm : numAt s p 2 = m) (h3 : m ≤ s.size - (p + 2)) :
    Calls Try.prog 21 #[CV s p 0] w fun r w' => r = .returned (.tuple #[CV s (p + 2 + m) 0, .string (s.extract (p + 2).toNat (p + 2 + m).toNat)]) ∧ Below w.heap.size w w' := by
  have hn := fun w => num_ok s p 2 w hs h1 h2 (by omega) (by omega)
  rw [show (2 : Int).toNat = 2 from rfl, hm] at hn
  have hm0 := numAt_nonneg s p 2
  rw [hm] at hm0
  have HN := Lib.hid hn
  clear hn hm
  obtain ⟨p, rfl⟩ := Int.eq_ofNat_of_zero_le h1
  obtain ⟨m, rfl⟩ := Int.eq_ofNat_of_zero_le hm0
  go_enter Try.func21, Try.ntmps21
  go_wp2_with fail
  refine (HN.out _).mono ?_
  rintro r w1 ⟨rfl, hb⟩
  obtain ⟨B0, B1, hB, hz⟩ := num_boxes hb
  have HB0 := Lib.hid B0
  have HB1 := Lib.hid B1
  have HB := Lib.hid hB
  clear hb hB B0 B1
  go_wp2_with fail
  refine (left_yes s (p + 2) _ hs (by omega) h2).mono ?_
  rintro r w2 ⟨rfl, hb2⟩
  have hl : w1.heap.size < w2.heap.size := by have := hb2.size; simp at this; omega
  have hz2 : w.heap.size + 1 < w2.heap.size := by omega
  obtain ⟨x3, x4, x5, y3, y4, y5⟩ := (HB1.out.alloc hz _).below hb2 (by simp; omega)
  obtain ⟨x6, x7, x8, y6, y7, y8⟩ := (Box.new w1 (.string s) (.int .i64 (p + 2)) (.int .i64 0) 38).below hb2 (by simp)
  have HB2 := Lib.hid ((HB.out.push _).call hb2)
  have hne : w.heap.size + 1 ≠ w1.heap.size := by omega
  clear hb2
  unfold maxLen at hs
  have hsl := fun wx => run_slice_string (P := Try.prog) (w := wx) 9 s .i64 .i64 ((p : Int) + 2) ((p : Int) + 2 + m) Try.underlying9 (by omega) (by omega) (by omega)
  go_wp2
  have hsz : w.heap.size ≤ w1.heap.size := by omega
  refine bodyPost_ret (v := .tuple #[CV s (p + 2 + m) 0, .string (s.extract (p + 2) (p + 2 + m))]) (by simp [results, Try.results21, go_sem, *]) rfl ⟨rfl, ?_⟩
  exact (((HB2.out.setCell hsz _).setCell (Nat.le_succ _) _).setCell (Nat.le_succ _) _).setCell (Nat.le_succ _) _

set_option maxHeartbeats 400000 in
theorem take_short (s : ByteArray) (p : Int) (m : Int) (w : World) (hs : s.size ≤ maxLen) (h1 : 0 ≤ p) (h2 : p + 2 ≤ s.size) (hm : numAt s p 2 = m) (h3 : s.size - (p + 2) < m) :
    Calls Try.prog 21 #[CV s p 0] w fun r w' => r = .returned (.tuple #[CV s p 3, .string ⟨#[]⟩]) ∧ Below w.heap.size w w' := by
  have hn := fun w => num_ok s p 2 w hs h1 h2 (by omega) (by omega)
  rw [show (2 : Int).toNat = 2 from rfl, hm] at hn
  have hm0 := numAt_nonneg s p 2
  rw [hm] at hm0
  have HN := Lib.hid hn
  clear hn hm
  go_enter Try.func21, Try.ntmps21
  go_wp2_with fail
  refine (HN.out _).mono ?_
  rintro r w1 ⟨rfl, hb⟩
  obtain ⟨B0, B1, hB, hz⟩ := num_boxes hb
  have HB0 := Lib.hid B0
  have HB1 := Lib.hid B1
  have HB := Lib.hid hB
  clear hb hB B0 B1
  go_wp2_with fail
  refine (left_yes s (p + 2) _ hs (by omega) h2).mono ?_
  rintro r w2 ⟨rfl, hb2⟩
  have hl : w1.heap.size < w2.heap.size := by have := hb2.size; simp at this; omega
  have hz2 : w.heap.size + 1 < w2.heap.size := by omega
  have D0 := (HB0.out.alloc (by omega) (.cells #[.string s, .int .i64 (p + 2), .int .i64 0] 38)).below hb2 (by simp; omega)
  have D1 := Lib.hid ((HB1.out.alloc hz (.cells #[.string s, .int .i64 (p + 2), .int .i64 0] 38)).below hb2 (by simp; omega))
  have HB2 := Lib.hid ((HB.out.push _).call hb2)
  clear hb2 HB0 HB1 HB
  obtain ⟨x0, x1, x2, y0, y1, y2⟩ := D0
  go_wp2_with fail
  refine (failed_any s p 0 3 _).mono ?_
  rintro r w3 ⟨rfl, hb3⟩
  have hz3 : w.heap.size + 1 < w3.heap.size := by have := hb3.size; omega
  obtain ⟨x3, x4, x5, y3, y4, y5⟩ := D1.out.below hb3 hz2
  have HB3 := Lib.hid (HB2.out.call hb3)
  clear hb3 x0 x1 x2 y0 y1 y2
  go_wp2
  refine bodyPost_ret (v := .tuple #[CV s p 3, .string ⟨#[]⟩]) (by simp [results, Try.results21, go_sem, *]) rfl ⟨rfl, ?_⟩
  exact ((HB3.out.setCell (Nat.le_succ _) _).setCell (Nat.le_succ _) _).setCell (Nat.le_succ _) _

theorem take_any (s : ByteArray) (p e : Int) (w : World) (hs : s.size ≤ maxLen) :
    Calls Try.prog 21 #[CV s p e] w fun r w' => r = .returned (.tuple #[CV s (takeR s p e).1 (takeR s p e).2.1, .string (takeR s p e).2.2]) ∧ Below w.heap.size w w' := by
  unfold takeR
  by_cases h : (numR s p e 2).2.1 = 0
  · rw [if_pos h]
    obtain ⟨rfl, h1, -, -, h2, hr⟩ := numR_good h
    rw [hr]
    simp only
    by_cases hc : s.size - (p + 2) < numAt s p (2 : Int).toNat
    · rw [if_pos hc]; exact take_short s p _ w hs h1 h2 rfl hc
    · rw [if_neg hc]; exact take_good s p _ w hs h1 h2 rfl (by omega)
  · rw [if_neg h, (numR_bad h).1]; exact take_bad s p e w hs h

end Go.Proofs.Ytannhdhibajbkaa
