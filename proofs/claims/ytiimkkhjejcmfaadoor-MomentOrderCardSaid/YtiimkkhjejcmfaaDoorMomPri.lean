/- Contracts of Print, of the program and of the document. -/
import Derived.Test.YtiimkkhjejcmfaaDoorMomPar
namespace Go.Proofs.YtiimkkhjejcmfaaDoor.Mom
open Go.RowKit Civ

/-- A value's block, behind calls. -/
structure Bx (w w1 : World) (k s : Int) : Prop where
  c0 : w1.cell? ⟨w.heap.size, 0, none⟩ = some (.int .u8 k)
  c1 : w1.cell? ⟨w.heap.size, 1, none⟩ = some (.int .i64 s)
  below : Below w.heap.size w w1
  lt : w.heap.size < w1.heap.size
theorem Bx.new (w : World) (k s : Int) (t : TypeId) : Bx w (w.alloc (.cells #[.int .u8 k, .int .i64 s] t)) k s := by
  obtain ⟨a, b, c, d⟩ := two_cells (Below.refl (w.alloc (.cells #[.int .u8 k, .int .i64 s] t)).heap.size (w.alloc (.cells #[.int .u8 k, .int .i64 s] t)))
  exact ⟨a, b, c, d⟩
theorem Bx.call {w w1 w2 : World} {k s : Int} (h : Bx w w1 k s) (hb : Below w1.heap.size w1 w2) : Bx w w2 k s :=
  ⟨by rw [hb.cell (p := ⟨w.heap.size, 0, none⟩) h.lt]; exact h.c0, by rw [hb.cell (p := ⟨w.heap.size, 1, none⟩) h.lt]; exact h.c1, h.below.trans (hb.mono (by have := h.lt; omega)), by have := hb.size; have := h.lt; omega⟩

theorem date_at {n : Int} (h0 : 0 ≤ n) (h1 : n ≤ 3652058) : dateY n = yOf n ∧ dateM n = mOf n ∧ dateD n = dOf n ∧ dateE n = 0 := by
  have hb := dayB_of ⟨h0, h1⟩
  simp [dateY, dateM, dateD, dateE, hb]
theorem date_small {n : Int} (h0 : 0 ≤ n) (h1 : n ≤ 3652058) : 1 ≤ yOf n ∧ yOf n ≤ 9999 ∧ 1 ≤ mOf n ∧ mOf n ≤ 12 ∧ 1 ≤ dOf n ∧ dOf n ≤ 31 := by
  have h := dOf_is h0 h1
  have := h.y1; have := h.y2; have := h.m1; have := h.m2; have := h.d1; have := h.d2
  have := @monL_hi (oneY (yOf n)) (mOf n) (oneY_hi _)
  omega
theorem low_size (n : Int) (k : Nat) : (ByteArray.mk (low n k).toArray).size = k := by
  show (low n k).toArray.size = k
  simp [low_len]
theorem cat_date (n : Int) : ByteArray.mk (low (yOf n) 4).toArray ++ ByteArray.mk (low (mOf n) 2).toArray ++ ByteArray.mk (low (dOf n) 2).toArray = ByteArray.mk (dateL n).toArray := by
  rw [ByteArray.mk_append_mk, ByteArray.mk_append_mk, dateL, List.append_assoc]
theorem cat_time (d : List UInt8) (t : Int) : ByteArray.mk d.toArray ++ (ByteArray.mk #[84] ++ ByteArray.mk (low (t / 3600) 2).toArray ++ ByteArray.mk (low (t / 60 % 60) 2).toArray ++ ByteArray.mk (low (t % 60) 2).toArray) = ByteArray.mk (d ++ (84 :: timeL t)).toArray := by
  rw [mk_cons, ByteArray.mk_append_mk, ByteArray.mk_append_mk, ByteArray.mk_append_mk]
  simp [timeL]
theorem cat_z (d : List UInt8) : ByteArray.mk d.toArray ++ ByteArray.mk #[90] = ByteArray.mk (d ++ [90]).toArray := ByteArray.mk_append_mk d [90]
/-- The texts that are put together. -/
structure Cat (n t : Int) (s1 s2 s3 s4 s5 s6 : ByteArray) : Prop where
  date : s1 ++ s2 ++ s3 = ByteArray.mk (dateL n).toArray
  time : s1 ++ s2 ++ s3 ++ (ByteArray.mk #[84] ++ s4 ++ s5 ++ s6) = ByteArray.mk (dateL n ++ (84 :: timeL t)).toArray
  utc : s1 ++ s2 ++ s3 ++ (ByteArray.mk #[84] ++ s4 ++ s5 ++ s6) ++ ByteArray.mk #[90] = ByteArray.mk (dateL n ++ (84 :: (timeL t ++ [90]))).toArray
theorem cat_of (n t : Int) : Cat n t ⟨(low (yOf n) 4).toArray⟩ ⟨(low (mOf n) 2).toArray⟩ ⟨(low (dOf n) 2).toArray⟩ ⟨(low (t / 3600) 2).toArray⟩ ⟨(low (t / 60 % 60) 2).toArray⟩ ⟨(low (t % 60) 2).toArray⟩ := by
  refine ⟨cat_date n, ?_, ?_⟩
  · rw [cat_date, cat_time]
  · rw [cat_date, cat_time, cat_z]
    simp
theorem digits_4 (n : Int) (h0 : 0 ≤ n) (h1 : n ≤ 400000000000) (w : World) : Calls Tryd.prog 27 #[.int .i64 n, .int .i64 4] w fun r w' => r = .returned (.string ⟨(low n 4).toArray⟩) ∧ Below w.heap.size w w' := digits_any n 4 h0 h1 (by omega) w
theorem digits_2 (n : Int) (h0 : 0 ≤ n) (h1 : n ≤ 400000000000) (w : World) : Calls Tryd.prog 27 #[.int .i64 n, .int .i64 2] w fun r w' => r = .returned (.string ⟨(low n 2).toArray⟩) ∧ Below w.heap.size w w' := digits_any n 2 h0 h1 (by omega) w
theorem wide_4 (n : Int) (h0 : 0 ≤ n) (h1 : n ≤ 400000000000) (w : World) : Calls Tryd.prog 29 #[.int .i64 n, .int .i64 4] w fun r w' => r = .returned (.string ⟨(low n 4).toArray⟩) ∧ Below w.heap.size w w' := wide_any n 4 h0 h1 (by omega) w
theorem wide_2 (n : Int) (h0 : 0 ≤ n) (h1 : n ≤ 400000000000) (w : World) : Calls Tryd.prog 29 #[.int .i64 n, .int .i64 2] w fun r w' => r = .returned (.string ⟨(low n 2).toArray⟩) ∧ Below w.heap.size w w' := wide_any n 2 h0 h1 (by omega) w
theorem pr_ok {k s : Int} (h : chkA k s = 0) : prL k s = textL k s := if_pos h
theorem pr_no {k s : Int} (h : ¬ chkA k s = 0) : prL k s = [] := if_neg h

theorem print_no (k s : Int) (w : World) (e : ¬ chkA k s = 0) :
    Calls Tryd.prog 10 #[MV k s] w fun r w' => r = .returned (.tuple #[.string ⟨#[]⟩, .int .i64 (chkA k s)]) ∧ Below w.heap.size w w' := by
  have H := Lib.hid (fun W => check_any k s W)
  have t1 : (chkA k s != 0) = true := by simp; omega
  clear e
  generalize chkA k s = e' at *
  go_enter Tryd.func10, Tryd.ntmps10
  go_wp2_with (go_at_call 16; with_reducible refine (H.out _).mono ?_; rintro e w1 ⟨rfl, hb⟩; have HB := Lib.hid ((Bx.new w k s 24).call hb); clear hb)
  refine bodyPost_ret (v := .tuple #[.string ⟨#[]⟩, .int .i64 e']) (by simp [results, Tryd.results10, go_sem, *]) rfl ⟨rfl, HB.out.below⟩

theorem print_1 (s : Int) (w : World) (hT : CTab w) (e : chkA 1 s = 0) :
    Calls Tryd.prog 10 #[MV 1 s] w fun r w' => r = .returned (.tuple #[.string ⟨(textL 1 s).toArray⟩, .int .i64 0]) ∧ Below w.heap.size w w' := by
  have H1 := Lib.hid (fun W => check_any 1 s W)
  rw [e] at H1
  obtain ⟨-, -, b0, b1, -⟩ := chk_ok e
  have n0 : 0 ≤ s / 86400 := by omega
  have n1 : s / 86400 ≤ 3652058 := by omega
  have r0 : 0 ≤ s % 86400 := by omega
  have r1 : s % 86400 < 86400 := by omega
  rw [text_1]
  have H2 := Lib.hid (fun W => split_any 1 s W)
  unfold spD spS at H2
  rw [if_pos e, if_pos e] at H2
  have H3 := Lib.hid (fun W hW => date_any (s / 86400) W hW)
  obtain ⟨d1, d2, d3, d4⟩ := date_at n0 n1
  rw [d1, d2, d3, d4] at H3
  obtain ⟨y1, y2, m1, m2, q1, q2⟩ := date_small n0 n1
  clear e d1 d2 d3 d4
  generalize hn : s / 86400 = n at *
  generalize ht : s % 86400 = t at *
  have HN := Lib.hid hn
  have HT' := Lib.hid ht
  have C1 := Lib.hid (fun W => digits_4 (yOf n) (by omega) (by omega) W)
  have C2 := Lib.hid (fun W => digits_2 (mOf n) (by omega) (by omega) W)
  have C3 := Lib.hid (fun W => digits_2 (dOf n) (by omega) (by omega) W)
  have C4 := Lib.hid (fun W => digits_2 (t / 3600) (by omega) (by omega) W)
  have et : t % 3600 / 60 = t / 60 % 60 := by omega
  have C5 := Lib.hid (fun W => digits_2 (t % 3600 / 60) (by omega) (by omega) W)
  rw [show low (t % 3600 / 60) 2 = low (t / 60 % 60) 2 by rw [et]] at C5
  clear et
  have C6 := Lib.hid (fun W => digits_2 (t % 60) (by omega) (by omega) W)
  have HC := Lib.hid (cat_of n t)
  have z1 := low_size (yOf n) 4
  have z2 := low_size (mOf n) 2
  have z3 := low_size (dOf n) 2
  have z4 := low_size (t / 3600) 2
  have z5 := low_size (t / 60 % 60) 2
  have z6 := low_size (t % 60) 2
  generalize ByteArray.mk (low (yOf n) 4).toArray = s1 at *
  generalize ByteArray.mk (low (mOf n) 2).toArray = s2 at *
  generalize ByteArray.mk (low (dOf n) 2).toArray = s3 at *
  generalize ByteArray.mk (low (t / 3600) 2).toArray = s4 at *
  generalize ByteArray.mk (low (t / 60 % 60) 2).toArray = s5 at *
  generalize ByteArray.mk (low (t % 60) 2).toArray = s6 at *
  generalize yOf n = y at *
  generalize mOf n = m at *
  generalize dOf n = d at *
  rw [← HC.out.date]
  clear hn ht
  have HB := Lib.hid (Bx.new w 1 s 24)
  obtain ⟨c0, c1, -, -⟩ := HB.out
  have HT := Lib.hid hT
  clear hT
  go_enter Tryd.func10, Tryd.ntmps10
  go_wp2_with (first
    | (go_at_call 16; with_reducible refine (H1.out _).mono ?_; rintro e w2 ⟨rfl, hb⟩; replace HB := Lib.hid (HB.out.call hb); clear hb c0 c1; obtain ⟨c0, c1, -, -⟩ := HB.out)
    | (go_at_call 12; with_reducible refine (H2.out _).mono ?_; rintro e w2 ⟨rfl, hb⟩; replace HB := Lib.hid (HB.out.call hb); clear hb c0 c1; obtain ⟨c0, c1, -, -⟩ := HB.out)
    | (go_at_call 26; with_reducible refine (H3.out _ (tab_below HT.out HB.out.below)).mono ?_; rintro e w2 ⟨rfl, rfl⟩)
    | (go_at_call 27; with_reducible refine (C1.out _).mono ?_; rintro e w2 ⟨rfl, hb⟩; replace HB := Lib.hid (HB.out.call hb); clear hb c0 c1; obtain ⟨c0, c1, -, -⟩ := HB.out)
    | (go_at_call 27; with_reducible refine (C2.out _).mono ?_; rintro e w2 ⟨rfl, hb⟩; replace HB := Lib.hid (HB.out.call hb); clear hb c0 c1; obtain ⟨c0, c1, -, -⟩ := HB.out)
    | (go_at_call 27; with_reducible refine (C3.out _).mono ?_; rintro e w2 ⟨rfl, hb⟩; replace HB := Lib.hid (HB.out.call hb); clear hb c0 c1; obtain ⟨c0, c1, -, -⟩ := HB.out))
  refine bodyPost_ret (v := .tuple #[.string (s1 ++ s2 ++ s3), .int .i64 0]) (by simp [results, Tryd.results10, go_sem, *]) rfl ⟨rfl, HB.out.below⟩

theorem print_2 (s : Int) (w : World) (hT : CTab w) (e : chkA 2 s = 0) :
    Calls Tryd.prog 10 #[MV 2 s] w fun r w' => r = .returned (.tuple #[.string ⟨(textL 2 s).toArray⟩, .int .i64 0]) ∧ Below w.heap.size w w' := by
  have H1 := Lib.hid (fun W => check_any 2 s W)
  rw [e] at H1
  obtain ⟨-, -, b0, b1, -⟩ := chk_ok e
  have n0 : 0 ≤ s / 86400 := by omega
  have n1 : s / 86400 ≤ 3652058 := by omega
  have r0 : 0 ≤ s % 86400 := by omega
  have r1 : s % 86400 < 86400 := by omega
  rw [text_2]
  have H2 := Lib.hid (fun W => split_any 2 s W)
  unfold spD spS at H2
  rw [if_pos e, if_pos e] at H2
  have H3 := Lib.hid (fun W hW => date_any (s / 86400) W hW)
  obtain ⟨d1, d2, d3, d4⟩ := date_at n0 n1
  rw [d1, d2, d3, d4] at H3
  obtain ⟨y1, y2, m1, m2, q1, q2⟩ := date_small n0 n1
  clear e d1 d2 d3 d4
  generalize hn : s / 86400 = n at *
  generalize ht : s % 86400 = t at *
  have HN := Lib.hid hn
  have HT' := Lib.hid ht
  have C1 := Lib.hid (fun W => digits_4 (yOf n) (by omega) (by omega) W)
  have C2 := Lib.hid (fun W => digits_2 (mOf n) (by omega) (by omega) W)
  have C3 := Lib.hid (fun W => digits_2 (dOf n) (by omega) (by omega) W)
  have C4 := Lib.hid (fun W => digits_2 (t / 3600) (by omega) (by omega) W)
  have et : t % 3600 / 60 = t / 60 % 60 := by omega
  have C5 := Lib.hid (fun W => digits_2 (t % 3600 / 60) (by omega) (by omega) W)
  rw [show low (t % 3600 / 60) 2 = low (t / 60 % 60) 2 by rw [et]] at C5
  clear et
  have C6 := Lib.hid (fun W => digits_2 (t % 60) (by omega) (by omega) W)
  have HC := Lib.hid (cat_of n t)
  have z1 := low_size (yOf n) 4
  have z2 := low_size (mOf n) 2
  have z3 := low_size (dOf n) 2
  have z4 := low_size (t / 3600) 2
  have z5 := low_size (t / 60 % 60) 2
  have z6 := low_size (t % 60) 2
  generalize ByteArray.mk (low (yOf n) 4).toArray = s1 at *
  generalize ByteArray.mk (low (mOf n) 2).toArray = s2 at *
  generalize ByteArray.mk (low (dOf n) 2).toArray = s3 at *
  generalize ByteArray.mk (low (t / 3600) 2).toArray = s4 at *
  generalize ByteArray.mk (low (t / 60 % 60) 2).toArray = s5 at *
  generalize ByteArray.mk (low (t % 60) 2).toArray = s6 at *
  generalize yOf n = y at *
  generalize mOf n = m at *
  generalize dOf n = d at *
  rw [← HC.out.time]
  clear hn ht
  have HB := Lib.hid (Bx.new w 2 s 24)
  obtain ⟨c0, c1, -, -⟩ := HB.out
  have HT := Lib.hid hT
  clear hT
  go_enter Tryd.func10, Tryd.ntmps10
  go_wp2_with (first
    | (go_at_call 16; with_reducible refine (H1.out _).mono ?_; rintro e w2 ⟨rfl, hb⟩; replace HB := Lib.hid (HB.out.call hb); clear hb c0 c1; obtain ⟨c0, c1, -, -⟩ := HB.out)
    | (go_at_call 12; with_reducible refine (H2.out _).mono ?_; rintro e w2 ⟨rfl, hb⟩; replace HB := Lib.hid (HB.out.call hb); clear hb c0 c1; obtain ⟨c0, c1, -, -⟩ := HB.out)
    | (go_at_call 26; with_reducible refine (H3.out _ (tab_below HT.out HB.out.below)).mono ?_; rintro e w2 ⟨rfl, rfl⟩)
    | (go_at_call 27; with_reducible refine (C1.out _).mono ?_; rintro e w2 ⟨rfl, hb⟩; replace HB := Lib.hid (HB.out.call hb); clear hb c0 c1; obtain ⟨c0, c1, -, -⟩ := HB.out)
    | (go_at_call 27; with_reducible refine (C2.out _).mono ?_; rintro e w2 ⟨rfl, hb⟩; replace HB := Lib.hid (HB.out.call hb); clear hb c0 c1; obtain ⟨c0, c1, -, -⟩ := HB.out)
    | (go_at_call 27; with_reducible refine (C3.out _).mono ?_; rintro e w2 ⟨rfl, hb⟩; replace HB := Lib.hid (HB.out.call hb); clear hb c0 c1; obtain ⟨c0, c1, -, -⟩ := HB.out)
    | (go_at_call 27; with_reducible refine (C4.out _).mono ?_; rintro e w2 ⟨rfl, hb⟩; replace HB := Lib.hid (HB.out.call hb); clear hb c0 c1; obtain ⟨c0, c1, -, -⟩ := HB.out)
    | (go_at_call 27; with_reducible refine (C5.out _).mono ?_; rintro e w2 ⟨rfl, hb⟩; replace HB := Lib.hid (HB.out.call hb); clear hb c0 c1; obtain ⟨c0, c1, -, -⟩ := HB.out)
    | (go_at_call 27; with_reducible refine (C6.out _).mono ?_; rintro e w2 ⟨rfl, hb⟩; replace HB := Lib.hid (HB.out.call hb); clear hb c0 c1; obtain ⟨c0, c1, -, -⟩ := HB.out))
  refine bodyPost_ret (v := .tuple #[.string (s1 ++ s2 ++ s3 ++ (ByteArray.mk #[84] ++ s4 ++ s5 ++ s6)), .int .i64 0]) (by simp [results, Tryd.results10, go_sem, *]) rfl ⟨rfl, HB.out.below⟩

theorem print_3 (s : Int) (w : World) (hT : CTab w) (e : chkA 3 s = 0) :
    Calls Tryd.prog 10 #[MV 3 s] w fun r w' => r = .returned (.tuple #[.string ⟨(textL 3 s).toArray⟩, .int .i64 0]) ∧ Below w.heap.size w w' := by
  have H1 := Lib.hid (fun W => check_any 3 s W)
  rw [e] at H1
  obtain ⟨-, -, b0, b1, -⟩ := chk_ok e
  have n0 : 0 ≤ s / 86400 := by omega
  have n1 : s / 86400 ≤ 3652058 := by omega
  have r0 : 0 ≤ s % 86400 := by omega
  have r1 : s % 86400 < 86400 := by omega
  rw [text_3]
  have H2 := Lib.hid (fun W => split_any 3 s W)
  unfold spD spS at H2
  rw [if_pos e, if_pos e] at H2
  have H3 := Lib.hid (fun W hW => date_any (s / 86400) W hW)
  obtain ⟨d1, d2, d3, d4⟩ := date_at n0 n1
  rw [d1, d2, d3, d4] at H3
  obtain ⟨y1, y2, m1, m2, q1, q2⟩ := date_small n0 n1
  clear e d1 d2 d3 d4
  generalize hn : s / 86400 = n at *
  generalize ht : s % 86400 = t at *
  have HN := Lib.hid hn
  have HT' := Lib.hid ht
  have C1 := Lib.hid (fun W => digits_4 (yOf n) (by omega) (by omega) W)
  have C2 := Lib.hid (fun W => digits_2 (mOf n) (by omega) (by omega) W)
  have C3 := Lib.hid (fun W => digits_2 (dOf n) (by omega) (by omega) W)
  have C4 := Lib.hid (fun W => digits_2 (t / 3600) (by omega) (by omega) W)
  have et : t % 3600 / 60 = t / 60 % 60 := by omega
  have C5 := Lib.hid (fun W => digits_2 (t % 3600 / 60) (by omega) (by omega) W)
  rw [show low (t % 3600 / 60) 2 = low (t / 60 % 60) 2 by rw [et]] at C5
  clear et
  have C6 := Lib.hid (fun W => digits_2 (t % 60) (by omega) (by omega) W)
  have HC := Lib.hid (cat_of n t)
  have z1 := low_size (yOf n) 4
  have z2 := low_size (mOf n) 2
  have z3 := low_size (dOf n) 2
  have z4 := low_size (t / 3600) 2
  have z5 := low_size (t / 60 % 60) 2
  have z6 := low_size (t % 60) 2
  generalize ByteArray.mk (low (yOf n) 4).toArray = s1 at *
  generalize ByteArray.mk (low (mOf n) 2).toArray = s2 at *
  generalize ByteArray.mk (low (dOf n) 2).toArray = s3 at *
  generalize ByteArray.mk (low (t / 3600) 2).toArray = s4 at *
  generalize ByteArray.mk (low (t / 60 % 60) 2).toArray = s5 at *
  generalize ByteArray.mk (low (t % 60) 2).toArray = s6 at *
  generalize yOf n = y at *
  generalize mOf n = m at *
  generalize dOf n = d at *
  rw [← HC.out.utc]
  clear hn ht
  have HB := Lib.hid (Bx.new w 3 s 24)
  obtain ⟨c0, c1, -, -⟩ := HB.out
  have HT := Lib.hid hT
  clear hT
  go_enter Tryd.func10, Tryd.ntmps10
  go_wp2_with (first
    | (go_at_call 16; with_reducible refine (H1.out _).mono ?_; rintro e w2 ⟨rfl, hb⟩; replace HB := Lib.hid (HB.out.call hb); clear hb c0 c1; obtain ⟨c0, c1, -, -⟩ := HB.out)
    | (go_at_call 12; with_reducible refine (H2.out _).mono ?_; rintro e w2 ⟨rfl, hb⟩; replace HB := Lib.hid (HB.out.call hb); clear hb c0 c1; obtain ⟨c0, c1, -, -⟩ := HB.out)
    | (go_at_call 26; with_reducible refine (H3.out _ (tab_below HT.out HB.out.below)).mono ?_; rintro e w2 ⟨rfl, rfl⟩)
    | (go_at_call 27; with_reducible refine (C1.out _).mono ?_; rintro e w2 ⟨rfl, hb⟩; replace HB := Lib.hid (HB.out.call hb); clear hb c0 c1; obtain ⟨c0, c1, -, -⟩ := HB.out)
    | (go_at_call 27; with_reducible refine (C2.out _).mono ?_; rintro e w2 ⟨rfl, hb⟩; replace HB := Lib.hid (HB.out.call hb); clear hb c0 c1; obtain ⟨c0, c1, -, -⟩ := HB.out)
    | (go_at_call 27; with_reducible refine (C3.out _).mono ?_; rintro e w2 ⟨rfl, hb⟩; replace HB := Lib.hid (HB.out.call hb); clear hb c0 c1; obtain ⟨c0, c1, -, -⟩ := HB.out)
    | (go_at_call 27; with_reducible refine (C4.out _).mono ?_; rintro e w2 ⟨rfl, hb⟩; replace HB := Lib.hid (HB.out.call hb); clear hb c0 c1; obtain ⟨c0, c1, -, -⟩ := HB.out)
    | (go_at_call 27; with_reducible refine (C5.out _).mono ?_; rintro e w2 ⟨rfl, hb⟩; replace HB := Lib.hid (HB.out.call hb); clear hb c0 c1; obtain ⟨c0, c1, -, -⟩ := HB.out)
    | (go_at_call 27; with_reducible refine (C6.out _).mono ?_; rintro e w2 ⟨rfl, hb⟩; replace HB := Lib.hid (HB.out.call hb); clear hb c0 c1; obtain ⟨c0, c1, -, -⟩ := HB.out))
  refine bodyPost_ret (v := .tuple #[.string (s1 ++ s2 ++ s3 ++ (ByteArray.mk #[84] ++ s4 ++ s5 ++ s6) ++ ByteArray.mk #[90]), .int .i64 0]) (by simp [results, Tryd.results10, go_sem, *]) rfl ⟨rfl, HB.out.below⟩

theorem print_any (k s : Int) (w : World) (hT : CTab w) :
    Calls Tryd.prog 10 #[MV k s] w fun r w' => r = .returned (.tuple #[.string ⟨(prL k s).toArray⟩, .int .i64 (chkA k s)]) ∧ Below w.heap.size w w' := by
  by_cases e : chkA k s = 0
  · obtain ⟨k1, k2, -⟩ := chk_ok e
    rw [pr_ok e, e]
    rcases kB_cases (kB_of ⟨k1, k2⟩) with rfl | rfl | rfl
    · exact print_1 s w hT e
    · exact print_2 s w hT e
    · exact print_3 s w hT e
  · rw [pr_no e]
    exact print_no k s w e

theorem rprint_no (k s : Int) (w : World) (e : ¬ chkA k s = 0) :
    Calls Tryd.prog 11 #[MV k s] w fun r w' => r = .returned (.tuple #[.string ⟨#[]⟩, .int .i64 (chkA k s)]) ∧ Below w.heap.size w w' := by
  have H := Lib.hid (fun W => rcheck_any k s W)
  have t1 : (chkA k s != 0) = true := by simp; omega
  clear e
  generalize chkA k s = e' at *
  go_enter Tryd.func11, Tryd.ntmps11
  go_wp2_with (go_at_call 17; with_reducible refine (H.out _).mono ?_; rintro e w1 ⟨rfl, hb⟩; have HB := Lib.hid ((Bx.new w k s 28).call hb); clear hb)
  refine bodyPost_ret (v := .tuple #[.string ⟨#[]⟩, .int .i64 e']) (by simp [results, Tryd.results11, go_sem, *]) rfl ⟨rfl, HB.out.below⟩

theorem rprint_1 (s : Int) (w : World) (e : chkA 1 s = 0) :
    Calls Tryd.prog 11 #[MV 1 s] w fun r w' => r = .returned (.tuple #[.string ⟨(textL 1 s).toArray⟩, .int .i64 0]) ∧ Below w.heap.size w w' := by
  have H1 := Lib.hid (fun W => rcheck_any 1 s W)
  rw [e] at H1
  obtain ⟨-, -, b0, b1, -⟩ := chk_ok e
  have n0 : 0 ≤ s / 86400 := by omega
  have n1 : s / 86400 ≤ 3652058 := by omega
  have r0 : 0 ≤ s % 86400 := by omega
  have r1 : s % 86400 < 86400 := by omega
  rw [text_1]
  have H3 := Lib.hid (fun W => rdate_any (s / 86400) W)
  obtain ⟨d1, d2, d3, d4⟩ := date_at n0 n1
  rw [d1, d2, d3, d4] at H3
  obtain ⟨y1, y2, m1, m2, q1, q2⟩ := date_small n0 n1
  clear e d1 d2 d3 d4
  generalize hn : s / 86400 = n at *
  generalize ht : s % 86400 = t at *
  have HN := Lib.hid hn
  have HT' := Lib.hid ht
  have C1 := Lib.hid (fun W => wide_4 (yOf n) (by omega) (by omega) W)
  have C2 := Lib.hid (fun W => wide_2 (mOf n) (by omega) (by omega) W)
  have C3 := Lib.hid (fun W => wide_2 (dOf n) (by omega) (by omega) W)
  have C4 := Lib.hid (fun W => wide_2 (t / 3600) (by omega) (by omega) W)
  have C5 := Lib.hid (fun W => wide_2 (t / 60 % 60) (by omega) (by omega) W)
  have C6 := Lib.hid (fun W => wide_2 (t % 60) (by omega) (by omega) W)
  have HC := Lib.hid (cat_of n t)
  have z1 := low_size (yOf n) 4
  have z2 := low_size (mOf n) 2
  have z3 := low_size (dOf n) 2
  have z4 := low_size (t / 3600) 2
  have z5 := low_size (t / 60 % 60) 2
  have z6 := low_size (t % 60) 2
  generalize ByteArray.mk (low (yOf n) 4).toArray = s1 at *
  generalize ByteArray.mk (low (mOf n) 2).toArray = s2 at *
  generalize ByteArray.mk (low (dOf n) 2).toArray = s3 at *
  generalize ByteArray.mk (low (t / 3600) 2).toArray = s4 at *
  generalize ByteArray.mk (low (t / 60 % 60) 2).toArray = s5 at *
  generalize ByteArray.mk (low (t % 60) 2).toArray = s6 at *
  generalize yOf n = y at *
  generalize mOf n = m at *
  generalize dOf n = d at *
  rw [← HC.out.date]
  clear hn ht
  have HB := Lib.hid (Bx.new w 1 s 28)
  obtain ⟨c0, c1, -, -⟩ := HB.out
  go_enter Tryd.func11, Tryd.ntmps11
  have en : s / 86400 = n := HN.out
  have er : s % 86400 = t := HT'.out
  go_wp2_with (first
    | (go_at_call 17; with_reducible refine (H1.out _).mono ?_; rintro e w2 ⟨rfl, hb⟩; replace HB := Lib.hid (HB.out.call hb); clear hb c0 c1; obtain ⟨c0, c1, -, -⟩ := HB.out)
    | (go_at_call 28; with_reducible refine (H3.out _).mono ?_; rintro e w2 ⟨rfl, rfl⟩)
    | (go_at_call 29; with_reducible refine (C1.out _).mono ?_; rintro e w2 ⟨rfl, hb⟩; replace HB := Lib.hid (HB.out.call hb); clear hb c0 c1; obtain ⟨c0, c1, -, -⟩ := HB.out)
    | (go_at_call 29; with_reducible refine (C2.out _).mono ?_; rintro e w2 ⟨rfl, hb⟩; replace HB := Lib.hid (HB.out.call hb); clear hb c0 c1; obtain ⟨c0, c1, -, -⟩ := HB.out)
    | (go_at_call 29; with_reducible refine (C3.out _).mono ?_; rintro e w2 ⟨rfl, hb⟩; replace HB := Lib.hid (HB.out.call hb); clear hb c0 c1; obtain ⟨c0, c1, -, -⟩ := HB.out))
  refine bodyPost_ret (v := .tuple #[.string (s1 ++ s2 ++ s3), .int .i64 0]) (by simp [results, Tryd.results11, go_sem, *]) rfl ⟨rfl, HB.out.below⟩

theorem rprint_2 (s : Int) (w : World) (e : chkA 2 s = 0) :
    Calls Tryd.prog 11 #[MV 2 s] w fun r w' => r = .returned (.tuple #[.string ⟨(textL 2 s).toArray⟩, .int .i64 0]) ∧ Below w.heap.size w w' := by
  have H1 := Lib.hid (fun W => rcheck_any 2 s W)
  rw [e] at H1
  obtain ⟨-, -, b0, b1, -⟩ := chk_ok e
  have n0 : 0 ≤ s / 86400 := by omega
  have n1 : s / 86400 ≤ 3652058 := by omega
  have r0 : 0 ≤ s % 86400 := by omega
  have r1 : s % 86400 < 86400 := by omega
  rw [text_2]
  have H3 := Lib.hid (fun W => rdate_any (s / 86400) W)
  obtain ⟨d1, d2, d3, d4⟩ := date_at n0 n1
  rw [d1, d2, d3, d4] at H3
  obtain ⟨y1, y2, m1, m2, q1, q2⟩ := date_small n0 n1
  clear e d1 d2 d3 d4
  generalize hn : s / 86400 = n at *
  generalize ht : s % 86400 = t at *
  have HN := Lib.hid hn
  have HT' := Lib.hid ht
  have C1 := Lib.hid (fun W => wide_4 (yOf n) (by omega) (by omega) W)
  have C2 := Lib.hid (fun W => wide_2 (mOf n) (by omega) (by omega) W)
  have C3 := Lib.hid (fun W => wide_2 (dOf n) (by omega) (by omega) W)
  have C4 := Lib.hid (fun W => wide_2 (t / 3600) (by omega) (by omega) W)
  have C5 := Lib.hid (fun W => wide_2 (t / 60 % 60) (by omega) (by omega) W)
  have C6 := Lib.hid (fun W => wide_2 (t % 60) (by omega) (by omega) W)
  have HC := Lib.hid (cat_of n t)
  have z1 := low_size (yOf n) 4
  have z2 := low_size (mOf n) 2
  have z3 := low_size (dOf n) 2
  have z4 := low_size (t / 3600) 2
  have z5 := low_size (t / 60 % 60) 2
  have z6 := low_size (t % 60) 2
  generalize ByteArray.mk (low (yOf n) 4).toArray = s1 at *
  generalize ByteArray.mk (low (mOf n) 2).toArray = s2 at *
  generalize ByteArray.mk (low (dOf n) 2).toArray = s3 at *
  generalize ByteArray.mk (low (t / 3600) 2).toArray = s4 at *
  generalize ByteArray.mk (low (t / 60 % 60) 2).toArray = s5 at *
  generalize ByteArray.mk (low (t % 60) 2).toArray = s6 at *
  generalize yOf n = y at *
  generalize mOf n = m at *
  generalize dOf n = d at *
  rw [← HC.out.time]
  clear hn ht
  have HB := Lib.hid (Bx.new w 2 s 28)
  obtain ⟨c0, c1, -, -⟩ := HB.out
  go_enter Tryd.func11, Tryd.ntmps11
  have en : s / 86400 = n := HN.out
  have er : s % 86400 = t := HT'.out
  go_wp2_with (first
    | (go_at_call 17; with_reducible refine (H1.out _).mono ?_; rintro e w2 ⟨rfl, hb⟩; replace HB := Lib.hid (HB.out.call hb); clear hb c0 c1; obtain ⟨c0, c1, -, -⟩ := HB.out)
    | (go_at_call 28; with_reducible refine (H3.out _).mono ?_; rintro e w2 ⟨rfl, rfl⟩)
    | (go_at_call 29; with_reducible refine (C1.out _).mono ?_; rintro e w2 ⟨rfl, hb⟩; replace HB := Lib.hid (HB.out.call hb); clear hb c0 c1; obtain ⟨c0, c1, -, -⟩ := HB.out)
    | (go_at_call 29; with_reducible refine (C2.out _).mono ?_; rintro e w2 ⟨rfl, hb⟩; replace HB := Lib.hid (HB.out.call hb); clear hb c0 c1; obtain ⟨c0, c1, -, -⟩ := HB.out)
    | (go_at_call 29; with_reducible refine (C3.out _).mono ?_; rintro e w2 ⟨rfl, hb⟩; replace HB := Lib.hid (HB.out.call hb); clear hb c0 c1; obtain ⟨c0, c1, -, -⟩ := HB.out)
    | (go_at_call 29; with_reducible refine (C4.out _).mono ?_; rintro e w2 ⟨rfl, hb⟩; replace HB := Lib.hid (HB.out.call hb); clear hb c0 c1; obtain ⟨c0, c1, -, -⟩ := HB.out)
    | (go_at_call 29; with_reducible refine (C5.out _).mono ?_; rintro e w2 ⟨rfl, hb⟩; replace HB := Lib.hid (HB.out.call hb); clear hb c0 c1; obtain ⟨c0, c1, -, -⟩ := HB.out)
    | (go_at_call 29; with_reducible refine (C6.out _).mono ?_; rintro e w2 ⟨rfl, hb⟩; replace HB := Lib.hid (HB.out.call hb); clear hb c0 c1; obtain ⟨c0, c1, -, -⟩ := HB.out))
  refine bodyPost_ret (v := .tuple #[.string (s1 ++ s2 ++ s3 ++ (ByteArray.mk #[84] ++ s4 ++ s5 ++ s6)), .int .i64 0]) (by simp [results, Tryd.results11, go_sem, *]) rfl ⟨rfl, HB.out.below⟩

theorem rprint_3 (s : Int) (w : World) (e : chkA 3 s = 0) :
    Calls Tryd.prog 11 #[MV 3 s] w fun r w' => r = .returned (.tuple #[.string ⟨(textL 3 s).toArray⟩, .int .i64 0]) ∧ Below w.heap.size w w' := by
  have H1 := Lib.hid (fun W => rcheck_any 3 s W)
  rw [e] at H1
  obtain ⟨-, -, b0, b1, -⟩ := chk_ok e
  have n0 : 0 ≤ s / 86400 := by omega
  have n1 : s / 86400 ≤ 3652058 := by omega
  have r0 : 0 ≤ s % 86400 := by omega
  have r1 : s % 86400 < 86400 := by omega
  rw [text_3]
  have H3 := Lib.hid (fun W => rdate_any (s / 86400) W)
  obtain ⟨d1, d2, d3, d4⟩ := date_at n0 n1
  rw [d1, d2, d3, d4] at H3
  obtain ⟨y1, y2, m1, m2, q1, q2⟩ := date_small n0 n1
  clear e d1 d2 d3 d4
  generalize hn : s / 86400 = n at *
  generalize ht : s % 86400 = t at *
  have HN := Lib.hid hn
  have HT' := Lib.hid ht
  have C1 := Lib.hid (fun W => wide_4 (yOf n) (by omega) (by omega) W)
  have C2 := Lib.hid (fun W => wide_2 (mOf n) (by omega) (by omega) W)
  have C3 := Lib.hid (fun W => wide_2 (dOf n) (by omega) (by omega) W)
  have C4 := Lib.hid (fun W => wide_2 (t / 3600) (by omega) (by omega) W)
  have C5 := Lib.hid (fun W => wide_2 (t / 60 % 60) (by omega) (by omega) W)
  have C6 := Lib.hid (fun W => wide_2 (t % 60) (by omega) (by omega) W)
  have HC := Lib.hid (cat_of n t)
  have z1 := low_size (yOf n) 4
  have z2 := low_size (mOf n) 2
  have z3 := low_size (dOf n) 2
  have z4 := low_size (t / 3600) 2
  have z5 := low_size (t / 60 % 60) 2
  have z6 := low_size (t % 60) 2
  generalize ByteArray.mk (low (yOf n) 4).toArray = s1 at *
  generalize ByteArray.mk (low (mOf n) 2).toArray = s2 at *
  generalize ByteArray.mk (low (dOf n) 2).toArray = s3 at *
  generalize ByteArray.mk (low (t / 3600) 2).toArray = s4 at *
  generalize ByteArray.mk (low (t / 60 % 60) 2).toArray = s5 at *
  generalize ByteArray.mk (low (t % 60) 2).toArray = s6 at *
  generalize yOf n = y at *
  generalize mOf n = m at *
  generalize dOf n = d at *
  rw [← HC.out.utc]
  clear hn ht
  have HB := Lib.hid (Bx.new w 3 s 28)
  obtain ⟨c0, c1, -, -⟩ := HB.out
  go_enter Tryd.func11, Tryd.ntmps11
  have en : s / 86400 = n := HN.out
  have er : s % 86400 = t := HT'.out
  go_wp2_with (first
    | (go_at_call 17; with_reducible refine (H1.out _).mono ?_; rintro e w2 ⟨rfl, hb⟩; replace HB := Lib.hid (HB.out.call hb); clear hb c0 c1; obtain ⟨c0, c1, -, -⟩ := HB.out)
    | (go_at_call 28; with_reducible refine (H3.out _).mono ?_; rintro e w2 ⟨rfl, rfl⟩)
    | (go_at_call 29; with_reducible refine (C1.out _).mono ?_; rintro e w2 ⟨rfl, hb⟩; replace HB := Lib.hid (HB.out.call hb); clear hb c0 c1; obtain ⟨c0, c1, -, -⟩ := HB.out)
    | (go_at_call 29; with_reducible refine (C2.out _).mono ?_; rintro e w2 ⟨rfl, hb⟩; replace HB := Lib.hid (HB.out.call hb); clear hb c0 c1; obtain ⟨c0, c1, -, -⟩ := HB.out)
    | (go_at_call 29; with_reducible refine (C3.out _).mono ?_; rintro e w2 ⟨rfl, hb⟩; replace HB := Lib.hid (HB.out.call hb); clear hb c0 c1; obtain ⟨c0, c1, -, -⟩ := HB.out)
    | (go_at_call 29; with_reducible refine (C4.out _).mono ?_; rintro e w2 ⟨rfl, hb⟩; replace HB := Lib.hid (HB.out.call hb); clear hb c0 c1; obtain ⟨c0, c1, -, -⟩ := HB.out)
    | (go_at_call 29; with_reducible refine (C5.out _).mono ?_; rintro e w2 ⟨rfl, hb⟩; replace HB := Lib.hid (HB.out.call hb); clear hb c0 c1; obtain ⟨c0, c1, -, -⟩ := HB.out)
    | (go_at_call 29; with_reducible refine (C6.out _).mono ?_; rintro e w2 ⟨rfl, hb⟩; replace HB := Lib.hid (HB.out.call hb); clear hb c0 c1; obtain ⟨c0, c1, -, -⟩ := HB.out))
  refine bodyPost_ret (v := .tuple #[.string (s1 ++ s2 ++ s3 ++ (ByteArray.mk #[84] ++ s4 ++ s5 ++ s6) ++ ByteArray.mk #[90]), .int .i64 0]) (by simp [results, Tryd.results11, go_sem, *]) rfl ⟨rfl, HB.out.below⟩

theorem rprint_any (k s : Int) (w : World) :
    Calls Tryd.prog 11 #[MV k s] w fun r w' => r = .returned (.tuple #[.string ⟨(prL k s).toArray⟩, .int .i64 (chkA k s)]) ∧ Below w.heap.size w w' := by
  by_cases e : chkA k s = 0
  · obtain ⟨k1, k2, -⟩ := chk_ok e
    rw [pr_ok e, e]
    rcases kB_cases (kB_of ⟨k1, k2⟩) with rfl | rfl | rfl
    · exact rprint_1 s w e
    · exact rprint_2 s w e
    · exact rprint_3 s w e
  · rw [pr_no e]
    exact rprint_no k s w e
end Go.Proofs.YtiimkkhjejcmfaaDoor.Mom
