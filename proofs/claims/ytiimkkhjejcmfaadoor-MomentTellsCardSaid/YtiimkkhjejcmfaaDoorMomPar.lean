/- Contracts of Parse, of the program and of the document. -/
import Derived.Test.YtiimkkhjejcmfaaDoorMomSpl
import Derived.Test.YtiimkkhjejcmfaaDoorCivPro
namespace Go.Proofs.YtiimkkhjejcmfaaDoor.Mom
open Go.RowKit Civ

theorem quiet_left {P : Program} {f : FuncId} {args : Array Value} {w : World} {n : Nat} {v : Value}
    (h : Calls P f args (w.drewN n) fun e w' => e = .returned v ∧ w.drewN n = w') : Calls P f args (w.drewN n) fun e w'' => e = .returned v ∧ ∃ m, w'' = w.drewN m :=
  h.mono fun _ _ ⟨he, hm⟩ => ⟨he, n, hm.symm⟩
/-- A part of a text, as a text. -/
theorem ext_list (s : ByteArray) (a b : Nat) : (s.extract a b).data.toList = (s.data.toList.drop a).take (b - a) := by
  simp [ByteArray.data_extract]
theorem ext_size {s : ByteArray} {a b : Nat} (h : b ≤ s.size) (h2 : a ≤ b) : (s.extract a b).size = b - a := by
  simp [ByteArray.size_extract]; omega

/-- What is known of a text of a form. -/
structure Parts (l : List UInt8) : Prop where
  a0 : allD (l.take 4) = true
  a1 : allD ((l.drop 4).take 2) = true
  a2 : allD ((l.drop 6).take 2) = true
  len : 8 ≤ l.length
structure Times (l : List UInt8) : Prop where
  a3 : allD ((l.drop 9).take 2) = true
  a4 : allD ((l.drop 11).take 2) = true
  a5 : allD ((l.drop 13).take 2) = true
  len : 15 ≤ l.length
theorem parts_of {l : List UInt8} (h : ¬ kindA l = 0) : Parts l := by
  rcases kindA_cases l with ⟨e, h⟩ | ⟨e, h⟩ | ⟨e, h⟩ | ⟨e, h1, h2, h3⟩
  · obtain ⟨a, b, c, d, e, f, g, i, rfl, ha, hb, hc, hd, he, hf, hg, hi⟩ := form1 h
    exact ⟨by simp [allD, *], by simp [allD, *], by simp [allD, *], by simp⟩
  · obtain ⟨a, b, c, d, e, f, g, i, j, k, m, n, o, p, rfl, ha, hb, hc, hd, he, hf, hg, hi, hj, hk, hm, hn, ho, hp⟩ := form2 h
    exact ⟨by simp [allD, *], by simp [allD, *], by simp [allD, *], by simp⟩
  · obtain ⟨a, b, c, d, e, f, g, i, j, k, m, n, o, p, rfl, ha, hb, hc, hd, he, hf, hg, hi, hj, hk, hm, hn, ho, hp⟩ := form3 h
    exact ⟨by simp [allD, *], by simp [allD, *], by simp [allD, *], by simp⟩
  · contradiction
theorem times_of {l : List UInt8} (h : ¬ kindA l = 0) (h1 : ¬ kindA l = 1) : Times l := by
  rcases kindA_cases l with ⟨e, h⟩ | ⟨e, h⟩ | ⟨e, h⟩ | ⟨e, h1, h2, h3⟩
  · contradiction
  · obtain ⟨a, b, c, d, e, f, g, i, j, k, m, n, o, p, rfl, ha, hb, hc, hd, he, hf, hg, hi, hj, hk, hm, hn, ho, hp⟩ := form2 h
    exact ⟨by simp [allD, *], by simp [allD, *], by simp [allD, *], by simp⟩
  · obtain ⟨a, b, c, d, e, f, g, i, j, k, m, n, o, p, rfl, ha, hb, hc, hd, he, hf, hg, hi, hj, hk, hm, hn, ho, hp⟩ := form3 h
    exact ⟨by simp [allD, *], by simp [allD, *], by simp [allD, *], by simp⟩
  · contradiction
theorem dv2_in {l : List UInt8} {k : Nat} (h : allD ((l.drop k).take 2) = true) : 0 ≤ dv ((l.drop k).take 2) ∧ dv ((l.drop k).take 2) < 100 := by
  have h1 := dv_bound _ h
  have h2 : (10 : Nat) ^ ((l.drop k).take 2).length ≤ 10 ^ 2 := Nat.pow_le_pow_right (by omega) (List.length_take_le _ _)
  have h3 : ((10 : Nat) ^ ((l.drop k).take 2).length : Nat) = (10 : Int) ^ ((l.drop k).take 2).length := by simp
  omega

theorem quiet_add_left {P : Program} {f : FuncId} {args : Array Value} {w : World} {a n : Nat} {v : Value}
    (h : Calls P f args (w.drewN (a + n)) fun e w' => e = .returned v ∧ w.drewN (a + n) = w') :
    Calls P f args (w.drewN (a + n)) fun e w'' => e = .returned v ∧ ∃ m, w'' = w.drewN (a + m) :=
  h.mono fun _ _ ⟨he, hm⟩ => ⟨he, n, hm.symm⟩
theorem tab_below {w w' : World} (h : CTab w) (hb : Below w.heap.size w w') : CTab w' := by
  intro i hi
  have h0 := h i hi
  have hlt : (⟨0, i, none⟩ : Addr).block < w.heap.size := by
    by_cases hc : 0 < w.heap.size
    · exact hc
    · exfalso
      simp [World.cell?, Array.getElem?_eq_none (show w.heap.size ≤ 0 by omega)] at h0
  rw [hb.cell hlt]; exact h0
theorem num_at (s : ByteArray) (a b : Nat) (h : allD ((s.data.toList.drop a).take (b - a)) = true) (hb : b ≤ s.size) (hab : a ≤ b) (hk : b - a ≤ 4) (w : World) :
    Calls Tryd.prog 22 #[.string (s.extract a b)] w fun r w' => r = .returned (.int .i64 (dv ((s.data.toList.drop a).take (b - a)))) ∧ w = w' := by
  have := number_any (s.extract a b) (by rw [ext_list]; exact h) (by rw [ext_size hb hab]; exact hk) w
  rwa [ext_list] at this
theorem rnum_at (s : ByteArray) (a b : Nat) (h : allD ((s.data.toList.drop a).take (b - a)) = true) (hb : b ≤ s.size) (hab : a ≤ b) (hk : b - a ≤ 4) (w : World) :
    Calls Tryd.prog 25 #[.string (s.extract a b)] w fun r w' => r = .returned (.int .i64 (dv ((s.data.toList.drop a).take (b - a)))) ∧ w = w' := by
  have := rnumber_any (s.extract a b) (by rw [ext_list]; exact h) (by rw [ext_size hb hab]; exact hk) w
  rwa [ext_list] at this
theorem size_of {s : ByteArray} {k : Nat} (h : k ≤ s.data.toList.length) : k ≤ s.size := by simpa using h

theorem box_n (w : World) (o : Obj) (n : Nat) (u v : Value) : Below w.heap.size w ((((w.alloc o).drewN n).setCell ⟨w.heap.size, 0, none⟩ u).setCell ⟨w.heap.size, 1, none⟩ v) :=
  ((below_n (new1 w o) n).setCell (p := ⟨w.heap.size, 0, none⟩) (by simp) u).setCell (p := ⟨w.heap.size, 1, none⟩) (by simp) v

/-- The date is none. -/
theorem parse_no (s : ByteArray) (w : World) (hT : CTab w) (k0 : ¬ kindA s.data.toList = 0) (hd : isD (yL s.data.toList) (mL s.data.toList) (dL s.data.toList) = false) :
    Calls Tryd.prog 8 #[.string s] w fun r w' => r = .returned (.tuple #[MV 0 0, .int .i64 8]) ∧ Below w.heap.size w w' := by
  have HK := Lib.hid (fun W => kindof_any s W)
  have P := parts_of k0
  have hs := size_of P.len
  have N1 := Lib.hid (fun W => num_at s 0 4 P.a0 (by omega) (by omega) (by omega) W)
  change Hid (∀ W, Calls Tryd.prog 22 #[.string (s.extract 0 4)] W fun r w' => r = .returned (.int .i64 (yL s.data.toList)) ∧ W = w') at N1
  have N2 := Lib.hid (fun W => num_at s 4 6 P.a1 (by omega) (by omega) (by omega) W)
  change Hid (∀ W, Calls Tryd.prog 22 #[.string (s.extract 4 6)] W fun r w' => r = .returned (.int .i64 (mL s.data.toList)) ∧ W = w') at N2
  have N3 := Lib.hid (fun W => num_at s 6 8 P.a2 (by omega) (by omega) (by omega) W)
  change Hid (∀ W, Calls Tryd.prog 22 #[.string (s.extract 6 8)] W fun r w' => r = .returned (.int .i64 (dL s.data.toList)) ∧ W = w') at N3
  have HD := Lib.hid (fun n => day_any (yL s.data.toList) (mL s.data.toList) (dL s.data.toList) ((w.alloc (.cells #[.int .u8 0, .int .i64 0] 24)).drewN n) (tab_below hT (below_n (new1 w _) n)))
  have e1 : dayA (yL s.data.toList) (mL s.data.toList) (dL s.data.toList) = 0 := by unfold dayA; rw [hd]; rfl
  have e2 : dayE (yL s.data.toList) (mL s.data.toList) (dL s.data.toList) = 8 := by unfold dayE; rw [hd]; rfl
  rw [e1, e2] at HD
  have t1 : (kindA s.data.toList == 0) = false := by simp [k0]
  clear e1 e2 hd P hT k0
  generalize yL s.data.toList = y at *
  generalize mL s.data.toList = m at *
  generalize dL s.data.toList = d at *
  generalize kindA s.data.toList = k at *
  have hs' : (8 : Int) ≤ s.size := by omega
  go_enter Tryd.func8, Tryd.ntmps8
  go_wp2_with (go_at_call 20; with_reducible refine (HK.out _).mono ?_; rintro e w1 ⟨rfl, rfl⟩)
  go_quiet (first
    | (go_at_call 22; with_reducible exact quiet_left (N1.out _))
    | (go_at_call 22; with_reducible exact quiet_left (N2.out _))
    | (go_at_call 22; with_reducible exact quiet_left (N3.out _))
    | (go_at_call 21; with_reducible exact quiet_left (HD.out _)))
  go_wp2_with fail
  refine bodyPost_ret (v := .tuple #[MV 0 0, .int .i64 8]) (by simp [results, Tryd.results8, go_sem, *]) rfl ⟨rfl, ?_⟩
  exact box_n w _ _ _ _

/-- A date. -/
theorem parse_day (s : ByteArray) (w : World) (hT : CTab w) (k0 : ¬ kindA s.data.toList = 0) (k1 : kindA s.data.toList = 1) (hd : isD (yL s.data.toList) (mL s.data.toList) (dL s.data.toList) = true) :
    Calls Tryd.prog 8 #[.string s] w fun r w' => r = .returned (.tuple #[MV 1 (dayN (yL s.data.toList) (mL s.data.toList) (dL s.data.toList) * 86400), .int .i64 0]) ∧ Below w.heap.size w w' := by
  have hi := isDate_of (isD_yes hd).1 (isD_yes hd).2
  have n0 := hi.lo
  have n1 := hi.hi
  have HK := Lib.hid (fun W => kindof_any s W)
  have P := parts_of k0
  have hs := size_of P.len
  have N1 := Lib.hid (fun W => num_at s 0 4 P.a0 (by omega) (by omega) (by omega) W)
  change Hid (∀ W, Calls Tryd.prog 22 #[.string (s.extract 0 4)] W fun r w' => r = .returned (.int .i64 (yL s.data.toList)) ∧ W = w') at N1
  have N2 := Lib.hid (fun W => num_at s 4 6 P.a1 (by omega) (by omega) (by omega) W)
  change Hid (∀ W, Calls Tryd.prog 22 #[.string (s.extract 4 6)] W fun r w' => r = .returned (.int .i64 (mL s.data.toList)) ∧ W = w') at N2
  have N3 := Lib.hid (fun W => num_at s 6 8 P.a2 (by omega) (by omega) (by omega) W)
  change Hid (∀ W, Calls Tryd.prog 22 #[.string (s.extract 6 8)] W fun r w' => r = .returned (.int .i64 (dL s.data.toList)) ∧ W = w') at N3
  have HD := Lib.hid (fun n => day_any (yL s.data.toList) (mL s.data.toList) (dL s.data.toList) ((w.alloc (.cells #[.int .u8 0, .int .i64 0] 24)).drewN n) (tab_below hT (below_n (new1 w _) n)))
  have e1 : dayA (yL s.data.toList) (mL s.data.toList) (dL s.data.toList) = dayN (yL s.data.toList) (mL s.data.toList) (dL s.data.toList) := by unfold dayA; rw [hd]; rfl
  have e2 : dayE (yL s.data.toList) (mL s.data.toList) (dL s.data.toList) = 0 := by unfold dayE; rw [hd]; rfl
  rw [e1, e2] at HD
  rw [k1] at HK
  clear e1 e2 hd P hT k0 hi k1
  generalize dayN (yL s.data.toList) (mL s.data.toList) (dL s.data.toList) = n at *
  generalize yL s.data.toList = y at *
  generalize mL s.data.toList = m at *
  generalize dL s.data.toList = d at *
  have hs' : (8 : Int) ≤ s.size := by omega
  go_enter Tryd.func8, Tryd.ntmps8
  go_wp2_with (go_at_call 20; with_reducible refine (HK.out _).mono ?_; rintro e w1 ⟨rfl, rfl⟩)
  go_quiet (first
    | (go_at_call 22; with_reducible exact quiet_left (N1.out _))
    | (go_at_call 22; with_reducible exact quiet_left (N2.out _))
    | (go_at_call 22; with_reducible exact quiet_left (N3.out _))
    | (go_at_call 21; with_reducible exact quiet_left (HD.out _)))
  go_wp2_with fail
  refine bodyPost_ret (v := .tuple #[MV 1 (n * 86400), .int .i64 0]) (by simp [results, Tryd.results8, go_sem, *]) rfl ⟨rfl, ?_⟩
  exact box_n w _ _ _ _

/-- A time of day that there is not. -/
theorem late_yes {l : List UInt8} (h : late l = true) : 23 < hL l ∨ (¬ 23 < hL l ∧ 59 < miL l) ∨ (¬ 23 < hL l ∧ ¬ 59 < miL l ∧ 59 < sL l) := by
  unfold late at h; simp at h; omega
theorem parse_late (s : ByteArray) (w : World) (hT : CTab w) (k0 : ¬ kindA s.data.toList = 0) (k1 : ¬ kindA s.data.toList = 1) (hd : isD (yL s.data.toList) (mL s.data.toList) (dL s.data.toList) = true) (hl : late s.data.toList = true) :
    Calls Tryd.prog 8 #[.string s] w fun r w' => r = .returned (.tuple #[MV 0 0, .int .i64 8]) ∧ Below w.heap.size w w' := by
  have hi := isDate_of (isD_yes hd).1 (isD_yes hd).2
  have n0 := hi.lo
  have n1 := hi.hi
  have HK := Lib.hid (fun W => kindof_any s W)
  have P := parts_of k0
  have T := times_of k0 k1
  have hs := size_of T.len
  have N1 := Lib.hid (fun W => num_at s 0 4 P.a0 (by omega) (by omega) (by omega) W)
  change Hid (∀ W, Calls Tryd.prog 22 #[.string (s.extract 0 4)] W fun r w' => r = .returned (.int .i64 (yL s.data.toList)) ∧ W = w') at N1
  have N2 := Lib.hid (fun W => num_at s 4 6 P.a1 (by omega) (by omega) (by omega) W)
  change Hid (∀ W, Calls Tryd.prog 22 #[.string (s.extract 4 6)] W fun r w' => r = .returned (.int .i64 (mL s.data.toList)) ∧ W = w') at N2
  have N3 := Lib.hid (fun W => num_at s 6 8 P.a2 (by omega) (by omega) (by omega) W)
  change Hid (∀ W, Calls Tryd.prog 22 #[.string (s.extract 6 8)] W fun r w' => r = .returned (.int .i64 (dL s.data.toList)) ∧ W = w') at N3
  have N4 := Lib.hid (fun W => num_at s 9 11 T.a3 (by omega) (by omega) (by omega) W)
  change Hid (∀ W, Calls Tryd.prog 22 #[.string (s.extract 9 11)] W fun r w' => r = .returned (.int .i64 (hL s.data.toList)) ∧ W = w') at N4
  have N5 := Lib.hid (fun W => num_at s 11 13 T.a4 (by omega) (by omega) (by omega) W)
  change Hid (∀ W, Calls Tryd.prog 22 #[.string (s.extract 11 13)] W fun r w' => r = .returned (.int .i64 (miL s.data.toList)) ∧ W = w') at N5
  have N6 := Lib.hid (fun W => num_at s 13 15 T.a5 (by omega) (by omega) (by omega) W)
  change Hid (∀ W, Calls Tryd.prog 22 #[.string (s.extract 13 15)] W fun r w' => r = .returned (.int .i64 (sL s.data.toList)) ∧ W = w') at N6
  have HD := Lib.hid (fun n => day_any (yL s.data.toList) (mL s.data.toList) (dL s.data.toList) ((w.alloc (.cells #[.int .u8 0, .int .i64 0] 24)).drewN n) (tab_below hT (below_n (new1 w _) n)))
  have e1 : dayA (yL s.data.toList) (mL s.data.toList) (dL s.data.toList) = dayN (yL s.data.toList) (mL s.data.toList) (dL s.data.toList) := by unfold dayA; rw [hd]; rfl
  have e2 : dayE (yL s.data.toList) (mL s.data.toList) (dL s.data.toList) = 0 := by unfold dayE; rw [hd]; rfl
  rw [e1, e2] at HD
  have hl' := late_yes hl
  have t1 : (kindA s.data.toList == 0) = false := by simp [k0]
  have t2 : (kindA s.data.toList == 1) = false := by simp [k1]
  clear e1 e2 hd P hT k0 hi k1 T hl
  generalize dayN (yL s.data.toList) (mL s.data.toList) (dL s.data.toList) = n at *
  generalize yL s.data.toList = y at *
  generalize mL s.data.toList = m at *
  generalize dL s.data.toList = d at *
  generalize hL s.data.toList = h at *
  generalize miL s.data.toList = mi at *
  generalize sL s.data.toList = sc at *
  generalize kindA s.data.toList = k at *
  have hs' : (15 : Int) ≤ s.size := by omega
  have q1 : decide (23 < h) = true ∨ (decide (23 < h) = false ∧ decide (59 < mi) = true) ∨ (decide (23 < h) = false ∧ decide (59 < mi) = false ∧ decide (59 < sc) = true) := by simpa using hl'
  clear hl'
  rcases q1 with q1 | ⟨q1, q2⟩ | ⟨q1, q2, q3⟩
  · go_enter Tryd.func8, Tryd.ntmps8
    go_wp2_with (go_at_call 20; with_reducible refine (HK.out _).mono ?_; rintro e w1 ⟨rfl, rfl⟩)
    go_quiet (first
      | (go_at_call 22; with_reducible exact quiet_left (N1.out _))
      | (go_at_call 22; with_reducible exact quiet_left (N2.out _))
      | (go_at_call 22; with_reducible exact quiet_left (N3.out _))
      | (go_at_call 21; with_reducible exact quiet_left (HD.out _)))
    go_wp2_with fail
    go_quiet (first
      | (go_at_call 22; with_reducible exact quiet_add_left (N4.out _))
      | (go_at_call 22; with_reducible exact quiet_add_left (N5.out _))
      | (go_at_call 22; with_reducible exact quiet_add_left (N6.out _)))
    go_wp2_with fail
    refine bodyPost_ret (v := .tuple #[MV 0 0, .int .i64 8]) (by simp [results, Tryd.results8, go_sem, *]) rfl ⟨rfl, ?_⟩
    exact box_n w _ _ _ _
  · go_enter Tryd.func8, Tryd.ntmps8
    go_wp2_with (go_at_call 20; with_reducible refine (HK.out _).mono ?_; rintro e w1 ⟨rfl, rfl⟩)
    go_quiet (first
      | (go_at_call 22; with_reducible exact quiet_left (N1.out _))
      | (go_at_call 22; with_reducible exact quiet_left (N2.out _))
      | (go_at_call 22; with_reducible exact quiet_left (N3.out _))
      | (go_at_call 21; with_reducible exact quiet_left (HD.out _)))
    go_wp2_with fail
    go_quiet (first
      | (go_at_call 22; with_reducible exact quiet_add_left (N4.out _))
      | (go_at_call 22; with_reducible exact quiet_add_left (N5.out _))
      | (go_at_call 22; with_reducible exact quiet_add_left (N6.out _)))
    go_wp2_with fail
    refine bodyPost_ret (v := .tuple #[MV 0 0, .int .i64 8]) (by simp [results, Tryd.results8, go_sem, *]) rfl ⟨rfl, ?_⟩
    exact box_n w _ _ _ _
  · go_enter Tryd.func8, Tryd.ntmps8
    go_wp2_with (go_at_call 20; with_reducible refine (HK.out _).mono ?_; rintro e w1 ⟨rfl, rfl⟩)
    go_quiet (first
      | (go_at_call 22; with_reducible exact quiet_left (N1.out _))
      | (go_at_call 22; with_reducible exact quiet_left (N2.out _))
      | (go_at_call 22; with_reducible exact quiet_left (N3.out _))
      | (go_at_call 21; with_reducible exact quiet_left (HD.out _)))
    go_wp2_with fail
    go_quiet (first
      | (go_at_call 22; with_reducible exact quiet_add_left (N4.out _))
      | (go_at_call 22; with_reducible exact quiet_add_left (N5.out _))
      | (go_at_call 22; with_reducible exact quiet_add_left (N6.out _)))
    go_wp2_with fail
    refine bodyPost_ret (v := .tuple #[MV 0 0, .int .i64 8]) (by simp [results, Tryd.results8, go_sem, *]) rfl ⟨rfl, ?_⟩
    exact box_n w _ _ _ _

/-- A date and a time of day. -/
theorem parse_time (s : ByteArray) (w : World) (hT : CTab w) (k0 : ¬ kindA s.data.toList = 0) (k1 : ¬ kindA s.data.toList = 1) (hd : isD (yL s.data.toList) (mL s.data.toList) (dL s.data.toList) = true) (hl : late s.data.toList = false) :
    Calls Tryd.prog 8 #[.string s] w fun r w' => r = .returned (.tuple #[MV (kindA s.data.toList) (dayN (yL s.data.toList) (mL s.data.toList) (dL s.data.toList) * 86400 + (hL s.data.toList * 3600 + miL s.data.toList * 60 + sL s.data.toList)), .int .i64 0]) ∧ Below w.heap.size w w' := by
  have hi := isDate_of (isD_yes hd).1 (isD_yes hd).2
  have n0 := hi.lo
  have n1 := hi.hi
  obtain ⟨l1, l2, l3⟩ := late_no hl
  have HK := Lib.hid (fun W => kindof_any s W)
  have P := parts_of k0
  have T := times_of k0 k1
  have hs := size_of T.len
  have N1 := Lib.hid (fun W => num_at s 0 4 P.a0 (by omega) (by omega) (by omega) W)
  change Hid (∀ W, Calls Tryd.prog 22 #[.string (s.extract 0 4)] W fun r w' => r = .returned (.int .i64 (yL s.data.toList)) ∧ W = w') at N1
  have N2 := Lib.hid (fun W => num_at s 4 6 P.a1 (by omega) (by omega) (by omega) W)
  change Hid (∀ W, Calls Tryd.prog 22 #[.string (s.extract 4 6)] W fun r w' => r = .returned (.int .i64 (mL s.data.toList)) ∧ W = w') at N2
  have N3 := Lib.hid (fun W => num_at s 6 8 P.a2 (by omega) (by omega) (by omega) W)
  change Hid (∀ W, Calls Tryd.prog 22 #[.string (s.extract 6 8)] W fun r w' => r = .returned (.int .i64 (dL s.data.toList)) ∧ W = w') at N3
  have N4 := Lib.hid (fun W => num_at s 9 11 T.a3 (by omega) (by omega) (by omega) W)
  change Hid (∀ W, Calls Tryd.prog 22 #[.string (s.extract 9 11)] W fun r w' => r = .returned (.int .i64 (hL s.data.toList)) ∧ W = w') at N4
  have N5 := Lib.hid (fun W => num_at s 11 13 T.a4 (by omega) (by omega) (by omega) W)
  change Hid (∀ W, Calls Tryd.prog 22 #[.string (s.extract 11 13)] W fun r w' => r = .returned (.int .i64 (miL s.data.toList)) ∧ W = w') at N5
  have N6 := Lib.hid (fun W => num_at s 13 15 T.a5 (by omega) (by omega) (by omega) W)
  change Hid (∀ W, Calls Tryd.prog 22 #[.string (s.extract 13 15)] W fun r w' => r = .returned (.int .i64 (sL s.data.toList)) ∧ W = w') at N6
  have HD := Lib.hid (fun n => day_any (yL s.data.toList) (mL s.data.toList) (dL s.data.toList) ((w.alloc (.cells #[.int .u8 0, .int .i64 0] 24)).drewN n) (tab_below hT (below_n (new1 w _) n)))
  have e1 : dayA (yL s.data.toList) (mL s.data.toList) (dL s.data.toList) = dayN (yL s.data.toList) (mL s.data.toList) (dL s.data.toList) := by unfold dayA; rw [hd]; rfl
  have e2 : dayE (yL s.data.toList) (mL s.data.toList) (dL s.data.toList) = 0 := by unfold dayE; rw [hd]; rfl
  rw [e1, e2] at HD
  obtain ⟨h0, -⟩ := dv2_in T.a3
  obtain ⟨m0, -⟩ := dv2_in T.a4
  obtain ⟨s0, -⟩ := dv2_in T.a5
  change 0 ≤ hL s.data.toList at h0
  change 0 ≤ miL s.data.toList at m0
  change 0 ≤ sL s.data.toList at s0
  have t1 : (kindA s.data.toList == 0) = false := by simp [k0]
  have t2 : (kindA s.data.toList == 1) = false := by simp [k1]
  clear e1 e2 hd P hT k0 hi k1 T hl
  generalize dayN (yL s.data.toList) (mL s.data.toList) (dL s.data.toList) = n at *
  generalize yL s.data.toList = y at *
  generalize mL s.data.toList = m at *
  generalize dL s.data.toList = d at *
  generalize hL s.data.toList = h at *
  generalize miL s.data.toList = mi at *
  generalize sL s.data.toList = sc at *
  generalize kindA s.data.toList = k at *
  have hs' : (15 : Int) ≤ s.size := by omega
  have q1 : decide (23 < h) = false := by simp; omega
  have q2 : decide (59 < mi) = false := by simp; omega
  have q3 : decide (59 < sc) = false := by simp; omega
  have ee : n * 86400 + (h * 3600 + mi * 60 + sc) = n * 86400 + h * 3600 + mi * 60 + sc := by omega
  rw [ee]
  clear ee
  go_enter Tryd.func8, Tryd.ntmps8
  go_wp2_with (go_at_call 20; with_reducible refine (HK.out _).mono ?_; rintro e w1 ⟨rfl, rfl⟩)
  go_quiet (first
    | (go_at_call 22; with_reducible exact quiet_left (N1.out _))
    | (go_at_call 22; with_reducible exact quiet_left (N2.out _))
    | (go_at_call 22; with_reducible exact quiet_left (N3.out _))
    | (go_at_call 21; with_reducible exact quiet_left (HD.out _)))
  go_wp2_with fail
  go_quiet (first
    | (go_at_call 22; with_reducible exact quiet_add_left (N4.out _))
    | (go_at_call 22; with_reducible exact quiet_add_left (N5.out _))
    | (go_at_call 22; with_reducible exact quiet_add_left (N6.out _)))
  go_wp2_with fail
  refine bodyPost_ret (v := .tuple #[MV k (n * 86400 + h * 3600 + mi * 60 + sc), .int .i64 0]) (by simp [results, Tryd.results8, go_sem, *]) rfl ⟨rfl, ?_⟩
  exact box_n w _ _ _ _

theorem parse_any (s : ByteArray) (w : World) (hT : CTab w) :
    Calls Tryd.prog 8 #[.string s] w fun r w' => r = .returned (.tuple #[MV (paK s.data.toList) (paS s.data.toList), .int .i64 (paE s.data.toList)]) ∧ Below w.heap.size w w' := by
  by_cases k0 : kindA s.data.toList = 0
  · have HK := Lib.hid (fun W => kindof_any s W)
    have hE := paE_form k0
    rw [paK_not (by omega), paS_not (by omega), hE]
    rw [k0] at HK
    clear k0 hE
    go_enter Tryd.func8, Tryd.ntmps8
    go_wp2_with (go_at_call 20; with_reducible refine (HK.out _).mono ?_; rintro e w1 ⟨rfl, rfl⟩)
    refine bodyPost_ret (v := .tuple #[MV 0 0, .int .i64 4]) (by simp [results, Tryd.results8, go_sem, *]) rfl ⟨rfl, new1 w _⟩
  · rcases hd : isD (yL s.data.toList) (mL s.data.toList) (dL s.data.toList) with _ | _
    · have hE := paE_date k0 hd
      rw [paK_not (by omega), paS_not (by omega), hE]
      exact parse_no s w hT k0 hd
    · by_cases k1 : kindA s.data.toList = 1
      · have hE := paE_day k1 hd
        rw [paK_ok hE, paS_ok hE, hE, if_pos k1, k1, Int.add_zero]
        exact parse_day s w hT k0 k1 hd
      · rcases hl : late s.data.toList with _ | _
        · have hE := paE_time k0 k1 hd hl
          rw [paK_ok hE, paS_ok hE, hE, if_neg k1]
          exact parse_time s w hT k0 k1 hd hl
        · have hE := paE_late k0 k1 hd hl
          rw [paK_not (by omega), paS_not (by omega), hE]
          exact parse_late s w hT k0 k1 hd hl
end Go.Proofs.YtiimkkhjejcmfaaDoor.Mom
