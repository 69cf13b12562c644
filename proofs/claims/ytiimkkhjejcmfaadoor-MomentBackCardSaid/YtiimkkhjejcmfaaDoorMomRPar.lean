/- Contract of the document's Parse. -/
import Derived.Test.YtiimkkhjejcmfaaDoorMomPar
import Derived.Test.YtiimkkhjejcmfaaDoorMomFrm
namespace Go.Proofs.YtiimkkhjejcmfaaDoor.Mom
open Go.RowKit Civ

theorem dig_at (s : ByteArray) (a b : Nat) (hb : b ≤ s.size) (hab : a ≤ b) (hk : b - a ≤ 40) (w : World) :
    Calls Tryd.prog 23 #[.string (s.extract a b)] w fun r w' => r = .returned (.bool (allD ((s.data.toList.drop a).take (b - a)))) ∧ w = w' := by
  have := rdigits_any (s.extract a b) (by rw [ext_size hb hab]; exact hk) w
  rwa [ext_list] at this
theorem dig8 (s : ByteArray) (hb : 8 ≤ s.size) (w : World) :
    Calls Tryd.prog 23 #[.string (s.extract 0 8)] w fun r w' => r = .returned (.bool (allD (s.data.toList.take 8))) ∧ w = w' := dig_at s 0 8 hb (by omega) (by omega) w
theorem dig6 (s : ByteArray) (hb : 15 ≤ s.size) (w : World) :
    Calls Tryd.prog 23 #[.string (s.extract 9 15)] w fun r w' => r = .returned (.bool (allD ((s.data.toList.drop 9).take 6))) ∧ w = w' := dig_at s 9 15 hb (by omega) (by omega) w

theorem rform_len (s : ByteArray) (w : World) (h1 : ¬ s.size = 8) (h2 : ¬ s.size = 15) (h3 : ¬ s.size = 16) :
    Calls Tryd.prog 9 #[.string s] w fun r w' => r = .returned (.tuple #[MV 0 0, .int .i64 4]) ∧ Below w.heap.size w w' := by
  have e8 : ((s.size : Int) == 8) = false := by simp; omega
  have n8 : ((s.size : Int) != 8) = true := by simp; omega
  have e15 : ((s.size : Int) == 15) = false := by simp; omega
  have n15 : ((s.size : Int) != 15) = true := by simp; omega
  have n16 : ((s.size : Int) != 16) = true := by simp; omega
  clear h1 h2 h3
  go_enter Tryd.func9, Tryd.ntmps9
  go_wp2_with fail
  refine bodyPost_ret (v := .tuple #[MV 0 0, .int .i64 4]) (by simp [results, Tryd.results9, go_sem, *]) rfl ⟨rfl, new1 w _⟩
theorem rform_8 (s : ByteArray) (w : World) (hs : s.size = 8) (a1 : allD (s.data.toList.take 8) = false) :
    Calls Tryd.prog 9 #[.string s] w fun r w' => r = .returned (.tuple #[MV 0 0, .int .i64 4]) ∧ Below w.heap.size w w' := by
  have D1 := Lib.hid (fun W => dig8 s (by omega) W)
  rw [a1] at D1
  have e8 : ((s.size : Int) == 8) = true := by simp; omega
  have n8 : ((s.size : Int) != 8) = false := by simp; omega
  have hs' : (8 : Int) ≤ s.size := by omega
  clear hs a1
  go_enter Tryd.func9, Tryd.ntmps9
  go_wp2_with (go_at_call 23; with_reducible refine (D1.out _).mono ?_; rintro e w1 ⟨rfl, rfl⟩)
  refine bodyPost_ret (v := .tuple #[MV 0 0, .int .i64 4]) (by simp [results, Tryd.results9, go_sem, *]) rfl ⟨rfl, new1 w _⟩
theorem rform_15a (s : ByteArray) (w : World) (hs : s.size = 15) (a1 : allD (s.data.toList.take 8) = false) :
    Calls Tryd.prog 9 #[.string s] w fun r w' => r = .returned (.tuple #[MV 0 0, .int .i64 4]) ∧ Below w.heap.size w w' := by
  have D1 := Lib.hid (fun W => dig8 s (by omega) W)
  rw [a1] at D1
  have e8 : ((s.size : Int) == 8) = false := by simp; omega
  have n8 : ((s.size : Int) != 8) = true := by simp; omega
  have e15 : ((s.size : Int) == 15) = true := by simp; omega
  have n15 : ((s.size : Int) != 15) = false := by simp; omega
  have hs' : (15 : Int) ≤ s.size := by omega
  clear hs a1
  go_enter Tryd.func9, Tryd.ntmps9
  go_wp2_with (go_at_call 23; with_reducible refine (D1.out _).mono ?_; rintro e w1 ⟨rfl, rfl⟩)
  refine bodyPost_ret (v := .tuple #[MV 0 0, .int .i64 4]) (by simp [results, Tryd.results9, go_sem, *]) rfl ⟨rfl, new1 w _⟩
theorem rform_15b (s : ByteArray) (w : World) (hs : s.size = 15) (a1 : allD (s.data.toList.take 8) = true) (t8 : ¬ s[8]'(by omega) = 84) :
    Calls Tryd.prog 9 #[.string s] w fun r w' => r = .returned (.tuple #[MV 0 0, .int .i64 4]) ∧ Below w.heap.size w w' := by
  have D1 := Lib.hid (fun W => dig8 s (by omega) W)
  rw [a1] at D1
  have i8 : 8 < s.size := by omega
  have u8 : (((s[8]'i8).toNat : Int) != 84) = true := by simp; intro h; exact t8 (UInt8.toNat_inj.1 (by show (s[8]'i8).toNat = 84; omega))
  have e8 : ((s.size : Int) == 8) = false := by simp; omega
  have n8 : ((s.size : Int) != 8) = true := by simp; omega
  have e15 : ((s.size : Int) == 15) = true := by simp; omega
  have n15 : ((s.size : Int) != 15) = false := by simp; omega
  have hs' : (15 : Int) ≤ s.size := by omega
  clear hs a1 t8
  go_enter Tryd.func9, Tryd.ntmps9
  go_wp2_with (go_at_call 23; with_reducible refine (D1.out _).mono ?_; rintro e w1 ⟨rfl, rfl⟩)
  refine bodyPost_ret (v := .tuple #[MV 0 0, .int .i64 4]) (by simp [results, Tryd.results9, go_sem, *]) rfl ⟨rfl, new1 w _⟩
theorem rform_15c (s : ByteArray) (w : World) (hs : s.size = 15) (a1 : allD (s.data.toList.take 8) = true) (t8 : s[8]'(by omega) = 84) (a2 : allD ((s.data.toList.drop 9).take 6) = false) :
    Calls Tryd.prog 9 #[.string s] w fun r w' => r = .returned (.tuple #[MV 0 0, .int .i64 4]) ∧ Below w.heap.size w w' := by
  have D1 := Lib.hid (fun W => dig8 s (by omega) W)
  rw [a1] at D1
  have i8 : 8 < s.size := by omega
  have u8 : (((s[8]'i8).toNat : Int) != 84) = false := by simp [t8]
  have D2 := Lib.hid (fun W => dig6 s (by omega) W)
  rw [a2] at D2
  have e8 : ((s.size : Int) == 8) = false := by simp; omega
  have n8 : ((s.size : Int) != 8) = true := by simp; omega
  have e15 : ((s.size : Int) == 15) = true := by simp; omega
  have n15 : ((s.size : Int) != 15) = false := by simp; omega
  have hs' : (15 : Int) ≤ s.size := by omega
  clear hs a1 t8 a2
  go_enter Tryd.func9, Tryd.ntmps9
  go_wp2_with (first | (go_at_call 23; with_reducible refine (D1.out _).mono ?_; rintro e w1 ⟨rfl, rfl⟩) | (go_at_call 23; with_reducible refine (D2.out _).mono ?_; rintro e w1 ⟨rfl, rfl⟩))
  refine bodyPost_ret (v := .tuple #[MV 0 0, .int .i64 4]) (by simp [results, Tryd.results9, go_sem, *]) rfl ⟨rfl, new1 w _⟩
theorem rform_16z (s : ByteArray) (w : World) (hs : s.size = 16) (z15 : ¬ s[15]'(by omega) = 90) :
    Calls Tryd.prog 9 #[.string s] w fun r w' => r = .returned (.tuple #[MV 0 0, .int .i64 4]) ∧ Below w.heap.size w w' := by
  have i15 : 15 < s.size := by omega
  have u15 : (((s[15]'i15).toNat : Int) != 90) = true := by simp; intro h; exact z15 (UInt8.toNat_inj.1 (by show (s[15]'i15).toNat = 90; omega))
  have e8 : ((s.size : Int) == 8) = false := by simp; omega
  have n8 : ((s.size : Int) != 8) = true := by simp; omega
  have e15 : ((s.size : Int) == 15) = false := by simp; omega
  have n15 : ((s.size : Int) != 15) = true := by simp; omega
  have n16 : ((s.size : Int) != 16) = false := by simp; omega
  have hs' : (16 : Int) ≤ s.size := by omega
  clear hs z15
  go_enter Tryd.func9, Tryd.ntmps9
  go_wp2_with fail
  refine bodyPost_ret (v := .tuple #[MV 0 0, .int .i64 4]) (by simp [results, Tryd.results9, go_sem, *]) rfl ⟨rfl, new1 w _⟩
theorem rform_16a (s : ByteArray) (w : World) (hs : s.size = 16) (z15 : s[15]'(by omega) = 90) (a1 : allD (s.data.toList.take 8) = false) :
    Calls Tryd.prog 9 #[.string s] w fun r w' => r = .returned (.tuple #[MV 0 0, .int .i64 4]) ∧ Below w.heap.size w w' := by
  have i15 : 15 < s.size := by omega
  have u15 : (((s[15]'i15).toNat : Int) != 90) = false := by simp [z15]
  have D1 := Lib.hid (fun W => dig8 s (by omega) W)
  rw [a1] at D1
  have e8 : ((s.size : Int) == 8) = false := by simp; omega
  have n8 : ((s.size : Int) != 8) = true := by simp; omega
  have e15 : ((s.size : Int) == 15) = false := by simp; omega
  have n15 : ((s.size : Int) != 15) = true := by simp; omega
  have n16 : ((s.size : Int) != 16) = false := by simp; omega
  have hs' : (16 : Int) ≤ s.size := by omega
  clear hs z15 a1
  go_enter Tryd.func9, Tryd.ntmps9
  go_wp2_with (go_at_call 23; with_reducible refine (D1.out _).mono ?_; rintro e w1 ⟨rfl, rfl⟩)
  refine bodyPost_ret (v := .tuple #[MV 0 0, .int .i64 4]) (by simp [results, Tryd.results9, go_sem, *]) rfl ⟨rfl, new1 w _⟩
theorem rform_16b (s : ByteArray) (w : World) (hs : s.size = 16) (z15 : s[15]'(by omega) = 90) (a1 : allD (s.data.toList.take 8) = true) (t8 : ¬ s[8]'(by omega) = 84) :
    Calls Tryd.prog 9 #[.string s] w fun r w' => r = .returned (.tuple #[MV 0 0, .int .i64 4]) ∧ Below w.heap.size w w' := by
  have i15 : 15 < s.size := by omega
  have u15 : (((s[15]'i15).toNat : Int) != 90) = false := by simp [z15]
  have D1 := Lib.hid (fun W => dig8 s (by omega) W)
  rw [a1] at D1
  have i8 : 8 < s.size := by omega
  have u8 : (((s[8]'i8).toNat : Int) != 84) = true := by simp; intro h; exact t8 (UInt8.toNat_inj.1 (by show (s[8]'i8).toNat = 84; omega))
  have e8 : ((s.size : Int) == 8) = false := by simp; omega
  have n8 : ((s.size : Int) != 8) = true := by simp; omega
  have e15 : ((s.size : Int) == 15) = false := by simp; omega
  have n15 : ((s.size : Int) != 15) = true := by simp; omega
  have n16 : ((s.size : Int) != 16) = false := by simp; omega
  have hs' : (16 : Int) ≤ s.size := by omega
  clear hs z15 a1 t8
  go_enter Tryd.func9, Tryd.ntmps9
  go_wp2_with (go_at_call 23; with_reducible refine (D1.out _).mono ?_; rintro e w1 ⟨rfl, rfl⟩)
  refine bodyPost_ret (v := .tuple #[MV 0 0, .int .i64 4]) (by simp [results, Tryd.results9, go_sem, *]) rfl ⟨rfl, new1 w _⟩
theorem rform_16c (s : ByteArray) (w : World) (hs : s.size = 16) (z15 : s[15]'(by omega) = 90) (a1 : allD (s.data.toList.take 8) = true) (t8 : s[8]'(by omega) = 84) (a2 : allD ((s.data.toList.drop 9).take 6) = false) :
    Calls Tryd.prog 9 #[.string s] w fun r w' => r = .returned (.tuple #[MV 0 0, .int .i64 4]) ∧ Below w.heap.size w w' := by
  have i15 : 15 < s.size := by omega
  have u15 : (((s[15]'i15).toNat : Int) != 90) = false := by simp [z15]
  have D1 := Lib.hid (fun W => dig8 s (by omega) W)
  rw [a1] at D1
  have i8 : 8 < s.size := by omega
  have u8 : (((s[8]'i8).toNat : Int) != 84) = false := by simp [t8]
  have D2 := Lib.hid (fun W => dig6 s (by omega) W)
  rw [a2] at D2
  have e8 : ((s.size : Int) == 8) = false := by simp; omega
  have n8 : ((s.size : Int) != 8) = true := by simp; omega
  have e15 : ((s.size : Int) == 15) = false := by simp; omega
  have n15 : ((s.size : Int) != 15) = true := by simp; omega
  have n16 : ((s.size : Int) != 16) = false := by simp; omega
  have hs' : (16 : Int) ≤ s.size := by omega
  clear hs z15 a1 t8 a2
  go_enter Tryd.func9, Tryd.ntmps9
  go_wp2_with (first | (go_at_call 23; with_reducible refine (D1.out _).mono ?_; rintro e w1 ⟨rfl, rfl⟩) | (go_at_call 23; with_reducible refine (D2.out _).mono ?_; rintro e w1 ⟨rfl, rfl⟩))
  refine bodyPost_ret (v := .tuple #[MV 0 0, .int .i64 4]) (by simp [results, Tryd.results9, go_sem, *]) rfl ⟨rfl, new1 w _⟩

theorem rform_any (s : ByteArray) (w : World) (h : kindA s.data.toList = 0) :
    Calls Tryd.prog 9 #[.string s] w fun r w' => r = .returned (.tuple #[MV 0 0, .int .i64 4]) ∧ Below w.heap.size w w' := by
  have hlen : s.data.toList.length = s.size := by simp
  by_cases s8 : s.size = 8
  · rcases a1 : allD (s.data.toList.take 8) with _ | _
    · exact rform_8 s w s8 a1
    · have := fm1_kind (l := s.data.toList) ⟨by omega, a1⟩; omega
  · by_cases s15 : s.size = 15
    · rcases a1 : allD (s.data.toList.take 8) with _ | _
      · exact rform_15a s w s15 a1
      · by_cases t8 : s[8]'(by omega) = 84
        · rcases a2 : allD ((s.data.toList.drop 9).take 6) with _ | _
          · exact rform_15c s w s15 a1 t8 a2
          · have := fm2_kind (l := s.data.toList) ⟨by omega, a1, some_at (by omega) t8, a2⟩; omega
        · exact rform_15b s w s15 a1 t8
    · by_cases s16 : s.size = 16
      · by_cases z15 : s[15]'(by omega) = 90
        · rcases a1 : allD (s.data.toList.take 8) with _ | _
          · exact rform_16a s w s16 z15 a1
          · by_cases t8 : s[8]'(by omega) = 84
            · rcases a2 : allD ((s.data.toList.drop 9).take 6) with _ | _
              · exact rform_16c s w s16 z15 a1 t8 a2
              · have := fm3_kind (l := s.data.toList) ⟨by omega, a1, some_at (by omega) t8, a2, some_at (by omega) z15⟩; omega
            · exact rform_16b s w s16 z15 a1 t8
        · exact rform_16z s w s16 z15
      · exact rform_len s w s8 s15 s16

theorem rparse_no1 (s : ByteArray) (w : World) (hf : s.data.toList.map sgn = F1) (k0 : ¬ kindA s.data.toList = 0) (hd : isD (yL s.data.toList) (mL s.data.toList) (dL s.data.toList) = false) :
    Calls Tryd.prog 9 #[.string s] w fun r w' => r = .returned (.tuple #[MV 0 0, .int .i64 8]) ∧ Below w.heap.size w w' := by
  have F := fm1 hf
  have hl0 : s.data.toList.length = s.size := by simp
  have hlen := F.len
  rw [hl0] at hlen
  have a1 := F.a8
  have D1 := Lib.hid (fun W => dig8 s (by omega) W)
  rw [a1] at D1
  have e8 : ((s.size : Int) == 8) = true := by simp; omega
  have n8 : ((s.size : Int) != 8) = false := by simp; omega
  have hs' : (8 : Int) ≤ s.size := by omega
  have P := parts_of k0
  have N1 := Lib.hid (fun W => rnum_at s 0 4 P.a0 (by omega) (by omega) (by omega) W)
  change Hid (∀ W, Calls Tryd.prog 25 #[.string (s.extract 0 4)] W fun r w' => r = .returned (.int .i64 (yL s.data.toList)) ∧ W = w') at N1
  have N2 := Lib.hid (fun W => rnum_at s 4 6 P.a1 (by omega) (by omega) (by omega) W)
  change Hid (∀ W, Calls Tryd.prog 25 #[.string (s.extract 4 6)] W fun r w' => r = .returned (.int .i64 (mL s.data.toList)) ∧ W = w') at N2
  have N3 := Lib.hid (fun W => rnum_at s 6 8 P.a2 (by omega) (by omega) (by omega) W)
  change Hid (∀ W, Calls Tryd.prog 25 #[.string (s.extract 6 8)] W fun r w' => r = .returned (.int .i64 (dL s.data.toList)) ∧ W = w') at N3
  have HD := Lib.hid (fun W => rday_any (yL s.data.toList) (mL s.data.toList) (dL s.data.toList) W)
  have e1 : dayA (yL s.data.toList) (mL s.data.toList) (dL s.data.toList) = 0 := by unfold dayA; rw [hd]; rfl
  have e2 : dayE (yL s.data.toList) (mL s.data.toList) (dL s.data.toList) = 8 := by unfold dayE; rw [hd]; rfl
  rw [e1, e2] at HD
  clear e1 e2 P k0 hf F a1 hlen hl0
  clear hd
  generalize yL s.data.toList = y at *
  generalize mL s.data.toList = m at *
  generalize dL s.data.toList = d at *
  go_enter Tryd.func9, Tryd.ntmps9
  go_wp2_with (go_at_call 23; with_reducible refine (D1.out _).mono ?_; rintro e w1 ⟨rfl, rfl⟩)
  go_quiet (first
    | (go_at_call 25; with_reducible exact quiet_left (N1.out _))
    | (go_at_call 25; with_reducible exact quiet_left (N2.out _))
    | (go_at_call 25; with_reducible exact quiet_left (N3.out _))
    | (go_at_call 24; with_reducible exact quiet_left (HD.out _)))
  go_wp2_with fail
  refine bodyPost_ret (v := .tuple #[MV 0 0, .int .i64 8]) (by simp [results, Tryd.results9, go_sem, *]) rfl ⟨rfl, ?_⟩
  exact box_n w _ _ _ _
theorem rparse_day (s : ByteArray) (w : World) (hf : s.data.toList.map sgn = F1) (k0 : ¬ kindA s.data.toList = 0) (hd : isD (yL s.data.toList) (mL s.data.toList) (dL s.data.toList) = true) :
    Calls Tryd.prog 9 #[.string s] w fun r w' => r = .returned (.tuple #[MV 1 (dayN (yL s.data.toList) (mL s.data.toList) (dL s.data.toList) * 86400), .int .i64 0]) ∧ Below w.heap.size w w' := by
  have hi := isDate_of (isD_yes hd).1 (isD_yes hd).2
  have n0 := hi.lo
  have n1 := hi.hi
  have F := fm1 hf
  have hl0 : s.data.toList.length = s.size := by simp
  have hlen := F.len
  rw [hl0] at hlen
  have a1 := F.a8
  have D1 := Lib.hid (fun W => dig8 s (by omega) W)
  rw [a1] at D1
  have e8 : ((s.size : Int) == 8) = true := by simp; omega
  have n8 : ((s.size : Int) != 8) = false := by simp; omega
  have hs' : (8 : Int) ≤ s.size := by omega
  have P := parts_of k0
  have N1 := Lib.hid (fun W => rnum_at s 0 4 P.a0 (by omega) (by omega) (by omega) W)
  change Hid (∀ W, Calls Tryd.prog 25 #[.string (s.extract 0 4)] W fun r w' => r = .returned (.int .i64 (yL s.data.toList)) ∧ W = w') at N1
  have N2 := Lib.hid (fun W => rnum_at s 4 6 P.a1 (by omega) (by omega) (by omega) W)
  change Hid (∀ W, Calls Tryd.prog 25 #[.string (s.extract 4 6)] W fun r w' => r = .returned (.int .i64 (mL s.data.toList)) ∧ W = w') at N2
  have N3 := Lib.hid (fun W => rnum_at s 6 8 P.a2 (by omega) (by omega) (by omega) W)
  change Hid (∀ W, Calls Tryd.prog 25 #[.string (s.extract 6 8)] W fun r w' => r = .returned (.int .i64 (dL s.data.toList)) ∧ W = w') at N3
  have HD := Lib.hid (fun W => rday_any (yL s.data.toList) (mL s.data.toList) (dL s.data.toList) W)
  have e1 : dayA (yL s.data.toList) (mL s.data.toList) (dL s.data.toList) = dayN (yL s.data.toList) (mL s.data.toList) (dL s.data.toList) := by unfold dayA; rw [hd]; rfl
  have e2 : dayE (yL s.data.toList) (mL s.data.toList) (dL s.data.toList) = 0 := by unfold dayE; rw [hd]; rfl
  rw [e1, e2] at HD
  clear e1 e2 P k0 hf F a1 hlen hl0
  clear hd hi
  generalize dayN (yL s.data.toList) (mL s.data.toList) (dL s.data.toList) = n at *
  generalize yL s.data.toList = y at *
  generalize mL s.data.toList = m at *
  generalize dL s.data.toList = d at *
  go_enter Tryd.func9, Tryd.ntmps9
  go_wp2_with (go_at_call 23; with_reducible refine (D1.out _).mono ?_; rintro e w1 ⟨rfl, rfl⟩)
  go_quiet (first
    | (go_at_call 25; with_reducible exact quiet_left (N1.out _))
    | (go_at_call 25; with_reducible exact quiet_left (N2.out _))
    | (go_at_call 25; with_reducible exact quiet_left (N3.out _))
    | (go_at_call 24; with_reducible exact quiet_left (HD.out _)))
  go_wp2_with fail
  refine bodyPost_ret (v := .tuple #[MV 1 (n * 86400), .int .i64 0]) (by simp [results, Tryd.results9, go_sem, *]) rfl ⟨rfl, ?_⟩
  exact box_n w _ _ _ _
theorem rparse_no2 (s : ByteArray) (w : World) (hf : s.data.toList.map sgn = F2) (k0 : ¬ kindA s.data.toList = 0) (hd : isD (yL s.data.toList) (mL s.data.toList) (dL s.data.toList) = false) :
    Calls Tryd.prog 9 #[.string s] w fun r w' => r = .returned (.tuple #[MV 0 0, .int .i64 8]) ∧ Below w.heap.size w w' := by
  have F := fm2 hf
  have hl0 : s.data.toList.length = s.size := by simp
  have hlen := F.len
  rw [hl0] at hlen
  have a1 := F.a8
  have D1 := Lib.hid (fun W => dig8 s (by omega) W)
  rw [a1] at D1
  have t8 := at_some (s := s) (k := 8) (by omega) F.t8
  have i8 : 8 < s.size := by omega
  have u8 : (((s[8]'i8).toNat : Int) != 84) = false := by simp [t8]
  have a2 := F.a6
  have D2 := Lib.hid (fun W => dig6 s (by omega) W)
  rw [a2] at D2
  have e8 : ((s.size : Int) == 8) = false := by simp; omega
  have n8 : ((s.size : Int) != 8) = true := by simp; omega
  have e15 : ((s.size : Int) == 15) = true := by simp; omega
  have n15 : ((s.size : Int) != 15) = false := by simp; omega
  have hs' : (15 : Int) ≤ s.size := by omega
  have P := parts_of k0
  have N1 := Lib.hid (fun W => rnum_at s 0 4 P.a0 (by omega) (by omega) (by omega) W)
  change Hid (∀ W, Calls Tryd.prog 25 #[.string (s.extract 0 4)] W fun r w' => r = .returned (.int .i64 (yL s.data.toList)) ∧ W = w') at N1
  have N2 := Lib.hid (fun W => rnum_at s 4 6 P.a1 (by omega) (by omega) (by omega) W)
  change Hid (∀ W, Calls Tryd.prog 25 #[.string (s.extract 4 6)] W fun r w' => r = .returned (.int .i64 (mL s.data.toList)) ∧ W = w') at N2
  have N3 := Lib.hid (fun W => rnum_at s 6 8 P.a2 (by omega) (by omega) (by omega) W)
  change Hid (∀ W, Calls Tryd.prog 25 #[.string (s.extract 6 8)] W fun r w' => r = .returned (.int .i64 (dL s.data.toList)) ∧ W = w') at N3
  have HD := Lib.hid (fun W => rday_any (yL s.data.toList) (mL s.data.toList) (dL s.data.toList) W)
  have e1 : dayA (yL s.data.toList) (mL s.data.toList) (dL s.data.toList) = 0 := by unfold dayA; rw [hd]; rfl
  have e2 : dayE (yL s.data.toList) (mL s.data.toList) (dL s.data.toList) = 8 := by unfold dayE; rw [hd]; rfl
  rw [e1, e2] at HD
  clear e1 e2 P k0 hf F a1 a2 t8 hlen hl0
  clear hd
  generalize yL s.data.toList = y at *
  generalize mL s.data.toList = m at *
  generalize dL s.data.toList = d at *
  go_enter Tryd.func9, Tryd.ntmps9
  go_wp2_with (first | (go_at_call 23; with_reducible refine (D1.out _).mono ?_; rintro e w1 ⟨rfl, rfl⟩) | (go_at_call 23; with_reducible refine (D2.out _).mono ?_; rintro e w1 ⟨rfl, rfl⟩))
  go_quiet (first
    | (go_at_call 25; with_reducible exact quiet_left (N1.out _))
    | (go_at_call 25; with_reducible exact quiet_left (N2.out _))
    | (go_at_call 25; with_reducible exact quiet_left (N3.out _))
    | (go_at_call 24; with_reducible exact quiet_left (HD.out _)))
  go_wp2_with fail
  refine bodyPost_ret (v := .tuple #[MV 0 0, .int .i64 8]) (by simp [results, Tryd.results9, go_sem, *]) rfl ⟨rfl, ?_⟩
  exact box_n w _ _ _ _
theorem rparse_late2 (s : ByteArray) (w : World) (hf : s.data.toList.map sgn = F2) (k0 : ¬ kindA s.data.toList = 0) (k1 : ¬ kindA s.data.toList = 1) (hd : isD (yL s.data.toList) (mL s.data.toList) (dL s.data.toList) = true) (hl : late s.data.toList = true) :
    Calls Tryd.prog 9 #[.string s] w fun r w' => r = .returned (.tuple #[MV 0 0, .int .i64 8]) ∧ Below w.heap.size w w' := by
  have hi := isDate_of (isD_yes hd).1 (isD_yes hd).2
  have n0 := hi.lo
  have n1 := hi.hi
  have hl' := late_yes hl
  have F := fm2 hf
  have hl0 : s.data.toList.length = s.size := by simp
  have hlen := F.len
  rw [hl0] at hlen
  have a1 := F.a8
  have D1 := Lib.hid (fun W => dig8 s (by omega) W)
  rw [a1] at D1
  have t8 := at_some (s := s) (k := 8) (by omega) F.t8
  have i8 : 8 < s.size := by omega
  have u8 : (((s[8]'i8).toNat : Int) != 84) = false := by simp [t8]
  have a2 := F.a6
  have D2 := Lib.hid (fun W => dig6 s (by omega) W)
  rw [a2] at D2
  have e8 : ((s.size : Int) == 8) = false := by simp; omega
  have n8 : ((s.size : Int) != 8) = true := by simp; omega
  have e15 : ((s.size : Int) == 15) = true := by simp; omega
  have n15 : ((s.size : Int) != 15) = false := by simp; omega
  have hs' : (15 : Int) ≤ s.size := by omega
  have P := parts_of k0
  have T := times_of k0 k1
  have N1 := Lib.hid (fun W => rnum_at s 0 4 P.a0 (by omega) (by omega) (by omega) W)
  change Hid (∀ W, Calls Tryd.prog 25 #[.string (s.extract 0 4)] W fun r w' => r = .returned (.int .i64 (yL s.data.toList)) ∧ W = w') at N1
  have N2 := Lib.hid (fun W => rnum_at s 4 6 P.a1 (by omega) (by omega) (by omega) W)
  change Hid (∀ W, Calls Tryd.prog 25 #[.string (s.extract 4 6)] W fun r w' => r = .returned (.int .i64 (mL s.data.toList)) ∧ W = w') at N2
  have N3 := Lib.hid (fun W => rnum_at s 6 8 P.a2 (by omega) (by omega) (by omega) W)
  change Hid (∀ W, Calls Tryd.prog 25 #[.string (s.extract 6 8)] W fun r w' => r = .returned (.int .i64 (dL s.data.toList)) ∧ W = w') at N3
  have N4 := Lib.hid (fun W => rnum_at s 9 11 T.a3 (by omega) (by omega) (by omega) W)
  change Hid (∀ W, Calls Tryd.prog 25 #[.string (s.extract 9 11)] W fun r w' => r = .returned (.int .i64 (hL s.data.toList)) ∧ W = w') at N4
  have N5 := Lib.hid (fun W => rnum_at s 11 13 T.a4 (by omega) (by omega) (by omega) W)
  change Hid (∀ W, Calls Tryd.prog 25 #[.string (s.extract 11 13)] W fun r w' => r = .returned (.int .i64 (miL s.data.toList)) ∧ W = w') at N5
  have N6 := Lib.hid (fun W => rnum_at s 13 15 T.a5 (by omega) (by omega) (by omega) W)
  change Hid (∀ W, Calls Tryd.prog 25 #[.string (s.extract 13 15)] W fun r w' => r = .returned (.int .i64 (sL s.data.toList)) ∧ W = w') at N6
  have HD := Lib.hid (fun W => rday_any (yL s.data.toList) (mL s.data.toList) (dL s.data.toList) W)
  have e1 : dayA (yL s.data.toList) (mL s.data.toList) (dL s.data.toList) = dayN (yL s.data.toList) (mL s.data.toList) (dL s.data.toList) := by unfold dayA; rw [hd]; rfl
  have e2 : dayE (yL s.data.toList) (mL s.data.toList) (dL s.data.toList) = 0 := by unfold dayE; rw [hd]; rfl
  rw [e1, e2] at HD
  clear e1 e2 P k0 hf F a1 a2 t8 hlen hl0
  clear hd hi T k1 hl
  generalize dayN (yL s.data.toList) (mL s.data.toList) (dL s.data.toList) = n at *
  generalize yL s.data.toList = y at *
  generalize mL s.data.toList = m at *
  generalize dL s.data.toList = d at *
  generalize hL s.data.toList = h at *
  generalize miL s.data.toList = mi at *
  generalize sL s.data.toList = sc at *
  have q1 : decide (23 < h) = true ∨ (decide (23 < h) = false ∧ decide (59 < mi) = true) ∨ (decide (23 < h) = false ∧ decide (59 < mi) = false ∧ decide (59 < sc) = true) := by simpa using hl'
  clear hl'
  rcases q1 with q1 | ⟨q1, q2⟩ | ⟨q1, q2, q3⟩
  · go_enter Tryd.func9, Tryd.ntmps9
    go_wp2_with (first | (go_at_call 23; with_reducible refine (D1.out _).mono ?_; rintro e w1 ⟨rfl, rfl⟩) | (go_at_call 23; with_reducible refine (D2.out _).mono ?_; rintro e w1 ⟨rfl, rfl⟩))
    go_quiet (first
      | (go_at_call 25; with_reducible exact quiet_left (N1.out _))
      | (go_at_call 25; with_reducible exact quiet_left (N2.out _))
      | (go_at_call 25; with_reducible exact quiet_left (N3.out _))
      | (go_at_call 24; with_reducible exact quiet_left (HD.out _)))
    go_wp2_with fail
    go_quiet (first
      | (go_at_call 25; with_reducible exact quiet_add_left (N4.out _))
      | (go_at_call 25; with_reducible exact quiet_add_left (N5.out _))
      | (go_at_call 25; with_reducible exact quiet_add_left (N6.out _)))
    go_wp2_with fail
    refine bodyPost_ret (v := .tuple #[MV 0 0, .int .i64 8]) (by simp [results, Tryd.results9, go_sem, *]) rfl ⟨rfl, ?_⟩
    exact box_n w _ _ _ _
  · go_enter Tryd.func9, Tryd.ntmps9
    go_wp2_with (first | (go_at_call 23; with_reducible refine (D1.out _).mono ?_; rintro e w1 ⟨rfl, rfl⟩) | (go_at_call 23; with_reducible refine (D2.out _).mono ?_; rintro e w1 ⟨rfl, rfl⟩))
    go_quiet (first
      | (go_at_call 25; with_reducible exact quiet_left (N1.out _))
      | (go_at_call 25; with_reducible exact quiet_left (N2.out _))
      | (go_at_call 25; with_reducible exact quiet_left (N3.out _))
      | (go_at_call 24; with_reducible exact quiet_left (HD.out _)))
    go_wp2_with fail
    go_quiet (first
      | (go_at_call 25; with_reducible exact quiet_add_left (N4.out _))
      | (go_at_call 25; with_reducible exact quiet_add_left (N5.out _))
      | (go_at_call 25; with_reducible exact quiet_add_left (N6.out _)))
    go_wp2_with fail
    refine bodyPost_ret (v := .tuple #[MV 0 0, .int .i64 8]) (by simp [results, Tryd.results9, go_sem, *]) rfl ⟨rfl, ?_⟩
    exact box_n w _ _ _ _
  · go_enter Tryd.func9, Tryd.ntmps9
    go_wp2_with (first | (go_at_call 23; with_reducible refine (D1.out _).mono ?_; rintro e w1 ⟨rfl, rfl⟩) | (go_at_call 23; with_reducible refine (D2.out _).mono ?_; rintro e w1 ⟨rfl, rfl⟩))
    go_quiet (first
      | (go_at_call 25; with_reducible exact quiet_left (N1.out _))
      | (go_at_call 25; with_reducible exact quiet_left (N2.out _))
      | (go_at_call 25; with_reducible exact quiet_left (N3.out _))
      | (go_at_call 24; with_reducible exact quiet_left (HD.out _)))
    go_wp2_with fail
    go_quiet (first
      | (go_at_call 25; with_reducible exact quiet_add_left (N4.out _))
      | (go_at_call 25; with_reducible exact quiet_add_left (N5.out _))
      | (go_at_call 25; with_reducible exact quiet_add_left (N6.out _)))
    go_wp2_with fail
    refine bodyPost_ret (v := .tuple #[MV 0 0, .int .i64 8]) (by simp [results, Tryd.results9, go_sem, *]) rfl ⟨rfl, ?_⟩
    exact box_n w _ _ _ _
theorem rparse_time2 (s : ByteArray) (w : World) (hf : s.data.toList.map sgn = F2) (k0 : ¬ kindA s.data.toList = 0) (k1 : ¬ kindA s.data.toList = 1) (hd : isD (yL s.data.toList) (mL s.data.toList) (dL s.data.toList) = true) (hl : late s.data.toList = false) :
    Calls Tryd.prog 9 #[.string s] w fun r w' => r = .returned (.tuple #[MV 2 (dayN (yL s.data.toList) (mL s.data.toList) (dL s.data.toList) * 86400 + (hL s.data.toList * 3600 + miL s.data.toList * 60 + sL s.data.toList)), .int .i64 0]) ∧ Below w.heap.size w w' := by
  have hi := isDate_of (isD_yes hd).1 (isD_yes hd).2
  have n0 := hi.lo
  have n1 := hi.hi
  obtain ⟨l1, l2, l3⟩ := late_no hl
  have F := fm2 hf
  have hl0 : s.data.toList.length = s.size := by simp
  have hlen := F.len
  rw [hl0] at hlen
  have a1 := F.a8
  have D1 := Lib.hid (fun W => dig8 s (by omega) W)
  rw [a1] at D1
  have t8 := at_some (s := s) (k := 8) (by omega) F.t8
  have i8 : 8 < s.size := by omega
  have u8 : (((s[8]'i8).toNat : Int) != 84) = false := by simp [t8]
  have a2 := F.a6
  have D2 := Lib.hid (fun W => dig6 s (by omega) W)
  rw [a2] at D2
  have e8 : ((s.size : Int) == 8) = false := by simp; omega
  have n8 : ((s.size : Int) != 8) = true := by simp; omega
  have e15 : ((s.size : Int) == 15) = true := by simp; omega
  have n15 : ((s.size : Int) != 15) = false := by simp; omega
  have hs' : (15 : Int) ≤ s.size := by omega
  have P := parts_of k0
  have T := times_of k0 k1
  have N1 := Lib.hid (fun W => rnum_at s 0 4 P.a0 (by omega) (by omega) (by omega) W)
  change Hid (∀ W, Calls Tryd.prog 25 #[.string (s.extract 0 4)] W fun r w' => r = .returned (.int .i64 (yL s.data.toList)) ∧ W = w') at N1
  have N2 := Lib.hid (fun W => rnum_at s 4 6 P.a1 (by omega) (by omega) (by omega) W)
  change Hid (∀ W, Calls Tryd.prog 25 #[.string (s.extract 4 6)] W fun r w' => r = .returned (.int .i64 (mL s.data.toList)) ∧ W = w') at N2
  have N3 := Lib.hid (fun W => rnum_at s 6 8 P.a2 (by omega) (by omega) (by omega) W)
  change Hid (∀ W, Calls Tryd.prog 25 #[.string (s.extract 6 8)] W fun r w' => r = .returned (.int .i64 (dL s.data.toList)) ∧ W = w') at N3
  have N4 := Lib.hid (fun W => rnum_at s 9 11 T.a3 (by omega) (by omega) (by omega) W)
  change Hid (∀ W, Calls Tryd.prog 25 #[.string (s.extract 9 11)] W fun r w' => r = .returned (.int .i64 (hL s.data.toList)) ∧ W = w') at N4
  have N5 := Lib.hid (fun W => rnum_at s 11 13 T.a4 (by omega) (by omega) (by omega) W)
  change Hid (∀ W, Calls Tryd.prog 25 #[.string (s.extract 11 13)] W fun r w' => r = .returned (.int .i64 (miL s.data.toList)) ∧ W = w') at N5
  have N6 := Lib.hid (fun W => rnum_at s 13 15 T.a5 (by omega) (by omega) (by omega) W)
  change Hid (∀ W, Calls Tryd.prog 25 #[.string (s.extract 13 15)] W fun r w' => r = .returned (.int .i64 (sL s.data.toList)) ∧ W = w') at N6
  have HD := Lib.hid (fun W => rday_any (yL s.data.toList) (mL s.data.toList) (dL s.data.toList) W)
  have e1 : dayA (yL s.data.toList) (mL s.data.toList) (dL s.data.toList) = dayN (yL s.data.toList) (mL s.data.toList) (dL s.data.toList) := by unfold dayA; rw [hd]; rfl
  have e2 : dayE (yL s.data.toList) (mL s.data.toList) (dL s.data.toList) = 0 := by unfold dayE; rw [hd]; rfl
  rw [e1, e2] at HD
  obtain ⟨h0, -⟩ := dv2_in T.a3
  obtain ⟨m0, -⟩ := dv2_in T.a4
  obtain ⟨s0, -⟩ := dv2_in T.a5
  change 0 ≤ hL s.data.toList at h0
  change 0 ≤ miL s.data.toList at m0
  change 0 ≤ sL s.data.toList at s0
  clear e1 e2 P k0 hf F a1 a2 t8 hlen hl0
  clear hd hi T k1 hl
  generalize dayN (yL s.data.toList) (mL s.data.toList) (dL s.data.toList) = n at *
  generalize yL s.data.toList = y at *
  generalize mL s.data.toList = m at *
  generalize dL s.data.toList = d at *
  generalize hL s.data.toList = h at *
  generalize miL s.data.toList = mi at *
  generalize sL s.data.toList = sc at *
  have q1 : decide (23 < h) = false := by simp; omega
  have q2 : decide (59 < mi) = false := by simp; omega
  have q3 : decide (59 < sc) = false := by simp; omega
  have ee : n * 86400 + (h * 3600 + mi * 60 + sc) = n * 86400 + h * 3600 + mi * 60 + sc := by omega
  rw [ee]
  clear ee
  go_enter Tryd.func9, Tryd.ntmps9
  go_wp2_with (first | (go_at_call 23; with_reducible refine (D1.out _).mono ?_; rintro e w1 ⟨rfl, rfl⟩) | (go_at_call 23; with_reducible refine (D2.out _).mono ?_; rintro e w1 ⟨rfl, rfl⟩))
  go_quiet (first
    | (go_at_call 25; with_reducible exact quiet_left (N1.out _))
    | (go_at_call 25; with_reducible exact quiet_left (N2.out _))
    | (go_at_call 25; with_reducible exact quiet_left (N3.out _))
    | (go_at_call 24; with_reducible exact quiet_left (HD.out _)))
  go_wp2_with fail
  go_quiet (first
    | (go_at_call 25; with_reducible exact quiet_add_left (N4.out _))
    | (go_at_call 25; with_reducible exact quiet_add_left (N5.out _))
    | (go_at_call 25; with_reducible exact quiet_add_left (N6.out _)))
  go_wp2_with fail
  refine bodyPost_ret (v := .tuple #[MV 2 (n * 86400 + h * 3600 + mi * 60 + sc), .int .i64 0]) (by simp [results, Tryd.results9, go_sem, *]) rfl ⟨rfl, ?_⟩
  exact box_n w _ _ _ _
theorem rparse_no3 (s : ByteArray) (w : World) (hf : s.data.toList.map sgn = F3) (k0 : ¬ kindA s.data.toList = 0) (hd : isD (yL s.data.toList) (mL s.data.toList) (dL s.data.toList) = false) :
    Calls Tryd.prog 9 #[.string s] w fun r w' => r = .returned (.tuple #[MV 0 0, .int .i64 8]) ∧ Below w.heap.size w w' := by
  have F := fm3 hf
  have hl0 : s.data.toList.length = s.size := by simp
  have hlen := F.len
  rw [hl0] at hlen
  have a1 := F.a8
  have D1 := Lib.hid (fun W => dig8 s (by omega) W)
  rw [a1] at D1
  have t8 := at_some (s := s) (k := 8) (by omega) F.t8
  have i8 : 8 < s.size := by omega
  have u8 : (((s[8]'i8).toNat : Int) != 84) = false := by simp [t8]
  have a2 := F.a6
  have D2 := Lib.hid (fun W => dig6 s (by omega) W)
  rw [a2] at D2
  have z15 := at_some (s := s) (k := 15) (by omega) F.z
  have i15 : 15 < s.size := by omega
  have u15 : (((s[15]'i15).toNat : Int) != 90) = false := by simp [z15]
  have e8 : ((s.size : Int) == 8) = false := by simp; omega
  have n8 : ((s.size : Int) != 8) = true := by simp; omega
  have e15 : ((s.size : Int) == 15) = false := by simp; omega
  have n15 : ((s.size : Int) != 15) = true := by simp; omega
  have n16 : ((s.size : Int) != 16) = false := by simp; omega
  have hs' : (16 : Int) ≤ s.size := by omega
  have P := parts_of k0
  have N1 := Lib.hid (fun W => rnum_at s 0 4 P.a0 (by omega) (by omega) (by omega) W)
  change Hid (∀ W, Calls Tryd.prog 25 #[.string (s.extract 0 4)] W fun r w' => r = .returned (.int .i64 (yL s.data.toList)) ∧ W = w') at N1
  have N2 := Lib.hid (fun W => rnum_at s 4 6 P.a1 (by omega) (by omega) (by omega) W)
  change Hid (∀ W, Calls Tryd.prog 25 #[.string (s.extract 4 6)] W fun r w' => r = .returned (.int .i64 (mL s.data.toList)) ∧ W = w') at N2
  have N3 := Lib.hid (fun W => rnum_at s 6 8 P.a2 (by omega) (by omega) (by omega) W)
  change Hid (∀ W, Calls Tryd.prog 25 #[.string (s.extract 6 8)] W fun r w' => r = .returned (.int .i64 (dL s.data.toList)) ∧ W = w') at N3
  have HD := Lib.hid (fun W => rday_any (yL s.data.toList) (mL s.data.toList) (dL s.data.toList) W)
  have e1 : dayA (yL s.data.toList) (mL s.data.toList) (dL s.data.toList) = 0 := by unfold dayA; rw [hd]; rfl
  have e2 : dayE (yL s.data.toList) (mL s.data.toList) (dL s.data.toList) = 8 := by unfold dayE; rw [hd]; rfl
  rw [e1, e2] at HD
  clear e1 e2 P k0 hf F a1 a2 t8 z15 hlen hl0
  clear hd
  generalize yL s.data.toList = y at *
  generalize mL s.data.toList = m at *
  generalize dL s.data.toList = d at *
  go_enter Tryd.func9, Tryd.ntmps9
  go_wp2_with (first | (go_at_call 23; with_reducible refine (D1.out _).mono ?_; rintro e w1 ⟨rfl, rfl⟩) | (go_at_call 23; with_reducible refine (D2.out _).mono ?_; rintro e w1 ⟨rfl, rfl⟩))
  go_quiet (first
    | (go_at_call 25; with_reducible exact quiet_left (N1.out _))
    | (go_at_call 25; with_reducible exact quiet_left (N2.out _))
    | (go_at_call 25; with_reducible exact quiet_left (N3.out _))
    | (go_at_call 24; with_reducible exact quiet_left (HD.out _)))
  go_wp2_with fail
  refine bodyPost_ret (v := .tuple #[MV 0 0, .int .i64 8]) (by simp [results, Tryd.results9, go_sem, *]) rfl ⟨rfl, ?_⟩
  exact box_n w _ _ _ _
theorem rparse_late3 (s : ByteArray) (w : World) (hf : s.data.toList.map sgn = F3) (k0 : ¬ kindA s.data.toList = 0) (k1 : ¬ kindA s.data.toList = 1) (hd : isD (yL s.data.toList) (mL s.data.toList) (dL s.data.toList) = true) (hl : late s.data.toList = true) :
    Calls Tryd.prog 9 #[.string s] w fun r w' => r = .returned (.tuple #[MV 0 0, .int .i64 8]) ∧ Below w.heap.size w w' := by
  have hi := isDate_of (isD_yes hd).1 (isD_yes hd).2
  have n0 := hi.lo
  have n1 := hi.hi
  have hl' := late_yes hl
  have F := fm3 hf
  have hl0 : s.data.toList.length = s.size := by simp
  have hlen := F.len
  rw [hl0] at hlen
  have a1 := F.a8
  have D1 := Lib.hid (fun W => dig8 s (by omega) W)
  rw [a1] at D1
  have t8 := at_some (s := s) (k := 8) (by omega) F.t8
  have i8 : 8 < s.size := by omega
  have u8 : (((s[8]'i8).toNat : Int) != 84) = false := by simp [t8]
  have a2 := F.a6
  have D2 := Lib.hid (fun W => dig6 s (by omega) W)
  rw [a2] at D2
  have z15 := at_some (s := s) (k := 15) (by omega) F.z
  have i15 : 15 < s.size := by omega
  have u15 : (((s[15]'i15).toNat : Int) != 90) = false := by simp [z15]
  have e8 : ((s.size : Int) == 8) = false := by simp; omega
  have n8 : ((s.size : Int) != 8) = true := by simp; omega
  have e15 : ((s.size : Int) == 15) = false := by simp; omega
  have n15 : ((s.size : Int) != 15) = true := by simp; omega
  have n16 : ((s.size : Int) != 16) = false := by simp; omega
  have hs' : (16 : Int) ≤ s.size := by omega
  have P := parts_of k0
  have T := times_of k0 k1
  have N1 := Lib.hid (fun W => rnum_at s 0 4 P.a0 (by omega) (by omega) (by omega) W)
  change Hid (∀ W, Calls Tryd.prog 25 #[.string (s.extract 0 4)] W fun r w' => r = .returned (.int .i64 (yL s.data.toList)) ∧ W = w') at N1
  have N2 := Lib.hid (fun W => rnum_at s 4 6 P.a1 (by omega) (by omega) (by omega) W)
  change Hid (∀ W, Calls Tryd.prog 25 #[.string (s.extract 4 6)] W fun r w' => r = .returned (.int .i64 (mL s.data.toList)) ∧ W = w') at N2
  have N3 := Lib.hid (fun W => rnum_at s 6 8 P.a2 (by omega) (by omega) (by omega) W)
  change Hid (∀ W, Calls Tryd.prog 25 #[.string (s.extract 6 8)] W fun r w' => r = .returned (.int .i64 (dL s.data.toList)) ∧ W = w') at N3
  have N4 := Lib.hid (fun W => rnum_at s 9 11 T.a3 (by omega) (by omega) (by omega) W)
  change Hid (∀ W, Calls Tryd.prog 25 #[.string (s.extract 9 11)] W fun r w' => r = .returned (.int .i64 (hL s.data.toList)) ∧ W = w') at N4
  have N5 := Lib.hid (fun W => rnum_at s 11 13 T.a4 (by omega) (by omega) (by omega) W)
  change Hid (∀ W, Calls Tryd.prog 25 #[.string (s.extract 11 13)] W fun r w' => r = .returned (.int .i64 (miL s.data.toList)) ∧ W = w') at N5
  have N6 := Lib.hid (fun W => rnum_at s 13 15 T.a5 (by omega) (by omega) (by omega) W)
  change Hid (∀ W, Calls Tryd.prog 25 #[.string (s.extract 13 15)] W fun r w' => r = .returned (.int .i64 (sL s.data.toList)) ∧ W = w') at N6
  have HD := Lib.hid (fun W => rday_any (yL s.data.toList) (mL s.data.toList) (dL s.data.toList) W)
  have e1 : dayA (yL s.data.toList) (mL s.data.toList) (dL s.data.toList) = dayN (yL s.data.toList) (mL s.data.toList) (dL s.data.toList) := by unfold dayA; rw [hd]; rfl
  have e2 : dayE (yL s.data.toList) (mL s.data.toList) (dL s.data.toList) = 0 := by unfold dayE; rw [hd]; rfl
  rw [e1, e2] at HD
  clear e1 e2 P k0 hf F a1 a2 t8 z15 hlen hl0
  clear hd hi T k1 hl
  generalize dayN (yL s.data.toList) (mL s.data.toList) (dL s.data.toList) = n at *
  generalize yL s.data.toList = y at *
  generalize mL s.data.toList = m at *
  generalize dL s.data.toList = d at *
  generalize hL s.data.toList = h at *
  generalize miL s.data.toList = mi at *
  generalize sL s.data.toList = sc at *
  have q1 : decide (23 < h) = true ∨ (decide (23 < h) = false ∧ decide (59 < mi) = true) ∨ (decide (23 < h) = false ∧ decide (59 < mi) = false ∧ decide (59 < sc) = true) := by simpa using hl'
  clear hl'
  rcases q1 with q1 | ⟨q1, q2⟩ | ⟨q1, q2, q3⟩
  · go_enter Tryd.func9, Tryd.ntmps9
    go_wp2_with (first | (go_at_call 23; with_reducible refine (D1.out _).mono ?_; rintro e w1 ⟨rfl, rfl⟩) | (go_at_call 23; with_reducible refine (D2.out _).mono ?_; rintro e w1 ⟨rfl, rfl⟩))
    go_quiet (first
      | (go_at_call 25; with_reducible exact quiet_left (N1.out _))
      | (go_at_call 25; with_reducible exact quiet_left (N2.out _))
      | (go_at_call 25; with_reducible exact quiet_left (N3.out _))
      | (go_at_call 24; with_reducible exact quiet_left (HD.out _)))
    go_wp2_with fail
    go_quiet (first
      | (go_at_call 25; with_reducible exact quiet_add_left (N4.out _))
      | (go_at_call 25; with_reducible exact quiet_add_left (N5.out _))
      | (go_at_call 25; with_reducible exact quiet_add_left (N6.out _)))
    go_wp2_with fail
    refine bodyPost_ret (v := .tuple #[MV 0 0, .int .i64 8]) (by simp [results, Tryd.results9, go_sem, *]) rfl ⟨rfl, ?_⟩
    exact box_n w _ _ _ _
  · go_enter Tryd.func9, Tryd.ntmps9
    go_wp2_with (first | (go_at_call 23; with_reducible refine (D1.out _).mono ?_; rintro e w1 ⟨rfl, rfl⟩) | (go_at_call 23; with_reducible refine (D2.out _).mono ?_; rintro e w1 ⟨rfl, rfl⟩))
    go_quiet (first
      | (go_at_call 25; with_reducible exact quiet_left (N1.out _))
      | (go_at_call 25; with_reducible exact quiet_left (N2.out _))
      | (go_at_call 25; with_reducible exact quiet_left (N3.out _))
      | (go_at_call 24; with_reducible exact quiet_left (HD.out _)))
    go_wp2_with fail
    go_quiet (first
      | (go_at_call 25; with_reducible exact quiet_add_left (N4.out _))
      | (go_at_call 25; with_reducible exact quiet_add_left (N5.out _))
      | (go_at_call 25; with_reducible exact quiet_add_left (N6.out _)))
    go_wp2_with fail
    refine bodyPost_ret (v := .tuple #[MV 0 0, .int .i64 8]) (by simp [results, Tryd.results9, go_sem, *]) rfl ⟨rfl, ?_⟩
    exact box_n w _ _ _ _
  · go_enter Tryd.func9, Tryd.ntmps9
    go_wp2_with (first | (go_at_call 23; with_reducible refine (D1.out _).mono ?_; rintro e w1 ⟨rfl, rfl⟩) | (go_at_call 23; with_reducible refine (D2.out _).mono ?_; rintro e w1 ⟨rfl, rfl⟩))
    go_quiet (first
      | (go_at_call 25; with_reducible exact quiet_left (N1.out _))
      | (go_at_call 25; with_reducible exact quiet_left (N2.out _))
      | (go_at_call 25; with_reducible exact quiet_left (N3.out _))
      | (go_at_call 24; with_reducible exact quiet_left (HD.out _)))
    go_wp2_with fail
    go_quiet (first
      | (go_at_call 25; with_reducible exact quiet_add_left (N4.out _))
      | (go_at_call 25; with_reducible exact quiet_add_left (N5.out _))
      | (go_at_call 25; with_reducible exact quiet_add_left (N6.out _)))
    go_wp2_with fail
    refine bodyPost_ret (v := .tuple #[MV 0 0, .int .i64 8]) (by simp [results, Tryd.results9, go_sem, *]) rfl ⟨rfl, ?_⟩
    exact box_n w _ _ _ _
theorem rparse_time3 (s : ByteArray) (w : World) (hf : s.data.toList.map sgn = F3) (k0 : ¬ kindA s.data.toList = 0) (k1 : ¬ kindA s.data.toList = 1) (hd : isD (yL s.data.toList) (mL s.data.toList) (dL s.data.toList) = true) (hl : late s.data.toList = false) :
    Calls Tryd.prog 9 #[.string s] w fun r w' => r = .returned (.tuple #[MV 3 (dayN (yL s.data.toList) (mL s.data.toList) (dL s.data.toList) * 86400 + (hL s.data.toList * 3600 + miL s.data.toList * 60 + sL s.data.toList)), .int .i64 0]) ∧ Below w.heap.size w w' := by
  have hi := isDate_of (isD_yes hd).1 (isD_yes hd).2
  have n0 := hi.lo
  have n1 := hi.hi
  obtain ⟨l1, l2, l3⟩ := late_no hl
  have F := fm3 hf
  have hl0 : s.data.toList.length = s.size := by simp
  have hlen := F.len
  rw [hl0] at hlen
  have a1 := F.a8
  have D1 := Lib.hid (fun W => dig8 s (by omega) W)
  rw [a1] at D1
  have t8 := at_some (s := s) (k := 8) (by omega) F.t8
  have i8 : 8 < s.size := by omega
  have u8 : (((s[8]'i8).toNat : Int) != 84) = false := by simp [t8]
  have a2 := F.a6
  have D2 := Lib.hid (fun W => dig6 s (by omega) W)
  rw [a2] at D2
  have z15 := at_some (s := s) (k := 15) (by omega) F.z
  have i15 : 15 < s.size := by omega
  have u15 : (((s[15]'i15).toNat : Int) != 90) = false := by simp [z15]
  have e8 : ((s.size : Int) == 8) = false := by simp; omega
  have n8 : ((s.size : Int) != 8) = true := by simp; omega
  have e15 : ((s.size : Int) == 15) = false := by simp; omega
  have n15 : ((s.size : Int) != 15) = true := by simp; omega
  have n16 : ((s.size : Int) != 16) = false := by simp; omega
  have hs' : (16 : Int) ≤ s.size := by omega
  have P := parts_of k0
  have T := times_of k0 k1
  have N1 := Lib.hid (fun W => rnum_at s 0 4 P.a0 (by omega) (by omega) (by omega) W)
  change Hid (∀ W, Calls Tryd.prog 25 #[.string (s.extract 0 4)] W fun r w' => r = .returned (.int .i64 (yL s.data.toList)) ∧ W = w') at N1
  have N2 := Lib.hid (fun W => rnum_at s 4 6 P.a1 (by omega) (by omega) (by omega) W)
  change Hid (∀ W, Calls Tryd.prog 25 #[.string (s.extract 4 6)] W fun r w' => r = .returned (.int .i64 (mL s.data.toList)) ∧ W = w') at N2
  have N3 := Lib.hid (fun W => rnum_at s 6 8 P.a2 (by omega) (by omega) (by omega) W)
  change Hid (∀ W, Calls Tryd.prog 25 #[.string (s.extract 6 8)] W fun r w' => r = .returned (.int .i64 (dL s.data.toList)) ∧ W = w') at N3
  have N4 := Lib.hid (fun W => rnum_at s 9 11 T.a3 (by omega) (by omega) (by omega) W)
  change Hid (∀ W, Calls Tryd.prog 25 #[.string (s.extract 9 11)] W fun r w' => r = .returned (.int .i64 (hL s.data.toList)) ∧ W = w') at N4
  have N5 := Lib.hid (fun W => rnum_at s 11 13 T.a4 (by omega) (by omega) (by omega) W)
  change Hid (∀ W, Calls Tryd.prog 25 #[.string (s.extract 11 13)] W fun r w' => r = .returned (.int .i64 (miL s.data.toList)) ∧ W = w') at N5
  have N6 := Lib.hid (fun W => rnum_at s 13 15 T.a5 (by omega) (by omega) (by omega) W)
  change Hid (∀ W, Calls Tryd.prog 25 #[.string (s.extract 13 15)] W fun r w' => r = .returned (.int .i64 (sL s.data.toList)) ∧ W = w') at N6
  have HD := Lib.hid (fun W => rday_any (yL s.data.toList) (mL s.data.toList) (dL s.data.toList) W)
  have e1 : dayA (yL s.data.toList) (mL s.data.toList) (dL s.data.toList) = dayN (yL s.data.toList) (mL s.data.toList) (dL s.data.toList) := by unfold dayA; rw [hd]; rfl
  have e2 : dayE (yL s.data.toList) (mL s.data.toList) (dL s.data.toList) = 0 := by unfold dayE; rw [hd]; rfl
  rw [e1, e2] at HD
  obtain ⟨h0, -⟩ := dv2_in T.a3
  obtain ⟨m0, -⟩ := dv2_in T.a4
  obtain ⟨s0, -⟩ := dv2_in T.a5
  change 0 ≤ hL s.data.toList at h0
  change 0 ≤ miL s.data.toList at m0
  change 0 ≤ sL s.data.toList at s0
  clear e1 e2 P k0 hf F a1 a2 t8 z15 hlen hl0
  clear hd hi T k1 hl
  generalize dayN (yL s.data.toList) (mL s.data.toList) (dL s.data.toList) = n at *
  generalize yL s.data.toList = y at *
  generalize mL s.data.toList = m at *
  generalize dL s.data.toList = d at *
  generalize hL s.data.toList = h at *
  generalize miL s.data.toList = mi at *
  generalize sL s.data.toList = sc at *
  have q1 : decide (23 < h) = false := by simp; omega
  have q2 : decide (59 < mi) = false := by simp; omega
  have q3 : decide (59 < sc) = false := by simp; omega
  have ee : n * 86400 + (h * 3600 + mi * 60 + sc) = n * 86400 + h * 3600 + mi * 60 + sc := by omega
  rw [ee]
  clear ee
  go_enter Tryd.func9, Tryd.ntmps9
  go_wp2_with (first | (go_at_call 23; with_reducible refine (D1.out _).mono ?_; rintro e w1 ⟨rfl, rfl⟩) | (go_at_call 23; with_reducible refine (D2.out _).mono ?_; rintro e w1 ⟨rfl, rfl⟩))
  go_quiet (first
    | (go_at_call 25; with_reducible exact quiet_left (N1.out _))
    | (go_at_call 25; with_reducible exact quiet_left (N2.out _))
    | (go_at_call 25; with_reducible exact quiet_left (N3.out _))
    | (go_at_call 24; with_reducible exact quiet_left (HD.out _)))
  go_wp2_with fail
  go_quiet (first
    | (go_at_call 25; with_reducible exact quiet_add_left (N4.out _))
    | (go_at_call 25; with_reducible exact quiet_add_left (N5.out _))
    | (go_at_call 25; with_reducible exact quiet_add_left (N6.out _)))
  go_wp2_with fail
  refine bodyPost_ret (v := .tuple #[MV 3 (n * 86400 + h * 3600 + mi * 60 + sc), .int .i64 0]) (by simp [results, Tryd.results9, go_sem, *]) rfl ⟨rfl, ?_⟩
  exact box_n w _ _ _ _

theorem rparse_any (s : ByteArray) (w : World) :
    Calls Tryd.prog 9 #[.string s] w fun r w' => r = .returned (.tuple #[MV (paK s.data.toList) (paS s.data.toList), .int .i64 (paE s.data.toList)]) ∧ Below w.heap.size w w' := by
  by_cases k0 : kindA s.data.toList = 0
  · have hE := paE_form k0
    rw [paK_not (by omega), paS_not (by omega), hE]
    exact rform_any s w k0
  · rcases hd : isD (yL s.data.toList) (mL s.data.toList) (dL s.data.toList) with _ | _
    · have hE := paE_date k0 hd
      rw [paK_not (by omega), paS_not (by omega), hE]
      rcases kindA_cases s.data.toList with ⟨e, h⟩ | ⟨e, h⟩ | ⟨e, h⟩ | ⟨e, h1, h2, h3⟩
      · exact rparse_no1 s w h k0 hd
      · exact rparse_no2 s w h k0 hd
      · exact rparse_no3 s w h k0 hd
      · contradiction
    · rcases kindA_cases s.data.toList with ⟨k1, h⟩ | ⟨e, h⟩ | ⟨e, h⟩ | ⟨e, h1, h2, h3⟩
      · have hE := paE_day k1 hd
        rw [paK_ok hE, paS_ok hE, hE, if_pos k1, k1, Int.add_zero]
        exact rparse_day s w h k0 hd
      · have k1 : ¬ kindA s.data.toList = 1 := by omega
        rcases hl : late s.data.toList with _ | _
        · have hE := paE_time k0 k1 hd hl
          rw [paK_ok hE, paS_ok hE, hE, if_neg k1, e]
          exact rparse_time2 s w h k0 k1 hd hl
        · have hE := paE_late k0 k1 hd hl
          rw [paK_not (by omega), paS_not (by omega), hE]
          exact rparse_late2 s w h k0 k1 hd hl
      · have k1 : ¬ kindA s.data.toList = 1 := by omega
        rcases hl : late s.data.toList with _ | _
        · have hE := paE_time k0 k1 hd hl
          rw [paK_ok hE, paS_ok hE, hE, if_neg k1, e]
          exact rparse_time3 s w h k0 k1 hd hl
        · have hE := paE_late k0 k1 hd hl
          rw [paK_not (by omega), paS_not (by omega), hE]
          exact rparse_late3 s w h k0 k1 hd hl
      · contradiction
end Go.Proofs.YtiimkkhjejcmfaaDoor.Mom
