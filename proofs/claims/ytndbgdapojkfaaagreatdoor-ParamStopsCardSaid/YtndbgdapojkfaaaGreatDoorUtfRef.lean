/- Contracts of the document's utf (errandref14): tail, Size, Bad, Odd, Len, Cut. -/
import Derived.Test.YtndbgdapojkfaaaGreatDoorUtfPlain
import Derived.Test.YtndbgdapojkfaaaGreatDoorByt
set_option linter.unusedVariables false
namespace Go.Proofs.YtndbgdapojkfaaaGreatDoor.Utf
open Go.RowKit Go.Proofs.YtndbgdapojkfaaaGreatDoor.Byt

theorem at_get {s : ByteArray} {k : Nat} (h : k < s.size) : at_ s.data.toList k = (s[k]'h).toNat := by
  unfold at_
  rw [List.getD_eq_getElem?_getD, List.getElem?_eq_getElem (by simpa using h)]
  rfl
theorem at_drop (l : List UInt8) (i k : Nat) : at_ (l.drop i) k = at_ l (i + k) := by
  unfold at_
  simp [List.getD_eq_getElem?_getD, List.getElem?_drop]
/-- Is the byte at a place from one number to another? -/
def tlB (l : List UInt8) (k : Nat) (lo hi : Int) : Bool := decide (k < l.length ∧ lo ≤ (at_ l k : Int) ∧ (at_ l k : Int) ≤ hi)
theorem tail_any (s : ByteArray) (hs : s.size ≤ 6000) (j : Int) (k : Nat) (hj : j = k) (lo hi : Int) (w : World) : Calls Tryz.prog 83 #[.string s, .int .i64 j, .int .u8 lo, .int .u8 hi] w fun r w' => r = .returned (.bool (tlB s.data.toList k lo hi)) ∧ w = w' := by
  subst hj
  by_cases h : k < s.size
  · have e : tlB s.data.toList k lo hi = (decide (lo ≤ ((s[k]'h).toNat : Int)) && decide (((s[k]'h).toNat : Int) ≤ hi)) := by
      unfold tlB
      rw [at_get h, len_list, ← Bool.decide_and]
      congr 1
      simp [h]
    rw [e]
    have h' : (k : Int) < s.size := by omega
    by_cases c1 : lo ≤ ((s[k]'h).toNat : Int)
    · rw [decide_eq_true c1, Bool.true_and]
      go_enter Tryz.func83, Tryz.ntmps83
      go_wp2
      go_ret
      exact ⟨rfl, rfl⟩
    · rw [decide_eq_false c1, Bool.false_and]
      go_enter Tryz.func83, Tryz.ntmps83
      go_wp2
      go_ret
      exact ⟨rfl, rfl⟩
  · have e : tlB s.data.toList k lo hi = false := by
      unfold tlB
      rw [len_list]
      exact decide_eq_false (fun x => h x.1)
    rw [e]
    have h' : ¬ (k : Int) < s.size := by omega
    go_enter Tryz.func83, Tryz.ntmps83
    go_wp2
    go_ret
    exact ⟨rfl, rfl⟩

/-- A size by what the bytes behind the first one are. -/
theorem Sz_one {l : List UInt8} {i : Nat} (h : at_ l i < 128) : Sz (l.drop i) = 1 := by unfold Sz szN; rw [at_drop]; rw [if_pos (by simpa using h)]
theorem tl_eq (l : List UInt8) (i k : Nat) (lo hi : Nat) : (tlB l (i + k) lo hi = true) ↔ (k < (l.drop i).length ∧ lo ≤ at_ (l.drop i) k ∧ at_ (l.drop i) k ≤ hi) := by
  unfold tlB
  rw [decide_eq_true_eq, at_drop, List.length_drop]
  omega
theorem Sz_two {l : List UInt8} {i : Nat} (h0 : 194 ≤ at_ l i) (h1 : at_ l i ≤ 223) : Sz (l.drop i) = if tlB l (i + 1) 128 191 = true then 2 else 0 := by
  have e := tl_eq l i 1 128 191
  have a0 : at_ (l.drop i) 0 = at_ l i := at_drop l i 0
  rw [← a0] at h0 h1
  unfold Sz szN
  by_cases t : tlB l (i + 1) 128 191 = true
  · rw [if_pos t, if_neg (by omega), if_pos ⟨by omega, e.1 t⟩]
  · rw [if_neg t, if_neg (by omega), if_neg (fun x => t (e.2 x.2)), if_neg (by omega), if_neg (by omega)]
theorem Sz_three {l : List UInt8} {i : Nat} (h0 : 224 ≤ at_ l i) (h1 : at_ l i ≤ 239) {lo hi : Nat} (hl : loN (at_ l i) = lo) (hh : hiN (at_ l i) = hi) : Sz (l.drop i) = if tlB l (i + 1) lo hi = true ∧ tlB l (i + 2) 128 191 = true then 3 else 0 := by
  have e := tl_eq l i 1 lo hi
  have e2 := tl_eq l i 2 128 191
  have a0 : at_ (l.drop i) 0 = at_ l i := at_drop l i 0
  rw [← a0] at h0 h1 hl hh
  unfold Sz szN
  rw [hl, hh]
  by_cases t : tlB l (i + 1) lo hi = true ∧ tlB l (i + 2) 128 191 = true
  · rw [if_pos t, if_neg (by omega), if_neg (by omega), if_pos ⟨by omega, e.1 t.1, e2.1 t.2⟩]
  · rw [if_neg t, if_neg (by omega), if_neg (by omega), if_neg (fun x => t ⟨e.2 x.2.1, e2.2 x.2.2⟩), if_neg (by omega)]
theorem Sz_four {l : List UInt8} {i : Nat} (h0 : 240 ≤ at_ l i) (h1 : at_ l i ≤ 244) {lo hi : Nat} (hl : loN (at_ l i) = lo) (hh : hiN (at_ l i) = hi) : Sz (l.drop i) = if tlB l (i + 1) lo hi = true ∧ tlB l (i + 2) 128 191 = true ∧ tlB l (i + 3) 128 191 = true then 4 else 0 := by
  have e := tl_eq l i 1 lo hi
  have e2 := tl_eq l i 2 128 191
  have e3 := tl_eq l i 3 128 191
  have a0 : at_ (l.drop i) 0 = at_ l i := at_drop l i 0
  rw [← a0] at h0 h1 hl hh
  unfold Sz szN
  rw [hl, hh]
  by_cases t : tlB l (i + 1) lo hi = true ∧ tlB l (i + 2) 128 191 = true ∧ tlB l (i + 3) 128 191 = true
  · rw [if_pos t, if_neg (by omega), if_neg (by omega), if_neg (by omega), if_pos ⟨by omega, e.1 t.1, e2.1 t.2.1, e3.1 t.2.2⟩]
  · rw [if_neg t, if_neg (by omega), if_neg (by omega), if_neg (by omega), if_neg (fun x => t ⟨e.2 x.2.1, e2.2 x.2.2.1, e3.2 x.2.2.2⟩)]
theorem Sz_none {l : List UInt8} {i : Nat} (h0 : 128 ≤ at_ l i) (h1 : at_ l i < 194 ∨ 244 < at_ l i) : Sz (l.drop i) = 0 := by
  have a0 : at_ (l.drop i) 0 = at_ l i := at_drop l i 0
  rw [← a0] at h0 h1
  unfold Sz szN
  rw [if_neg (by omega), if_neg (by omega), if_neg (by omega), if_neg (by omega)]

set_option maxRecDepth 20000 in
theorem size_one (s : ByteArray) (i : Nat) (h : i < s.size) (hb : (s[i]'h).toNat < 128) (w : World) : Calls Tryz.prog 69 #[.string s, .int .i64 i] w fun r w' => r = .returned (.int .i64 1) ∧ w = w' := by
  go_enter Tryz.func69, Tryz.ntmps69
  go_wp2
  go_ret
  exact ⟨rfl, rfl⟩
set_option maxRecDepth 20000 in
theorem size_none (s : ByteArray) (i : Nat) (h : i < s.size) (h0 : 128 ≤ (s[i]'h).toNat) (h1 : (s[i]'h).toNat < 194 ∨ 244 < (s[i]'h).toNat) (w : World) : Calls Tryz.prog 69 #[.string s, .int .i64 i] w fun r w' => r = .returned (.int .i64 0) ∧ w = w' := by
  have b := (s[i]'h).toNat_lt
  generalize hc : (s[i]'h).toNat = c at *
  have t0 : decide ((c : Int) < 128) = false := decide_eq_false (by omega)
  have t1 : ((c : Int) == 224) = false := by rw [beq_eq_false_iff_ne]; omega
  have t2 : ((c : Int) == 237) = false := by rw [beq_eq_false_iff_ne]; omega
  have t3 : ((c : Int) == 240) = false := by rw [beq_eq_false_iff_ne]; omega
  have t4 : ((c : Int) == 244) = false := by rw [beq_eq_false_iff_ne]; omega
  rcases h1 with h1 | h1
  · go_enter Tryz.func69, Tryz.ntmps69
    go_wp2
    go_ret
    exact ⟨rfl, rfl⟩
  · go_enter Tryz.func69, Tryz.ntmps69
    go_wp2
    go_ret
    exact ⟨rfl, rfl⟩
set_option maxRecDepth 20000 in
theorem size_two (s : ByteArray) (hs : s.size ≤ 6000) (i : Nat) (h : i < s.size) (h0 : 194 ≤ (s[i]'h).toNat) (h1 : (s[i]'h).toNat ≤ 223) (w : World) : Calls Tryz.prog 69 #[.string s, .int .i64 i] w fun r w' => r = .returned (.int .i64 ((if tlB s.data.toList (i + 1) 128 191 = true then 2 else 0 : Nat) : Int)) ∧ w = w' := by
  have H := Lib.hid (fun W => tail_any s hs ((i : Int) + 1) (i + 1) (by omega) 128 191 W)
  have b := (s[i]'h).toNat_lt
  have hi2 : i < 6000 := by omega
  generalize hc : (s[i]'h).toNat = c at *
  have t0 : decide ((c : Int) < 128) = false := decide_eq_false (by omega)
  have t1 : ((c : Int) == 224) = false := by rw [beq_eq_false_iff_ne]; omega
  have t2 : ((c : Int) == 237) = false := by rw [beq_eq_false_iff_ne]; omega
  have t3 : ((c : Int) == 240) = false := by rw [beq_eq_false_iff_ne]; omega
  have t4 : ((c : Int) == 244) = false := by rw [beq_eq_false_iff_ne]; omega
  rcases hx : tlB s.data.toList (i + 1) 128 191 with _ | _
  all_goals
    rw [hx] at H
    clear hx hs
    go_enter Tryz.func69, Tryz.ntmps69
    go_wp2_with (go_at_call 83; with_reducible refine (H.out _).mono ?_; rintro e w' ⟨rfl, rfl⟩)
    go_ret
    exact ⟨rfl, rfl⟩
/-- The bounds of the second byte. -/
theorem bounds (c : Nat) : ∃ lo hi : Nat, loN c = lo ∧ hiN c = hi ∧ ((c = 224 ∧ lo = 160 ∧ hi = 191) ∨ (c = 237 ∧ lo = 128 ∧ hi = 159) ∨ (c = 240 ∧ lo = 144 ∧ hi = 191) ∨ (c = 244 ∧ lo = 128 ∧ hi = 143) ∨ ((c ≠ 224 ∧ c ≠ 237 ∧ c ≠ 240 ∧ c ≠ 244) ∧ lo = 128 ∧ hi = 191)) := by
  refine ⟨_, _, rfl, rfl, ?_⟩
  unfold loN hiN
  repeat' split
  all_goals omega
set_option maxRecDepth 20000 in
set_option maxHeartbeats 1000000 in
theorem size_three (s : ByteArray) (hs : s.size ≤ 6000) (i : Nat) (h : i < s.size) (h0 : 224 ≤ (s[i]'h).toNat) (h1 : (s[i]'h).toNat ≤ 239) (lo hi : Int) (hb : ((s[i]'h).toNat = 224 ∧ lo = 160 ∧ hi = 191) ∨ ((s[i]'h).toNat = 237 ∧ lo = 128 ∧ hi = 159) ∨ ((s[i]'h).toNat = 240 ∧ lo = 144 ∧ hi = 191) ∨ ((s[i]'h).toNat = 244 ∧ lo = 128 ∧ hi = 143) ∨ (((s[i]'h).toNat ≠ 224 ∧ (s[i]'h).toNat ≠ 237 ∧ (s[i]'h).toNat ≠ 240 ∧ (s[i]'h).toNat ≠ 244) ∧ lo = 128 ∧ hi = 191)) (w : World) : Calls Tryz.prog 69 #[.string s, .int .i64 i] w fun r w' => r = .returned (.int .i64 ((if tlB s.data.toList (i + 1) lo hi = true ∧ tlB s.data.toList (i + 2) 128 191 = true then 3 else 0 : Nat) : Int)) ∧ w = w' := by
  have H := Lib.hid (fun W => tail_any s hs ((i : Int) + 1) (i + 1) (by omega) lo hi W)
  have H2 := Lib.hid (fun W => tail_any s hs ((i : Int) + 2) (i + 2) (by omega) 128 191 W)
  have b := (s[i]'h).toNat_lt
  have hi2 : i < 6000 := by omega
  generalize hc : (s[i]'h).toNat = c at *
  have t0 : decide ((c : Int) < 128) = false := decide_eq_false (by omega)
  rcases hx : tlB s.data.toList (i + 1) lo hi with _ | _ <;> rcases hy : tlB s.data.toList (i + 2) 128 191 with _ | _
  all_goals
    rw [hx] at H
    rw [hy] at H2
    clear hx hy hs
    rcases hb with ⟨rfl, rfl, rfl⟩ | ⟨rfl, rfl, rfl⟩ | ⟨rfl, rfl, rfl⟩ | ⟨rfl, rfl, rfl⟩ | ⟨⟨n1, n2, n3, n4⟩, rfl, rfl⟩
    all_goals first | (exfalso; omega) | skip
    all_goals
      first
        | (have t1 : ((c : Int) == 224) = false := by rw [beq_eq_false_iff_ne]; omega
           have t2 : ((c : Int) == 237) = false := by rw [beq_eq_false_iff_ne]; omega
           have t3 : ((c : Int) == 240) = false := by rw [beq_eq_false_iff_ne]; omega
           have t4 : ((c : Int) == 244) = false := by rw [beq_eq_false_iff_ne]; omega)
        | skip
      go_enter Tryz.func69, Tryz.ntmps69
      go_wp2_with (first
        | (go_at_call 83; with_reducible refine (H.out _).mono ?_; rintro e w' ⟨rfl, rfl⟩)
        | (go_at_call 83; with_reducible refine (H2.out _).mono ?_; rintro e w' ⟨rfl, rfl⟩))
      go_ret
      exact ⟨rfl, rfl⟩
set_option maxRecDepth 20000 in
set_option maxHeartbeats 1000000 in
theorem size_four (s : ByteArray) (hs : s.size ≤ 6000) (i : Nat) (h : i < s.size) (h0 : 240 ≤ (s[i]'h).toNat) (h1 : (s[i]'h).toNat ≤ 244) (lo hi : Int) (hb : ((s[i]'h).toNat = 224 ∧ lo = 160 ∧ hi = 191) ∨ ((s[i]'h).toNat = 237 ∧ lo = 128 ∧ hi = 159) ∨ ((s[i]'h).toNat = 240 ∧ lo = 144 ∧ hi = 191) ∨ ((s[i]'h).toNat = 244 ∧ lo = 128 ∧ hi = 143) ∨ (((s[i]'h).toNat ≠ 224 ∧ (s[i]'h).toNat ≠ 237 ∧ (s[i]'h).toNat ≠ 240 ∧ (s[i]'h).toNat ≠ 244) ∧ lo = 128 ∧ hi = 191)) (w : World) : Calls Tryz.prog 69 #[.string s, .int .i64 i] w fun r w' => r = .returned (.int .i64 ((if tlB s.data.toList (i + 1) lo hi = true ∧ tlB s.data.toList (i + 2) 128 191 = true ∧ tlB s.data.toList (i + 3) 128 191 = true then 4 else 0 : Nat) : Int)) ∧ w = w' := by
  have H := Lib.hid (fun W => tail_any s hs ((i : Int) + 1) (i + 1) (by omega) lo hi W)
  have H2 := Lib.hid (fun W => tail_any s hs ((i : Int) + 2) (i + 2) (by omega) 128 191 W)
  have H3 := Lib.hid (fun W => tail_any s hs ((i : Int) + 3) (i + 3) (by omega) 128 191 W)
  have b := (s[i]'h).toNat_lt
  have hi2 : i < 6000 := by omega
  generalize hc : (s[i]'h).toNat = c at *
  have t0 : decide ((c : Int) < 128) = false := decide_eq_false (by omega)
  rcases hx : tlB s.data.toList (i + 1) lo hi with _ | _ <;> rcases hy : tlB s.data.toList (i + 2) 128 191 with _ | _ <;> rcases hz : tlB s.data.toList (i + 3) 128 191 with _ | _
  all_goals
    rw [hx] at H
    rw [hy] at H2
    rw [hz] at H3
    clear hx hy hz hs
    rcases hb with ⟨rfl, rfl, rfl⟩ | ⟨rfl, rfl, rfl⟩ | ⟨rfl, rfl, rfl⟩ | ⟨rfl, rfl, rfl⟩ | ⟨⟨n1, n2, n3, n4⟩, rfl, rfl⟩
    all_goals first | (exfalso; omega) | skip
    all_goals
      first
        | (have t1 : ((c : Int) == 224) = false := by rw [beq_eq_false_iff_ne]; omega
           have t2 : ((c : Int) == 237) = false := by rw [beq_eq_false_iff_ne]; omega
           have t3 : ((c : Int) == 240) = false := by rw [beq_eq_false_iff_ne]; omega
           have t4 : ((c : Int) == 244) = false := by rw [beq_eq_false_iff_ne]; omega)
        | skip
      go_enter Tryz.func69, Tryz.ntmps69
      go_wp2_with (first
        | (go_at_call 83; with_reducible refine (H.out _).mono ?_; rintro e w' ⟨rfl, rfl⟩)
        | (go_at_call 83; with_reducible refine (H2.out _).mono ?_; rintro e w' ⟨rfl, rfl⟩)
        | (go_at_call 83; with_reducible refine (H3.out _).mono ?_; rintro e w' ⟨rfl, rfl⟩))
      go_ret
      exact ⟨rfl, rfl⟩
/-- How many bytes the character at a place has. -/
theorem size_any (s : ByteArray) (hs : s.size ≤ 6000) (i : Nat) (h : i < s.size) (w : World) : Calls Tryz.prog 69 #[.string s, .int .i64 i] w fun r w' => r = .returned (.int .i64 (Sz (s.data.toList.drop i))) ∧ w = w' := by
  have e := at_get h
  by_cases c0 : (s[i]'h).toNat < 128
  · have hz : Sz (s.data.toList.drop i) = 1 := Sz_one (by omega)
    rw [hz]; exact size_one s i h c0 w
  by_cases c1 : (s[i]'h).toNat < 194
  · have hz : Sz (s.data.toList.drop i) = 0 := Sz_none (by omega) (by omega)
    rw [hz]; exact size_none s i h (by omega) (by omega) w
  by_cases c2 : (s[i]'h).toNat ≤ 223
  · rw [Sz_two (by omega) (by omega)]; exact size_two s hs i h (by omega) c2 w
  obtain ⟨lo, hi, hl, hh, hb⟩ := bounds (s[i]'h).toNat
  rw [← e] at hl hh
  by_cases c3 : (s[i]'h).toNat ≤ 239
  · have hz := Sz_three (l := s.data.toList) (i := i) (by omega) (by omega) hl hh
    rw [hz]
    exact size_three s hs i h (by omega) c3 (lo : Int) (hi : Int) (by clear hz hl hh; omega) w
  by_cases c4 : (s[i]'h).toNat ≤ 244
  · have hz := Sz_four (l := s.data.toList) (i := i) (by omega) (by omega) hl hh
    rw [hz]
    exact size_four s hs i h (by omega) c4 (lo : Int) (hi : Int) (by clear hz hl hh; omega) w
  · have hz : Sz (s.data.toList.drop i) = 0 := Sz_none (by omega) (by omega)
    rw [hz]; exact size_none s i h (by omega) (by omega) w
end Go.Proofs.YtndbgdapojkfaaaGreatDoor.Utf
