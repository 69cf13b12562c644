/- Contracts of Put and Str of package octet. -/
import Derived.Test.YtcloakaenkhgpaaDoorOctetBytes
import Derived.Lib.BufferWrite
namespace Go.Proofs.YtcloakaenkhgpaaDoor.Oct
open Go.RowKit Go.Deep Go.Lib

theorem put_width (a : Option Addr) (len cap : Nat) (k n : Int) (w : World) (h : k < 1 ∨ 7 < k) :
    Calls Tryd.prog 49 #[.slice a len cap, .int .i64 k, .int .i64 n] w fun r w' => r = .returned (.tuple #[.slice none 0 0, .int .i64 2]) ∧ w = w' := by
  have H := Lib.hid h
  clear h
  go_enter Tryd.func49, Tryd.ntmps49
  go_wp2_with fail
  refine (isWidth_no k _ H.out).mono ?_
  rintro r w1 ⟨rfl, rfl⟩
  go_wp2
  go_ret2
  exact ⟨rfl, rfl⟩

theorem put_neg (a : Option Addr) (len cap : Nat) (k n : Int) (w : World) (h1 : 1 ≤ k) (h2 : k ≤ 7) (hn : n < 0) :
    Calls Tryd.prog 49 #[.slice a len cap, .int .i64 k, .int .i64 n] w fun r w' => r = .returned (.tuple #[.slice none 0 0, .int .i64 8]) ∧ w = w' := by
  go_enter Tryd.func49, Tryd.ntmps49
  go_wp2_with fail
  refine (isWidth_yes k _ h1 h2).mono ?_
  rintro r w1 ⟨rfl, rfl⟩
  go_wp2
  go_ret2
  exact ⟨rfl, rfl⟩

theorem shr_eq (n k : Nat) : (n : Int) / 2 ^ (8 * k) = ((n / 256 ^ k : Nat) : Int) := by
  rw [show (2 : Int) ^ (8 * k) = ((256 ^ k : Nat) : Int) from by rw [Int.pow_mul]; norm_cast]
  norm_cast
theorem shr_no {n k : Nat} (h : n < 256 ^ k) : ((n : Int) / 2 ^ (8 * k) != 0) = false := by
  rw [shr_eq, Nat.div_eq_of_lt h]; rfl
theorem shr_yes {n k : Nat} (h : 256 ^ k ≤ n) : ((n : Int) / 2 ^ (8 * k) != 0) = true := by
  rw [shr_eq]
  have h2 := Nat.div_pos h (Nat.pow_pos (by omega))
  generalize n / 256 ^ k = m at *
  simp
  omega

theorem put_big (a : Option Addr) (len cap : Nat) (k n : Nat) (w : World) (h1 : 1 ≤ k) (h2 : k ≤ 7) (hn : 256 ^ k ≤ n) (hn2 : n < 9223372036854775808) :
    Calls Tryd.prog 49 #[.slice a len cap, .int .i64 k, .int .i64 n] w fun r w' => r = .returned (.tuple #[.slice none 0 0, .int .i64 8]) ∧ w = w' := by
  have hd := shr_yes hn
  have hd' : decide ((n : Int) < 0) = false := by simp
  clear hn
  go_enter Tryd.func49, Tryd.ntmps49
  go_wp2_with fail
  refine (isWidth_yes k _ (by omega) (by omega)).mono ?_
  rintro r w1 ⟨rfl, rfl⟩
  go_wp2_with fail
  go_ret2
  exact ⟨rfl, rfl⟩

theorem layed_end (l : List UInt8) (len k n : Nat) (h : l.length = len) : layed (l ++ List.replicate k 0) (len + k) k n = l ++ beB k n := by
  subst h
  simp [layed]

theorem layed_mid (l : List UInt8) (len k m n : Nat) (h : l.length = len) : layed (l ++ List.replicate (k + m) 0) (len + k) k n = l ++ (beB k n ++ List.replicate m 0) := by
  subst h
  simp [layed]
theorem take_mid (l : List UInt8) (len k m n : Nat) (h : l.length = len) : (l ++ (beB k n ++ List.replicate m (0 : UInt8))).take (len + k) = l ++ beB k n := by
  subst h
  rw [← List.append_assoc, List.take_append_of_le_length (by simp [beB_length]), List.take_of_length_le (by simp [beB_length])]

set_option maxHeartbeats 400000 in
theorem put_ok (a : Option Addr) (len cap : Nat) (l : List UInt8) (k n : Nat) (w : World) (hR : Reads w a len l) (hm : len ≤ 140737488355000) (h1 : 1 ≤ k) (h2 : k ≤ 7) (hn : n < 256 ^ k) (hn2 : n < 9223372036854775808) :
    Calls Tryd.prog 49 #[.slice a len cap, .int .i64 k, .int .i64 n] w fun r w' => r = .returned (.tuple #[.slice (some ⟨w.heap.size, 0, none⟩) (len + k) (len + k), .int .i64 0]) ∧ Row w' w.heap.size (l ++ beB k n) ∧ Below w.heap.size w w' := by
  have hd := shr_no hn
  have hd' : decide ((n : Int) < 0) = false := by simp
  have hll := Lib.hid hR.1
  have HR := Lib.hid hR
  clear hn hR
  go_enter Tryd.func49, Tryd.ntmps49
  go_wp2_with fail
  refine (isWidth_yes k _ (by omega) (by omega)).mono ?_
  rintro r w1 ⟨rfl, rfl⟩
  go_wp2_with fail
  refine (grown_any a len cap k l _ HR.out (by omega)).mono ?_
  rintro r w1 ⟨rfl, hrow, hb⟩
  have HW := Lib.hid hrow
  have HB := Lib.hid hb
  clear hrow hb
  go_wp2_with fail
  refine (lay_any w.heap.size len k k n (l ++ List.replicate k 0) _ HW.out (by simp [hll.out]) (by simp [hll.out]; omega) hn2).mono ?_
  rintro r w2 ⟨rfl, hrow, hb⟩
  rw [layed_end l len k n hll.out] at hrow
  have HW2 := Lib.hid hrow
  have HB2 := Lib.hid (HB.out.trans hb)
  clear hrow hb HW HB
  go_wp2
  go_ret2
  exact ⟨rfl, HW2.out, HB2.out⟩

/-- A copy of a string over the end of a row. -/
theorem copy_end {W : World} {g off : Nat} {cur : List UInt8} {s : ByteArray} (hg : Row W g cur) (hc : cur.length = off + s.size) (d : Nat) (hd : d = s.size) :
    ∃ w1, (Builtin.copy_ #[55, 9] 3 #[.slice (some ⟨g, off, none⟩) d d, .string s]).run Tryd.prog W = .ok (.int .i64 s.size) w1 ∧ Row w1 g (cur.take off ++ s.data.toList) ∧ Below g W w1 := by
  subst hd
  have hrun := run_copy_row_string (P := Tryd.prog) W 55 9 3 5 g off s.size s.size s (bv cur).toArray 5 Tryd.underlying55 Tryd.size5 hg (Nat.le_refl _) (by simp [bv_length, hc])
  refine ⟨W.setRow g (bv (cur.take off ++ s.data.toList)).toArray, hrun.trans ?_, setRow_heap W g _ _ 5 _ hg, below_setRow (Below.refl _ _) (Nat.le_refl _) _⟩
  have e : (bv cur).drop (off + s.size) = [] := by rw [List.drop_eq_nil_iff, bv_length]; omega
  simp only [goInt, e, List.append_nil]
  rw [bv_append]
  simp [bv, byteCells]

end Go.Proofs.YtcloakaenkhgpaaDoor.Oct
