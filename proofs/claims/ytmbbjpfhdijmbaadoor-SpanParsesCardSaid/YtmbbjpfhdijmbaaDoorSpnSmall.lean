/- Contracts of span's small functions: cutSign, isSpan, isSecond, countDigits, number, part, twoDigits. -/
import Derived.Test.YtmbbjpfhdijmbaaDoorSpnPlain
import Derived.Test.YtmbbjpfhdijmbaaDoorShelf
import Derived.Test.YtmbbjpfhdijmbaaDoorChecked
import Derived.WalkKit
import Derived.Below
import Derived.Lib.Hide
import Derived.Lib.SmallJoins
namespace Go.Proofs.YtmbbjpfhdijmbaaDoor.Spn
open Go.RowKit

theorem getD {t : ByteArray} {k : Nat} (h : k < t.size) : t.data.toList[k]'(by simpa using h) = t[k] := by simp; rfl
theorem len_list (t : ByteArray) : t.data.toList.length = t.size := by simp
theorem data_mk (l : List UInt8) : (ByteArray.mk l.toArray).data.toList = l := by simp
theorem mk_list (s : ByteArray) : ByteArray.mk s.data.toList.toArray = s := by cases s; simp
theorem size_mk (l : List UInt8) : (ByteArray.mk l.toArray).size = l.length := by show l.toArray.size = _; simp

/-- A prefix of one letter. -/
theorem pre_one (l : List UInt8) (c : UInt8) : Lib.hasPrefix l (ByteArray.mk #[c]).data.toList = (l.head? == some c) := by
  cases l with
  | nil => rfl
  | cons b r =>
    show (c == b && _) = _
    simp [List.isPrefixOf, Bool.beq_comm]
theorem trim_one (l : List UInt8) (c : UInt8) : Lib.trimPrefix l (ByteArray.mk #[c]).data.toList = if l.head? = some c then l.tail else l := by
  unfold Lib.trimPrefix
  rw [pre_one]
  by_cases h : l.head? = some c
  · rw [if_pos (by simp [h]), if_pos h]
    show l.drop 1 = _
    simp
  · rw [if_neg (by simpa using h), if_neg h]
/-- What the library tells of a prefix of one letter. -/
theorem cut_one (s : ByteArray) (c : UInt8) (w : World) : Calls Tryd.prog 19 #[.string s, .string ⟨#[c]⟩] w fun r w' => r = .returned (.tuple #[.string ⟨(if s.data.toList.head? = some c then s.data.toList.tail else s.data.toList).toArray⟩, .bool (s.data.toList.head? == some c)]) ∧ w' = w := by
  have h := shCut s ⟨#[c]⟩ w
  rwa [pre_one, trim_one] at h
theorem lop_one (s : ByteArray) (c : UInt8) (w : World) : Calls Tryd.prog 30 #[.string s, .string ⟨#[c]⟩] w fun r w' => r = .returned (.string ⟨(if s.data.toList.head? = some c then s.data.toList.tail else s.data.toList).toArray⟩) ∧ w' = w := by
  have h := shLop s ⟨#[c]⟩ w
  rwa [trim_one] at h

theorem cutsign_any (s : ByteArray) (w : World) :
    Calls Tryd.prog 18 #[.string s] w fun r w' => r = .returned (.tuple #[.int .i64 (sgV s.data.toList), .string ⟨(sgR s.data.toList).toArray⟩]) ∧ w = w' := by
  have H1 := Lib.hid (fun W => cut_one s 45 W)
  have H2 := Lib.hid (fun W => lop_one s 43 W)
  by_cases h : s.data.toList.head? = some 45
  · have e1 : sgV s.data.toList = -1 := if_pos h
    have e2 : sgR s.data.toList = s.data.toList.tail := if_pos (Or.inl h)
    rw [if_pos h, h] at H1
    rw [e1, e2]
    clear e1 e2 h H2
    go_enter Tryd.func18, Tryd.ntmps18
    go_wp2_with (go_at_call 19; with_reducible refine (H1.out _).mono ?_; rintro e w' ⟨rfl, rfl⟩)
    go_ret2
    exact ⟨rfl, rfl⟩
  · have e1 : sgV s.data.toList = 1 := if_neg h
    have e2 : sgR s.data.toList = if s.data.toList.head? = some 43 then s.data.toList.tail else s.data.toList := by
      unfold sgR
      by_cases h2 : s.data.toList.head? = some 43
      · rw [if_pos (Or.inr h2), if_pos h2]
      · rw [if_neg (fun hx => hx.elim h h2), if_neg h2]
    rw [← e2] at H2
    rw [if_neg h, show (s.data.toList.head? == some 45) = false by simpa using h] at H1
    rw [e1]
    clear e1 e2 h
    go_enter Tryd.func18, Tryd.ntmps18
    go_wp2_with (first
      | (go_at_call 19; with_reducible refine (H1.out _).mono ?_; rintro e w' ⟨rfl, rfl⟩)
      | (go_at_call 30; with_reducible refine (H2.out _).mono ?_; rintro e w' ⟨rfl, rfl⟩))
    go_ret2
    exact ⟨rfl, rfl⟩

theorem isspan_any (n : Int) (w : World) : Calls Tryd.prog 21 #[.int .i64 n] w fun r w' => r = .returned (.bool (spI n)) ∧ w = w' := by
  have e : spI n = (decide (-86399913600 ≤ n) && decide (n ≤ 86399913600)) := rfl
  rw [e]
  by_cases c1 : -86399913600 ≤ n
  · have c3 : decide (-86399913600 ≤ n) = true := by simpa using c1
    rw [c3, Bool.true_and]
    clear e c3
    go_enter Tryd.func21, Tryd.ntmps21
    go_wp2
    go_ret
    exact ⟨rfl, rfl⟩
  · have c3 : decide (-86399913600 ≤ n) = false := by simpa using c1
    rw [c3, Bool.false_and]
    clear e
    go_enter Tryd.func21, Tryd.ntmps21
    go_wp2
    go_ret
    exact ⟨rfl, rfl⟩

theorem issec_any (n : Int) (w : World) : Calls Tryd.prog 27 #[.int .i64 n] w fun r w' => r = .returned (.bool (scI n)) ∧ w = w' := by
  have e : scI n = (decide (0 ≤ n) && decide (n ≤ 315537897599)) := rfl
  rw [e]
  by_cases c1 : 0 ≤ n
  · have c3 : decide (0 ≤ n) = true := by simpa using c1
    rw [c3, Bool.true_and]
    clear e c3
    go_enter Tryd.func27, Tryd.ntmps27
    go_wp2
    go_ret
    exact ⟨rfl, rfl⟩
  · have c3 : decide (0 ≤ n) = false := by simpa using c1
    rw [c3, Bool.false_and]
    clear e
    go_enter Tryd.func27, Tryd.ntmps27
    go_wp2
    go_ret
    exact ⟨rfl, rfl⟩

theorem dig_at {t : ByteArray} {k : Nat} (h : k < t.size) (hk : k ≤ cnt t.data.toList) (hd : 48 ≤ t[k].toNat ∧ t[k].toNat ≤ 57) : k + 1 ≤ cnt t.data.toList :=
  cnt_step (by simpa using h) hk (by rw [getD h, isDg_iff]; exact hd)
theorem end_at {t : ByteArray} {k : Nat} (h : k < t.size) (hk : k ≤ cnt t.data.toList) (hd : ¬ (48 ≤ t[k].toNat ∧ t[k].toNat ≤ 57)) : cnt t.data.toList = k :=
  cnt_end (by simpa using h) hk (by rw [getD h, isDg_no]; exact hd)
theorem full_at {t : ByteArray} (hk : t.size ≤ cnt t.data.toList) : cnt t.data.toList = t.size := by
  have := cnt_le t.data.toList
  simp at this
  omega

theorem count_any (s : ByteArray) (hs : s.size ≤ 100) (w : World) : Calls Tryd.prog 23 #[.string s] w fun r w' => r = .returned (.int .i64 (cnt s.data.toList)) ∧ w = w' := by
  go_enter Tryd.func23, Tryd.ntmps23
  go_wp2
  go_loop [3] (fun i => ∃ k : Nat, (k : Int) ≤ s.size ∧ i = .int .i64 k ∧ Hid (k ≤ cnt s.data.toList)) (fun i => (s.size - intOf i).toNat)
  case atStart => exact ⟨0, by omega, rfl, Lib.hid (Nat.zero_le _)⟩
  case round =>
    obtain ⟨k, hk, rfl, ha⟩ := hrel
    by_cases hlt : (k : Int) < s.size
    · have hi : k < s.size := by omega
      have HX := Lib.hid (fun hb => dig_at hi ha.out hb)
      have HY := Lib.hid (fun hb => end_at hi ha.out hb)
      by_cases c1 : 48 ≤ s[k].toNat
      · by_cases c2 : s[k].toNat ≤ 57
        · go_wp2
          go_round
          case rel => exact ⟨k + 1, by omega, by go_num, Lib.hid (HX.out (by omega))⟩
          case measure => simp [intOf]; omega
        · go_wp2
          go_ret
          exact ⟨by rw [HY.out (by omega)]; rfl, rfl⟩
      · go_wp2
        go_ret
        exact ⟨by rw [HY.out (by omega)]; rfl, rfl⟩
    · obtain rfl : k = s.size := by omega
      have HZ := Lib.hid (full_at ha.out)
      go_wp2
      go_ret
      exact ⟨by rw [HZ.out]; rfl, rfl⟩

theorem bytes_below (w : World) (t : TypeId) (s : ByteArray) : Below w.heap.size w (Lib.bytesWorld w t s) := Joins.below_bytesWorld _ w t s (Nat.le_refl _)
theorem grow_below (w : World) (k : Nat) (os : Array Obj) : Below w.heap.size w (Sort.grow (w.drewN k) os) :=
  (Joins.below_draws w.heap.size w k).trans ⟨rfl, rfl, rfl, by simp [Sort.grow], fun j hj => by
    show ((w.drewN k).heap ++ os)[j]? = _
    rw [Array.getElem?_append_left (show j < (w.drewN k).heap.size from hj)]⟩

theorem number_any (s : ByteArray) (hd : allD s.data.toList = true) (h1 : 1 ≤ s.size) (h2 : s.size ≤ 6) (w : World) :
    Calls Tryd.prog 24 #[.string s] w fun r w' => r = .returned (.int .i64 (dv s.data.toList)) ∧ Below w.heap.size w w' := by
  have H := Lib.hid (fun W => shAtoi s (dv s.data.toList) (by omega) (atoi_dv hd (by rw [len_list]; exact h1)) W)
  clear hd
  generalize dv s.data.toList = n at *
  go_enter Tryd.func24, Tryd.ntmps24
  go_wp2_with (go_at_call 37; with_reducible refine (H.out _).mono ?_; rintro e w' ⟨rfl, t, rfl⟩)
  go_ret
  exact ⟨rfl, bytes_below _ _ _⟩

theorem small_any (n : Int) (h0 : 0 ≤ n) (h1 : n < 100) (w : World) : Calls Tryd.prog 38 #[.int .i64 n] w fun r w' => r = .returned (.string ⟨(dec n).toArray⟩) ∧ w' = w := by
  obtain ⟨i, rfl⟩ : ∃ i : Nat, n = i := ⟨n.toNat, by omega⟩
  exact shSmall i (by omega) w
/-- The library's table of powers of ten lies there. -/
def PTab (w : World) : Prop := Lib.TabIs Tryd.prog w "internal/strconv.uint64pow10" .u64 Lib.pow10Tab
theorem itoa_any (n : Int) (h0 : 0 ≤ n) (h1 : n ≤ 9223372036854775807) (w : World) (hT : PTab w) : Calls Tryd.prog 38 #[.int .i64 n] w fun r w' => r = .returned (.string ⟨(dec n).toArray⟩) ∧ Below w.heap.size w w' := by
  refine (shItoa n (by omega) h1 w hT).mono ?_
  rintro e w' ⟨rfl, k, os, rfl⟩
  refine ⟨by unfold Lib.itoa dec; rw [if_neg (by omega)], grow_below _ _ _⟩
theorem gPow : Tryd.prog.globalNamed "internal/strconv.uint64pow10" = some 2 := by kernel_rfl
theorem ptab_below {w w' : World} (h : PTab w) (hb : Below w.heap.size w w') : PTab w' := by
  unfold PTab Lib.TabIs World.var? at h ⊢
  rw [gPow] at h ⊢
  simp only [Option.bind_some] at h ⊢
  have hlt : 2 < w.heap.size := by
    rcases Nat.lt_or_ge 2 w.heap.size with h' | h'
    · exact h'
    · rw [Array.getElem?_eq_none h'] at h; cases h
  rw [hb.block 2 hlt]
  exact h

theorem mk_app (a b : List UInt8) : ByteArray.mk a.toArray ++ ByteArray.mk b.toArray = ByteArray.mk (a ++ b).toArray := ByteArray.mk_append_mk a b
theorem mk_one (a : List UInt8) (c : UInt8) : ByteArray.mk a.toArray ++ ByteArray.mk #[c] = ByteArray.mk (a ++ [c]).toArray := ByteArray.mk_append_mk a [c]
theorem dec_len {n : Int} (h0 : 0 ≤ n) (h1 : n ≤ 999999) : 1 ≤ (dec n).length ∧ (dec n).length ≤ 6 := by
  unfold dec
  rw [Lib.decDigits_length]
  generalize hu : n.toNat = u
  have h : u < 1000000 := by omega
  clear hu h0 h1
  constructor
  · rw [Lib.nDigits]; split <;> omega
  · rw [Lib.nDigits]; split
    · omega
    rw [Lib.nDigits]; split
    · omega
    rw [Lib.nDigits]; split
    · omega
    rw [Lib.nDigits]; split
    · omega
    rw [Lib.nDigits]; split
    · omega
    rw [Lib.nDigits]; split
    · omega
    · omega
theorem part_any (n : Int) (c : UInt8) (h0 : 0 ≤ n) (h1 : n ≤ 999999) (w : World) (hT : PTab w) :
    Calls Tryd.prog 25 #[.int .i64 n, .string ⟨#[c]⟩] w fun r w' => r = .returned (.string ⟨(pt n c).toArray⟩) ∧ Below w.heap.size w w' := by
  by_cases h : n = 0
  · have e : pt n c = [] := if_pos h
    rw [e]
    clear e hT
    go_enter Tryd.func25, Tryd.ntmps25
    go_wp2
    go_ret
    exact ⟨rfl, Below.refl _ _⟩
  · have e : (ByteArray.mk (pt n c).toArray) = ByteArray.mk (dec n).toArray ++ ByteArray.mk #[c] := by rw [mk_one]; unfold pt; rw [if_neg h]
    have H := Lib.hid (fun W hW => itoa_any n h0 (by omega) W hW)
    have HL := Lib.hid (dec_len h0 h1)
    rw [e]
    clear e
    have hs : (ByteArray.mk (dec n).toArray).size ≤ 6 := by rw [size_mk]; exact HL.out.2
    generalize ByteArray.mk (dec n).toArray = t at *
    have HT := Lib.hid hT
    clear hT
    go_enter Tryd.func25, Tryd.ntmps25
    go_wp2_with (go_at_call 38; with_reducible refine (H.out _ HT.out).mono ?_; rintro e w1 ⟨rfl, hb⟩; have B1 := Lib.hid hb; clear hb)
    go_ret
    exact ⟨rfl, B1.out⟩
theorem dec_one {n : Int} (h0 : 0 ≤ n) (h1 : n < 10) : dec n = [dgt n] := by
  unfold dec dgt
  rw [Lib.decDigits, dif_pos (by omega)]
  congr 2
  omega
theorem two_any (n : Int) (h0 : 0 ≤ n) (h1 : n < 100) (w : World) :
    Calls Tryd.prog 28 #[.int .i64 n] w fun r w' => r = .returned (.string ⟨(two n).toArray⟩) ∧ w = w' := by
  have H1 := Lib.hid (fun W => small_any (n / 10) (by omega) (by omega) W)
  have H2 := Lib.hid (fun W => small_any (n % 10) (by omega) (by omega) W)
  have e1 : dec (n / 10) = [dgt (n / 10)] := dec_one (by omega) (by omega)
  have e2 : dec (n % 10) = [dgt n] := by rw [dec_one (by omega) (by omega)]; unfold dgt; rw [Int.emod_emod_of_dvd _ (Int.dvd_refl 10)]
  have e : (ByteArray.mk (two n).toArray) = ByteArray.mk #[dgt (n / 10)] ++ ByteArray.mk #[dgt n] := rfl
  rw [e1] at H1
  rw [e2] at H2
  rw [e]
  clear e1 e2 e
  have s1 : (ByteArray.mk [dgt (n / 10)].toArray).size = 1 := rfl
  have s2 : (ByteArray.mk [dgt n].toArray).size = 1 := rfl
  change _ = _ at s1
  generalize ByteArray.mk [dgt (n / 10)].toArray = a at *
  generalize ByteArray.mk [dgt n].toArray = b at *
  go_enter Tryd.func28, Tryd.ntmps28
  go_wp2_with (first
    | (go_at_call 38; with_reducible refine (H1.out _).mono ?_; rintro e w1 ⟨rfl, rfl⟩)
    | (go_at_call 38; with_reducible refine (H2.out _).mono ?_; rintro e w1 ⟨rfl, rfl⟩))
  go_ret
  exact ⟨rfl, rfl⟩
end Go.Proofs.YtmbbjpfhdijmbaaDoor.Spn
