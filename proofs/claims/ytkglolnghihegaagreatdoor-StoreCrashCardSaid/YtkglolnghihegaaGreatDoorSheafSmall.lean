/- Small contracts of package sheaf and of the document's answer: Count, Longest, whether a head may be, a number behind bytes, a number at a place. -/
import Derived.Test.YtkglolnghihegaaGreatDoorDskA
import Derived.Test.YtkglolnghihegaaGreatDoorOctR
import Derived.Test.YtkglolnghihegaaGreatDoorOct
import Derived.Lib.Hide
namespace Go.Proofs.YtkglolnghihegaaGreatDoor.Shf
open Go.RowKit Go.Proofs.YtkglolnghihegaaGreatDoor.Oct

/-- How many parts a text of n bytes takes. -/
def cntR (n : Int) : Int := if 0 ≤ n ∧ n ≤ 16000 then (n + 44) / 37 else 0
/-- The longest text of so many sheets. -/
def longR (n : Int) : Int := if n < 1 then 0 else if 433 ≤ n then 16000 else n * 37 - 8

theorem count_any (n : Int) (w : World) :
    Calls Tryz.prog 81 #[.int .i64 n] w fun r w' => r = .returned (.int .i64 (cntR n)) ∧ w = w' := by
  unfold cntR
  by_cases h : n < 0
  · rw [if_neg (by omega)]
    go_enter Tryz.func81, Tryz.ntmps81
    go_wp2
    go_ret
    exact ⟨rfl, rfl⟩
  · by_cases h2 : 16000 < n
    · rw [if_neg (by omega)]
      go_enter Tryz.func81, Tryz.ntmps81
      go_wp2
      go_ret
      exact ⟨rfl, rfl⟩
    · rw [if_pos (by omega)]
      have e : (8 + n + 37 - 1) / 37 = (n + 44) / 37 := by congr 1; omega
      go_enter Tryz.func81, Tryz.ntmps81
      go_wp2
      go_ret
      refine ⟨?_, rfl⟩
      first | rfl | rw [e] | (congr 2; omega)

theorem rcount_any (n : Int) (w : World) :
    Calls Tryz.prog 83 #[.int .i64 n] w fun r w' => r = .returned (.int .i64 (cntR n)) ∧ w = w' := by
  unfold cntR
  by_cases h : n < 0
  · rw [if_neg (by omega)]
    go_enter Tryz.func83, Tryz.ntmps83
    go_wp2
    go_ret
    exact ⟨rfl, rfl⟩
  · by_cases h2 : 16000 < n
    · rw [if_neg (by omega)]
      go_enter Tryz.func83, Tryz.ntmps83
      go_wp2
      go_ret
      exact ⟨rfl, rfl⟩
    · rw [if_pos (by omega)]
      go_enter Tryz.func83, Tryz.ntmps83
      go_wp2
      go_loop [3] (fun k => ∃ z : Int, 1 ≤ z ∧ (z - 1) * 37 < n + 8 ∧ k = .int .i64 z) (fun k => (n + 8 - (intOf k - 1) * 37).toNat)
      case atStart => exact ⟨1, by omega, by omega, rfl⟩
      case round =>
        obtain ⟨z, hz1, hz2, rfl⟩ := hrel
        by_cases hlt : z * 37 < n + 8
        · go_wp2
          go_round
          case rel => exact ⟨z + 1, by omega, by omega, rfl⟩
          case measure => simp [intOf]; omega
        · go_wp2
          go_ret
          refine ⟨?_, rfl⟩
          rw [show (n + 44) / 37 = z from by omega]
          rfl

theorem longest_any (n : Int) (w : World) :
    Calls Tryz.prog 94 #[.int .i64 n] w fun r w' => r = .returned (.int .i64 (longR n)) ∧ w = w' := by
  have HC := Lib.hid (fun W => count_any 16000 W)
  rw [show cntR 16000 = 433 from by decide] at HC
  unfold longR
  by_cases h : n < 1
  · rw [if_pos h]
    go_enter Tryz.func94, Tryz.ntmps94
    go_wp2
    go_ret
    exact ⟨rfl, rfl⟩
  · rw [if_neg h]
    by_cases h2 : 433 ≤ n
    · rw [if_pos h2]
      go_enter Tryz.func94, Tryz.ntmps94
      go_wp2_with (go_at_call 81; with_reducible refine (HC.out _).mono ?_; rintro e w' ⟨rfl, rfl⟩)
      all_goals (go_ret; exact ⟨rfl, rfl⟩)
    · rw [if_neg h2]
      go_enter Tryz.func94, Tryz.ntmps94
      go_wp2_with (go_at_call 81; with_reducible refine (HC.out _).mono ?_; rintro e w' ⟨rfl, rfl⟩)
      go_ret
      exact ⟨rfl, rfl⟩

/-- A head's value. -/
abbrev HV (k : Nat) (g n : Int) : Value := .agg #[.int .u8 k, .int .i64 g, .int .i64 n]
/-- May a head be? -/
def fineH (g n : Int) : Bool := decide (1 ≤ g) && (decide (g ≤ 1099511627776) && (decide (0 ≤ n) && decide (n ≤ 4294967295)))

theorem mayBe_any (k : Nat) (g n : Int) (w : World) :
    Calls Tryz.prog 147 #[HV k g n] w fun r w' => r = .returned (.bool (fineH g n)) ∧ Below w.heap.size w w' := by
  unfold fineH
  rcases hb1 : decide (1 ≤ g) with _ | _ <;> rcases hb2 : decide (g ≤ 1099511627776) with _ | _ <;> rcases hb3 : decide (0 ≤ n) with _ | _ <;> rcases hb4 : decide (n ≤ 4294967295) with _ | _ <;>
  · go_enter Tryz.func147, Tryz.ntmps147
    go_wp2
    go_ret
    exact ⟨rfl, (Below.refl _ _).push _⟩

theorem fine_any (k : Nat) (g n : Int) (w : World) :
    Calls Tryz.prog 133 #[HV k g n] w fun r w' => r = .returned (.bool (fineH g n)) ∧ Below w.heap.size w w' := by
  unfold fineH
  rcases hb1 : decide (1 ≤ g) with _ | _ <;> rcases hb2 : decide (g ≤ 1099511627776) with _ | _ <;> rcases hb3 : decide (0 ≤ n) with _ | _ <;> rcases hb4 : decide (n ≤ 4294967295) with _ | _ <;>
  · go_enter Tryz.func133, Tryz.ntmps133
    go_wp2
    go_ret
    exact ⟨rfl, (Below.refl _ _).push _⟩

/-- What a number behind bytes answers. -/
def RetL (w : World) (l : List UInt8) (r : Ending) (w' : World) : Prop :=
  ∃ v, r = .returned v ∧ OwnB w' w.heap.size v l ∧ Below w.heap.size w w'

theorem laid_any (a : Option Addr) (len cap : Nat) (l : List UInt8) (k n : Nat) (w : World) (hR : Reads w a len l) (hm : len ≤ 100) (h1 : 1 ≤ k) (h2 : k ≤ 7) (hn : n < 256 ^ k) (hn2 : n < 9223372036854775808) :
    Calls Tryz.prog 169 #[.slice a len cap, .int .i64 k, .int .i64 n] w (RetL w (l ++ beB k n)) := by
  have hl := hR.1
  have H := Lib.hid (put_ok a len cap l k n w hR (by omega) h1 h2 hn hn2)
  clear hR h1 hn hn2
  go_enter Tryz.func169, Tryz.ntmps169
  go_wp2_with fail
  refine H.out.mono ?_
  rintro r w' ⟨rfl, h3, h4⟩
  go_wp2
  go_ret
  have := h3.own (Nat.le_refl _) (by simp [beB_length]; omega)
  rw [List.length_append, beB_length, hl] at this
  exact ⟨_, rfl, this, h4⟩

theorem rput_l (a : Option Addr) (len cap : Nat) (l : List UInt8) (k n : Nat) (w : World) (hR : Reads w a len l) (hm : len ≤ 100) (h1 : 1 ≤ k) (h2 : k ≤ 7) (hn : n < 256 ^ k) (hn2 : n < 9223372036854775808) :
    Calls Tryz.prog 140 #[.slice a len cap, .int .i64 k, .int .i64 n] w (RetL w (l ++ beB k n)) := by
  have H := Lib.hid (rput_ok a len cap l k n w hR (by omega) h1 h2 hn hn2)
  clear hR hm h1 h2 hn hn2
  go_enter Tryz.func140, Tryz.ntmps140
  go_wp2_with fail
  refine H.out.mono ?_
  rintro r w' ⟨v, rfl, h3, h4⟩
  go_wp2
  go_ret
  exact ⟨_, rfl, h3, h4⟩

theorem number_any (s : ByteArray) (p n : Int) (w : World) (hs : s.size ≤ maxLen) (h1 : 0 ≤ p) (h2 : p + n ≤ s.size) (h3 : 1 ≤ n) (h4 : n ≤ 7) :
    Calls Tryz.prog 110 #[.string s, .int .i64 p, .int .i64 n] w fun r w' => r = .returned (.int .i64 (numAt s p n.toNat)) ∧ Below w.heap.size w w' := by
  have H := Lib.hid (fun W => rnum_ok s p n W hs h1 h2 h3 h4)
  clear hs h1 h2 h3 h4
  go_enter Tryz.func110, Tryz.ntmps110
  go_wp2_with fail
  with_reducible refine (H.out _).mono ?_
  rintro r w' ⟨rfl, hb⟩
  have HB := Lib.hid hb
  clear hb H
  go_wp2
  go_ret
  exact ⟨rfl, HB.out.push _⟩

end Go.Proofs.YtkglolnghihegaaGreatDoor.Shf
