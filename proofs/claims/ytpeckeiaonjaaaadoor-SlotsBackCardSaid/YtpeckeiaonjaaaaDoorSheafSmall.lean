/- Small contracts of package sheaf and of the document's answer: Count, Longest, whether a head may be, a number behind bytes, a number at a place. -/
import Derived.Test.YtpeckeiaonjaaaaDoorDskA
import Derived.Test.YtpeckeiaonjaaaaDoorOctetRefPut
import Derived.Test.YtpeckeiaonjaaaaDoorOctetRefCur
import Derived.Test.YtpeckeiaonjaaaaDoorOct
import Derived.Lib.Hide
namespace Go.Proofs.YtpeckeiaonjaaaaDoor.Shf
open Go.RowKit Go.Proofs.YtpeckeiaonjaaaaDoor.Oct

/-- How many parts a text of n bytes takes. -/
def cntR (n : Int) : Int := if 0 ≤ n ∧ n ≤ 16000 then (n + 44) / 37 else 0
/-- The longest text of so many sheets. -/
def longR (n : Int) : Int := if n < 1 then 0 else if 433 ≤ n then 16000 else n * 37 - 8

theorem count_any (n : Int) (w : World) :
    Calls Tryd.prog 46 #[.int .i64 n] w fun r w' => r = .returned (.int .i64 (cntR n)) ∧ w = w' := by
  unfold cntR
  by_cases h : n < 0
  · rw [if_neg (by omega)]
    go_enter Tryd.func46, Tryd.ntmps46
    go_wp2
    go_ret
    exact ⟨rfl, rfl⟩
  · by_cases h2 : 16000 < n
    · rw [if_neg (by omega)]
      go_enter Tryd.func46, Tryd.ntmps46
      go_wp2
      go_ret
      exact ⟨rfl, rfl⟩
    · rw [if_pos (by omega)]
      have e : (8 + n + 37 - 1) / 37 = (n + 44) / 37 := by congr 1; omega
      go_enter Tryd.func46, Tryd.ntmps46
      go_wp2
      go_ret
      refine ⟨?_, rfl⟩
      first | rfl | rw [e] | (congr 2; omega)

theorem longest_any (n : Int) (w : World) :
    Calls Tryd.prog 27 #[.int .i64 n] w fun r w' => r = .returned (.int .i64 (longR n)) ∧ w = w' := by
  have HC := Lib.hid (fun W => count_any 16000 W)
  rw [show cntR 16000 = 433 from by decide] at HC
  unfold longR
  by_cases h : n < 1
  · rw [if_pos h]
    go_enter Tryd.func27, Tryd.ntmps27
    go_wp2
    go_ret
    exact ⟨rfl, rfl⟩
  · rw [if_neg h]
    by_cases h2 : 433 ≤ n
    · rw [if_pos h2]
      go_enter Tryd.func27, Tryd.ntmps27
      go_wp2_with (go_at_call 46; with_reducible refine (HC.out _).mono ?_; rintro e w' ⟨rfl, rfl⟩)
      all_goals (go_ret; exact ⟨rfl, rfl⟩)
    · rw [if_neg h2]
      go_enter Tryd.func27, Tryd.ntmps27
      go_wp2_with (go_at_call 46; with_reducible refine (HC.out _).mono ?_; rintro e w' ⟨rfl, rfl⟩)
      go_ret
      exact ⟨rfl, rfl⟩

/-- A head's value. -/
abbrev HV (k : Nat) (g n : Int) : Value := .agg #[.int .u8 k, .int .i64 g, .int .i64 n]
/-- May a head be? -/
def fineH (g n : Int) : Bool := decide (1 ≤ g) && (decide (g ≤ 1099511627776) && (decide (0 ≤ n) && decide (n ≤ 4294967295)))

theorem mayBe_any (k : Nat) (g n : Int) (w : World) :
    Calls Tryd.prog 42 #[HV k g n] w fun r w' => r = .returned (.bool (fineH g n)) ∧ Below w.heap.size w w' := by
  unfold fineH
  rcases hb1 : decide (1 ≤ g) with _ | _ <;> rcases hb2 : decide (g ≤ 1099511627776) with _ | _ <;> rcases hb3 : decide (0 ≤ n) with _ | _ <;> rcases hb4 : decide (n ≤ 4294967295) with _ | _ <;>
  · go_enter Tryd.func42, Tryd.ntmps42
    go_wp2
    go_ret
    exact ⟨rfl, (Below.refl _ _).push _⟩

/-- What a number behind bytes answers. -/
def RetL (w : World) (l : List UInt8) (r : Ending) (w' : World) : Prop :=
  ∃ v, r = .returned v ∧ OwnB w' w.heap.size v l ∧ Below w.heap.size w w'

theorem laid_any (a : Option Addr) (len cap : Nat) (l : List UInt8) (k n : Nat) (w : World) (hR : Reads w a len l) (hm : len ≤ 100) (h1 : 1 ≤ k) (h2 : k ≤ 7) (hn : n < 256 ^ k) (hn2 : n < 9223372036854775808) :
    Calls Tryd.prog 82 #[.slice a len cap, .int .i64 k, .int .i64 n] w (RetL w (l ++ beB k n)) := by
  have hl := hR.1
  have H := Lib.hid (put_ok a len cap l k n w hR (by omega) h1 h2 hn hn2)
  clear hR h1 hn hn2
  go_enter Tryd.func82, Tryd.ntmps82
  go_wp2_with fail
  refine H.out.mono ?_
  rintro r w' ⟨rfl, h3, h4⟩
  go_wp2
  go_ret
  have := h3.own (Nat.le_refl _) (by simp [beB_length]; omega)
  rw [List.length_append, beB_length, hl] at this
  exact ⟨_, rfl, this, h4⟩

end Go.Proofs.YtpeckeiaonjaaaaDoor.Shf
