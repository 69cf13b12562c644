/- Contracts of poured and laid of package slots. -/
import Derived.Test.YtkglolnghihegaaGreatDoorSlotsSmall
import Derived.Test.YtkglolnghihegaaGreatDoorSheafLay
import Derived.Test.YtkglolnghihegaaGreatDoorSheetSeal
import Derived.Test.YtkglolnghihegaaGreatDoorDskB
namespace Go.Proofs.YtkglolnghihegaaGreatDoor.Slt
open Go.RowKit Go.Proofs.YtkglolnghihegaaGreatDoor.Dsk Go.Proofs.YtkglolnghihegaaGreatDoor.Sht Go.Proofs.YtkglolnghihegaaGreatDoor.Shf
open Go.Proofs.YtkglolnghihegaaGreatDoor.Crc (Tab)

/-- What stands against a text ahead of the first put. -/
def pourE (S : List ByteArray) (W : List Wr) (f p q : Int) (k : Nat) (g n st : Int) (t : ByteArray) : Int :=
  if okS S W f p q = true then
    (if errL g n t = 0 then
      (if ((layS k g n t).length : Int) ≤ q - p then (if 1 ≤ st ∧ st ≤ 1099511627776 - (((layS k g n t).length : Int) - 1) then 0 else 8) else 7)
    else errL g n t)
  else 2
def pourB (S : List ByteArray) (W : List Wr) (f p q : Int) (k : Nat) (g n st : Int) (t : ByteArray) : List ByteArray := if pourE S W f p q k g n st t = 0 then layS k g n t else []

/-- What is answered: a slice of texts, and an error. -/
def RetTE (w : World) (L : List ByteArray) (e : Int) (r : Ending) (w' : World) : Prop := ∃ A m c, r = .returned (.tuple #[.slice A m c, .int .i64 e]) ∧ RV w' A m 1 (SV L) ∧ Below w.heap.size w w'
theorem RetTE.no {w w' : World} {e : Int} (hb : Below w.heap.size w w') : RetTE w [] e (.returned (.tuple #[.slice none 0 0, .int .i64 e])) w' := ⟨none, 0, 0, rfl, RV.nil _ _ _, hb⟩

theorem poured_no (A : Option Addr) (n c : Nat) (A' : Option Addr) (m c' : Nat) (f : Int) (S : List ByteArray) (V : List Wr) (p q : Int) (k : Nat) (g no st : Int) (t : ByteArray) (w : World) (hD : Dev w A n c A' m c' f S V) (h : okS S V f p q = false) :
    Calls Tryz.prog 115 #[DV A n c A' m c' f, .int .i64 p, .int .i64 q, HV k g no, .int .i64 st, .string t] w (RetTE w [] 2) := by
  have HC := Lib.hid (isStretch_any A n c A' m c' f S V p q _ ((hD.new (D33 A n c A' m c' f)).new (.cells #[.int .u8 k, .int .i64 g, .int .i64 no] 132)))
  rw [h] at HC
  clear hD h
  go_enter Tryz.func115, Tryz.ntmps115
  go_wp2_with (go_at_call 104; ((with_reducible refine HC.out.mono ?_); rintro e w1 ⟨rfl, hb1⟩; have HB := Lib.hid hb1; clear hb1))
  go_ret2
  exact RetTE.no (((new1 _ _).push _).call HB.out)

theorem poured_yes (A : Option Addr) (n c : Nat) (A' : Option Addr) (m c' : Nat) (f : Int) (S : List ByteArray) (V : List Wr) (p q : Int) (k : Nat) (g no st : Int) (t : ByteArray) (w : World) (hD : Dev w A n c A' m c' f S V) (hk : k < 256) (hT : Tab w) (h : okS S V f p q = true)
    (E : Int) (hE : pourE S V f p q k g no st t = E) :
    Calls Tryz.prog 115 #[DV A n c A' m c' f, .int .i64 p, .int .i64 q, HV k g no, .int .i64 st, .string t] w (RetTE w (if E = 0 then layS k g no t else []) E) := by
  have HC := Lib.hid (isStretch_any A n c A' m c' f S V p q _ ((hD.new (D33 A n c A' m c' f)).new (.cells #[.int .u8 k, .int .i64 g, .int .i64 no] 132)))
  rw [h] at HC
  unfold pourE at hE
  rw [if_pos h] at hE
  obtain ⟨-, hp1, hp2, hp3⟩ := okS_yes h
  have hns : (S.length : Int) ≤ 2000 := by have := hD.ns; omega
  have HL := Lib.hid (fun W hT => lay_any k g no t W hk hT)
  have HT := Lib.hid hT
  unfold RetLay at HL
  have hlen : ((layS k g no t).length : Int) ≤ 2000 := by
    unfold layS
    split
    · rename_i he
      have : (t.size : Int) ≤ 16000 := by
        unfold errL at he
        split at he
        · split at he
          · assumption
          · omega
        · omega
      unfold bodiesT cntN; simp; omega
    · simp
  generalize errL g no t = el at *
  generalize layS k g no t = bs at *
  obtain ⟨N, hN⟩ : ∃ N, bs.length = N := ⟨_, rfl⟩
  rw [hN] at hE hlen
  have HN := Lib.hid hN
  clear hD h hk hT hN
  by_cases he : el = 0
  · subst he
    rw [if_pos rfl] at hE
    by_cases h1 : (N : Int) ≤ q - p
    · rw [if_pos h1] at hE
      by_cases h2 : 1 ≤ st ∧ st ≤ 1099511627776 - ((N : Int) - 1)
      · rw [if_pos h2] at hE
        subst hE
        obtain ⟨h2, h3⟩ := h2
        go_enter Tryz.func115, Tryz.ntmps115
        go_wp2_with fail
        with_reducible refine HC.out.mono ?_
        rintro r w1 ⟨rfl, b1⟩
        have HB1 := Lib.hid (((new1 w _).push _).call b1)
        obtain ⟨c0, c1, c2, -, -, -⟩ := (by have := (Box.new (w.alloc (D33 A n c A' m c' f)) (.int .u8 k) (.int .i64 g) (.int .i64 no) 132).call b1; rwa [World.size_alloc] at this : Box w1 (w.heap.size + 1) (.int .u8 k) (.int .i64 g) (.int .i64 no))
        clear b1
        go_wp2_with fail
        with_reducible refine (HL.out _ (Shf.tab_call HT.out HB1.out)).mono ?_
        rintro r w2 ⟨A2, m2, c2', rfl, hr2, b2, -⟩
        have HB2 := Lib.hid (HB1.out.call b2)
        obtain rfl : N = m2 := by rw [← HN.out]; exact hr2.sec
        have HR := Lib.hid hr2
        clear b2 hr2 HL HC HT HB1 c0 c1 c2
        go_wp2
        go_ret2
        exact ⟨A2, N, c2', rfl, HR.out, HB2.out⟩
      · rw [if_neg h2] at hE
        subst hE
        by_cases h3 : st < 1
        · clear h2
          go_enter Tryz.func115, Tryz.ntmps115
          go_wp2_with fail
          with_reducible refine HC.out.mono ?_
          rintro r w1 ⟨rfl, b1⟩
          have HB1 := Lib.hid (((new1 w _).push _).call b1)
          obtain ⟨c0, c1, c2, -, -, -⟩ := (by have := (Box.new (w.alloc (D33 A n c A' m c' f)) (.int .u8 k) (.int .i64 g) (.int .i64 no) 132).call b1; rwa [World.size_alloc] at this : Box w1 (w.heap.size + 1) (.int .u8 k) (.int .i64 g) (.int .i64 no))
          clear b1
          go_wp2_with fail
          with_reducible refine (HL.out _ (Shf.tab_call HT.out HB1.out)).mono ?_
          rintro r w2 ⟨A2, m2, c2', rfl, hr2, b2, -⟩
          have HB2 := Lib.hid (HB1.out.call b2)
          obtain rfl : N = m2 := by rw [← HN.out]; exact hr2.sec
          have HR := Lib.hid hr2
          clear b2 hr2 HL HC HT HB1 c0 c1 c2
          go_wp2
          go_ret2
          exact RetTE.no HB2.out
        · have h4 : 1099511627776 - ((N : Int) - 1) < st := by omega
          have h5 : 1 ≤ st := by omega
          clear h2 h3
          go_enter Tryz.func115, Tryz.ntmps115
          go_wp2_with fail
          with_reducible refine HC.out.mono ?_
          rintro r w1 ⟨rfl, b1⟩
          have HB1 := Lib.hid (((new1 w _).push _).call b1)
          obtain ⟨c0, c1, c2, -, -, -⟩ := (by have := (Box.new (w.alloc (D33 A n c A' m c' f)) (.int .u8 k) (.int .i64 g) (.int .i64 no) 132).call b1; rwa [World.size_alloc] at this : Box w1 (w.heap.size + 1) (.int .u8 k) (.int .i64 g) (.int .i64 no))
          clear b1
          go_wp2_with fail
          with_reducible refine (HL.out _ (Shf.tab_call HT.out HB1.out)).mono ?_
          rintro r w2 ⟨A2, m2, c2', rfl, hr2, b2, -⟩
          have HB2 := Lib.hid (HB1.out.call b2)
          obtain rfl : N = m2 := by rw [← HN.out]; exact hr2.sec
          have HR := Lib.hid hr2
          clear b2 hr2 HL HC HT HB1 c0 c1 c2
          go_wp2
          go_ret2
          exact RetTE.no HB2.out
    · rw [if_neg h1] at hE
      subst hE
      have h1 : q - p < (N : Int) := by omega
      go_enter Tryz.func115, Tryz.ntmps115
      go_wp2_with fail
      with_reducible refine HC.out.mono ?_
      rintro r w1 ⟨rfl, b1⟩
      have HB1 := Lib.hid (((new1 w _).push _).call b1)
      obtain ⟨c0, c1, c2, -, -, -⟩ := (by have := (Box.new (w.alloc (D33 A n c A' m c' f)) (.int .u8 k) (.int .i64 g) (.int .i64 no) 132).call b1; rwa [World.size_alloc] at this : Box w1 (w.heap.size + 1) (.int .u8 k) (.int .i64 g) (.int .i64 no))
      clear b1
      go_wp2_with fail
      with_reducible refine (HL.out _ (Shf.tab_call HT.out HB1.out)).mono ?_
      rintro r w2 ⟨A2, m2, c2', rfl, hr2, b2, -⟩
      have HB2 := Lib.hid (HB1.out.call b2)
      obtain rfl : N = m2 := by rw [← HN.out]; exact hr2.sec
      have HR := Lib.hid hr2
      clear b2 hr2 HL HC HT HB1 c0 c1 c2
      go_wp2
      go_ret2
      exact RetTE.no HB2.out
  · rw [if_neg he] at hE
    subst hE
    rw [if_neg he]
    have hne := neq0 he
    go_enter Tryz.func115, Tryz.ntmps115
    go_wp2_with fail
    with_reducible refine HC.out.mono ?_
    rintro r w1 ⟨rfl, b1⟩
    have HB1 := Lib.hid (((new1 w _).push _).call b1)
    obtain ⟨c0, c1, c2, -, -, -⟩ := (by have := (Box.new (w.alloc (D33 A n c A' m c' f)) (.int .u8 k) (.int .i64 g) (.int .i64 no) 132).call b1; rwa [World.size_alloc] at this : Box w1 (w.heap.size + 1) (.int .u8 k) (.int .i64 g) (.int .i64 no))
    clear b1
    go_wp2_with fail
    with_reducible refine (HL.out _ (Shf.tab_call HT.out HB1.out)).mono ?_
    rintro r w2 ⟨A2, m2, c2', rfl, hr2, b2, -⟩
    have HB2 := Lib.hid (HB1.out.call b2)
    obtain rfl : N = m2 := by rw [← HN.out]; exact hr2.sec
    have HR := Lib.hid hr2
    clear b2 hr2 HL HC HT HB1 c0 c1 c2
    go_wp2
    go_ret2
    exact RetTE.no HB2.out

theorem poured_any (A : Option Addr) (n c : Nat) (A' : Option Addr) (m c' : Nat) (f : Int) (S : List ByteArray) (V : List Wr) (p q : Int) (k : Nat) (g no st : Int) (t : ByteArray) (w : World) (hD : Dev w A n c A' m c' f S V) (hk : k < 256) (hT : Tab w) :
    Calls Tryz.prog 115 #[DV A n c A' m c' f, .int .i64 p, .int .i64 q, HV k g no, .int .i64 st, .string t] w (RetTE w (pourB S V f p q k g no st t) (pourE S V f p q k g no st t)) := by
  by_cases h : okS S V f p q = true
  · have := poured_yes A n c A' m c' f S V p q k g no st t w hD hk hT h _ rfl
    unfold pourB
    exact this
  · have e : pourE S V f p q k g no st t = 2 := by unfold pourE; rw [if_neg h]
    unfold pourB
    rw [e, if_neg (by decide)]
    exact poured_no A n c A' m c' f S V p q k g no st t w hD (by simpa using h)

end Go.Proofs.YtkglolnghihegaaGreatDoor.Slt
