import Derived.Laws.BitsAllLaws
import Derived.Test.YtkglolnghihegaaGreatDoorRows
import Derived.WalkKit
import Derived.WalkLawsBesides
import Derived.Below
import Derived.Lib.Hide
import Derived.Outline
import Derived.IntWalk

/- Plain facts on the sum of 32 bits: steps, bytes that go over a number, tables of half bytes, parts, joins, bits that are turned. Nothing of the program. -/
namespace Go.Proofs.YtkglolnghihegaaGreatDoor.Crc

/-- One step. -/
def step (c : BitVec 32) : BitVec 32 := (c >>> 1) ^^^ (if c.getLsbD 0 then 3988292384#32 else 0#32)
/-- n steps. -/
def steps : Nat → BitVec 32 → BitVec 32
  | 0, c => c
  | n + 1, c => steps n (step c)
/-- A byte as a number of 32 bits. -/
def wide (b : UInt8) : BitVec 32 := BitVec.ofNat 32 b.toNat
/-- One byte goes over a number. -/
def byteOver (c : BitVec 32) (b : UInt8) : BitVec 32 := steps 8 (c ^^^ wide b)
/-- Bytes go over a number. -/
def overL (c : BitVec 32) (l : List UInt8) : BitVec 32 := l.foldl byteOver c
def goL (c : BitVec 32) (l : List UInt8) : BitVec 32 := ~~~ overL (~~~ c) l
def joinL (a b : BitVec 32) (n : Nat) : BitVec 32 := steps (8 * n) a ^^^ b

theorem steps_add (m n : Nat) (c : BitVec 32) : steps (m + n) c = steps n (steps m c) := by
  induction m generalizing c with
  | zero => simp [steps]
  | succ m ih => rw [Nat.succ_add]; exact ih (step c)

theorem step_xor (a b : BitVec 32) : step (a ^^^ b) = step a ^^^ step b := by
  unfold step
  rw [BitVec.ushiftRight_xor_distrib, BitVec.getLsbD_xor]
  generalize 3988292384#32 = P
  generalize a >>> 1 = x
  generalize b >>> 1 = y
  rcases a.getLsbD 0 with _ | _ <;> rcases b.getLsbD 0 with _ | _ <;> simp
  · ac_rfl
  · ac_rfl
  · rw [show x ^^^ P ^^^ (y ^^^ P) = x ^^^ y ^^^ (P ^^^ P) by ac_rfl, BitVec.xor_self, BitVec.xor_zero]

theorem steps_xor (n : Nat) (a b : BitVec 32) : steps n (a ^^^ b) = steps n a ^^^ steps n b := by
  induction n generalizing a b with
  | zero => rfl
  | succ n ih => simp only [steps]; rw [step_xor, ih]

theorem step_zero : step 0#32 = 0#32 := by decide
theorem steps_zero (n : Nat) : steps n 0#32 = 0#32 := by
  induction n with
  | zero => rfl
  | succ n ih => simp only [steps]; rw [step_zero, ih]

theorem step_eq_zero {c : BitVec 32} (h : step c = 0#32) : c = 0#32 := by
  unfold step at h
  cases hb : c.getLsbD 0
  · rw [hb] at h
    simp at h
    apply BitVec.eq_of_getLsbD_eq
    intro i hi
    rw [BitVec.getLsbD_zero]
    cases i with
    | zero => exact hb
    | succ i =>
      have := congrArg (fun x => x.getLsbD i) h
      simpa [Nat.add_comm] using this
  · rw [hb] at h
    have := congrArg (fun x => x.getLsbD 31) h
    simp at this

theorem steps_eq_zero (n : Nat) {c : BitVec 32} (h : steps n c = 0#32) : c = 0#32 := by
  induction n generalizing c with
  | zero => exact h
  | succ n ih => exact step_eq_zero (ih h)

theorem overL_nil (c : BitVec 32) : overL c [] = c := rfl
theorem overL_cons (c : BitVec 32) (b : UInt8) (l : List UInt8) : overL c (b :: l) = overL (byteOver c b) l := rfl
theorem overL_append (c : BitVec 32) (l m : List UInt8) : overL c (l ++ m) = overL (overL c l) m := List.foldl_append ..
theorem overL_snoc (c : BitVec 32) (l : List UInt8) (b : UInt8) : overL c (l ++ [b]) = byteOver (overL c l) b := by rw [overL_append]; rfl

/-- What a text makes of a number is what it makes of 0, and the number's own steps. -/
theorem overL_split (c d : BitVec 32) (l : List UInt8) : overL (c ^^^ d) l = steps (8 * l.length) c ^^^ overL d l := by
  induction l generalizing c d with
  | nil => rfl
  | cons b l ih =>
    rw [overL_cons, overL_cons]
    have e : byteOver (c ^^^ d) b = steps 8 c ^^^ byteOver d b := by unfold byteOver; rw [BitVec.xor_assoc, steps_xor]
    rw [e, ih, ← steps_add, List.length_cons, show 8 + 8 * l.length = 8 * (l.length + 1) by omega]

theorem not_eq (c : BitVec 32) : ~~~ c = 4294967295#32 ^^^ c := by rw [BitVec.xor_comm]; exact (BitVec.xor_allOnes (x := c)).symm

theorem goL_parts (l m : List UInt8) (c : BitVec 32) : goL (goL c l) m = goL c (l ++ m) := by
  unfold goL; rw [BitVec.not_not, overL_append]

theorem joinL_parts (l m : List UInt8) : joinL (goL 0#32 l) (goL 0#32 m) m.length = goL 0#32 (l ++ m) := by
  unfold joinL goL
  rw [overL_append]
  generalize overL (~~~ 0#32) l = x
  have h1 : overL x m = steps (8 * m.length) x ^^^ overL 0#32 m := by have := overL_split x 0#32 m; rwa [BitVec.xor_zero] at this
  have h2 : overL (~~~ 0#32) m = steps (8 * m.length) (~~~ 0#32) ^^^ overL 0#32 m := by have := overL_split (~~~ 0#32) 0#32 m; rwa [BitVec.xor_zero] at this
  rw [h1, h2, not_eq x, steps_xor, not_eq (steps _ _ ^^^ _), not_eq (steps _ x ^^^ _)]
  have e : ~~~ 0#32 = 4294967295#32 := by decide
  rw [e]
  generalize steps (8 * m.length) 4294967295#32 = f
  generalize steps (8 * m.length) x = y
  generalize overL 0#32 m = z
  generalize 4294967295#32 = F
  rw [show f ^^^ y ^^^ (F ^^^ (f ^^^ z)) = (f ^^^ f) ^^^ (F ^^^ (y ^^^ z)) by ac_rfl, BitVec.xor_self, BitVec.zero_xor]

/-- The exclusive or of three bytes, of three lists of bytes. -/
theorem overL_three (l : List (UInt8 × UInt8 × UInt8)) (c d e : BitVec 32) :
    overL (c ^^^ d ^^^ e) (l.map fun x => x.1 ^^^ x.2.1 ^^^ x.2.2) = overL c (l.map (·.1)) ^^^ overL d (l.map (·.2.1)) ^^^ overL e (l.map (·.2.2)) := by
  induction l generalizing c d e with
  | nil => rfl
  | cons x l ih =>
    simp only [List.map_cons, overL_cons]
    rw [← ih]
    congr 1
    unfold byteOver
    rw [← steps_xor, ← steps_xor]
    congr 1
    have hw : wide (x.1 ^^^ x.2.1 ^^^ x.2.2) = wide x.1 ^^^ wide x.2.1 ^^^ wide x.2.2 := by
      unfold wide
      rw [UInt8.toNat_xor, UInt8.toNat_xor, BitVec.ofNat_xor, BitVec.ofNat_xor]
    rw [hw]
    ac_rfl

theorem goL_three (l : List (UInt8 × UInt8 × UInt8)) :
    goL 0#32 (l.map fun x => x.1 ^^^ x.2.1 ^^^ x.2.2) = goL 0#32 (l.map (·.1)) ^^^ goL 0#32 (l.map (·.2.1)) ^^^ goL 0#32 (l.map (·.2.2)) := by
  unfold goL
  have h := overL_three l (~~~ 0#32) (~~~ 0#32) (~~~ 0#32)
  rw [show (~~~ 0#32) ^^^ (~~~ 0#32) ^^^ (~~~ 0#32) = ~~~ 0#32 by decide] at h
  rw [h, not_eq (_ ^^^ _), not_eq (overL _ (l.map (·.1))), not_eq (overL _ (l.map (·.2.1))), not_eq (overL _ (l.map (·.2.2)))]
  generalize overL _ (l.map (·.1)) = x
  generalize overL _ (l.map (·.2.1)) = y
  generalize overL _ (l.map (·.2.2)) = z
  generalize 4294967295#32 = F
  rw [show F ^^^ x ^^^ (F ^^^ y) ^^^ (F ^^^ z) = (F ^^^ F) ^^^ (F ^^^ (x ^^^ y ^^^ z)) by ac_rfl, BitVec.xor_self, BitVec.zero_xor]

/-- One bit of the k-th byte is turned. -/
def turnAt (l : List UInt8) (k r : Nat) : List UInt8 := l.modify k fun b => b ^^^ UInt8.ofNat (2 ^ r)

theorem bit_byte : ∀ r : Fin 8, steps 8 (wide (UInt8.ofNat (2 ^ r.val))) = steps (8 - r.val) 1#32 := by decide
theorem bit_word : ∀ j : Fin 32, steps j.val (BitVec.ofNat 32 (2 ^ j.val)) = 1#32 := by decide

theorem turnAt_length (l : List UInt8) (k r : Nat) : (turnAt l k r).length = l.length := by simp [turnAt]

theorem overL_turnAt (l : List UInt8) (k r : Nat) (c : BitVec 32) (hk : k < l.length) (hr : r < 8) :
    overL c (turnAt l k r) = overL c l ^^^ steps (8 * l.length - (8 * k + r)) 1#32 := by
  induction l generalizing k c with
  | nil => simp at hk
  | cons b l ih =>
    cases k with
    | zero =>
      have e1 : turnAt (b :: l) 0 r = (b ^^^ UInt8.ofNat (2 ^ r)) :: l := rfl
      have e2 : byteOver c (b ^^^ UInt8.ofNat (2 ^ r)) = steps 8 (wide (UInt8.ofNat (2 ^ r))) ^^^ byteOver c b := by
        unfold byteOver
        rw [← steps_xor]
        congr 1
        unfold wide
        rw [UInt8.toNat_xor, BitVec.ofNat_xor]
        ac_rfl
      have e3 : steps 8 (wide (UInt8.ofNat (2 ^ r))) = steps (8 - r) 1#32 := bit_byte ⟨r, hr⟩
      rw [e1, overL_cons, overL_cons, e2, overL_split, e3, ← steps_add, BitVec.xor_comm, List.length_cons]
      congr 2
      omega
    | succ k =>
      have e1 : turnAt (b :: l) (k + 1) r = b :: turnAt l k r := rfl
      rw [e1, overL_cons, overL_cons, ih k _ (by simpa using hk), List.length_cons]
      congr 2
      omega

/-- The low i bits of a number. -/
def low (t : BitVec 32) (i : Nat) : BitVec 32 := BitVec.ofNat 32 (t.toNat % 2 ^ i)

theorem low_zero (t : BitVec 32) : low t 0 = 0#32 := by simp [low, Nat.mod_one]

theorem low_succ_no (t : BitVec 32) (i : Nat) (h : t.toNat / 2 ^ i % 2 = 0) : low t (i + 1) = low t i := by
  unfold low
  rw [Nat.pow_succ, Nat.mod_mul, h]
  simp

theorem low_succ_yes (t : BitVec 32) (i : Nat) (h : t.toNat / 2 ^ i % 2 = 1) : low t (i + 1) = low t i ^^^ BitVec.ofNat 32 (2 ^ i) := by
  unfold low
  rw [Nat.pow_succ, Nat.mod_mul, h, ← BitVec.ofNat_xor]
  congr 1
  have hlt : t.toNat % 2 ^ i < 2 ^ i := Nat.mod_lt _ (Nat.two_pow_pos i)
  have h1 := Nat.two_pow_add_eq_or_of_lt hlt 1
  rw [Nat.mul_one] at h1 ⊢
  rw [Nat.add_comm, h1]
  apply Nat.eq_of_testBit_eq
  intro j
  rw [Nat.testBit_or, Nat.testBit_xor, Nat.testBit_two_pow]
  by_cases hj : i = j
  · subst hj
    rw [Nat.testBit_lt_two_pow hlt]
    simp
  · simp [hj]

theorem low_ne (t : BitVec 32) (i : Nat) (hi : i < 32) (h : t.toNat / 2 ^ i % 2 = 1) : low t (i + 1) ≠ 0#32 := by
  intro hz
  have h2 := congrArg BitVec.toNat hz
  unfold low at h2
  rw [BitVec.toNat_ofNat, Nat.mod_eq_of_lt (Nat.lt_of_lt_of_le (Nat.mod_lt _ (Nat.two_pow_pos _)) (Nat.pow_le_pow_right (by omega) (by omega : i + 1 ≤ 32)))] at h2
  rw [Nat.pow_succ, Nat.mod_mul, h] at h2
  have := Nat.two_pow_pos i
  simp at h2

/-- The bits of t go over a text from the place p on: one bit more. -/
theorem burst_step (l s : List UInt8) (t : BitVec 32) (p i : Nat) (c : BitVec 32) (hl : l.length = s.length) (hi : i < 32) (hp : p + i < 8 * l.length)
    (h : overL c l = overL c s ^^^ steps (8 * s.length - p) (low t i)) (hb : t.toNat / 2 ^ i % 2 = 1) :
    overL c (turnAt l ((p + i) / 8) ((p + i) % 8)) = overL c s ^^^ steps (8 * s.length - p) (low t (i + 1)) := by
  rw [overL_turnAt l _ _ c (by omega) (by omega), h, low_succ_yes t i hb, steps_xor, BitVec.xor_assoc]
  congr 2
  rw [show 8 * s.length - p = i + (8 * s.length - p - i) by omega, steps_add, bit_word ⟨i, hi⟩]
  congr 1
  omega

theorem burst_end (l s : List UInt8) (t : BitVec 32) (k i : Nat) (h : overL (~~~ 0#32) l = overL (~~~ 0#32) s ^^^ steps k (low t i)) :
    goL 0#32 l = goL 0#32 s ↔ low t i = 0#32 := by
  unfold goL
  constructor
  · intro e
    have e2 : overL (~~~ 0#32) l = overL (~~~ 0#32) s := by have := congrArg (fun x => ~~~ x) e; simpa only [BitVec.not_not] using this
    rw [e2] at h
    apply steps_eq_zero k
    have h3 := congrArg (fun x => overL (~~~ 0#32) s ^^^ x) h
    simp only [← BitVec.xor_assoc, BitVec.xor_self, BitVec.zero_xor] at h3
    exact h3.symm
  · intro e
    rw [h, e, steps_zero, BitVec.xor_zero]

/-- Four steps by a table. -/
def tab : List Nat := [0, 498536548, 997073096, 651767980, 1994146192, 1802195444, 1303535960, 1342533948, 3988292384, 4027552580, 3604390888, 3412177804, 2607071920, 2262029012, 2685067896, 3183342108]
def four (c : BitVec 32) : BitVec 32 := (c >>> 4) ^^^ BitVec.ofNat 32 (tab.getD (c.toNat % 16) 0)

theorem four_low : ∀ k : Fin 16, steps 4 (BitVec.ofNat 32 k.val) = BitVec.ofNat 32 (tab.getD k.val 0) := by decide

theorem step_even (x : BitVec 32) (h : x.toNat < 2147483648) : step (x <<< 1) = x := by
  unfold step
  rw [if_neg (by simp), BitVec.xor_zero]
  apply BitVec.eq_of_toNat_eq
  simp [Nat.shiftLeft_eq, Nat.shiftRight_eq_div_pow]
  omega

theorem steps_high (x : BitVec 32) (h : x.toNat < 268435456) : steps 4 (x <<< 4) = x := by
  have hs : ∀ (y : BitVec 32) (n : Nat), y.toNat * 2 ^ n < 4294967296 → (y <<< n).toNat = y.toNat * 2 ^ n := by
    intro y n hy
    rw [BitVec.toNat_shiftLeft, Nat.shiftLeft_eq]
    exact Nat.mod_eq_of_lt hy
  have e : x <<< 4 = x <<< 1 <<< 1 <<< 1 <<< 1 := by simp only [← BitVec.shiftLeft_add]
  rw [e]
  simp only [steps]
  rw [step_even, step_even, step_even, step_even]
  · omega
  · rw [hs _ _ (by omega)]; omega
  · rw [hs _ _ (by rw [hs _ _ (by omega)]; omega), hs _ _ (by omega)]; omega
  · rw [hs _ _ (by rw [hs _ _ (by rw [hs _ _ (by omega)]; omega), hs _ _ (by omega)]; omega), hs _ _ (by rw [hs _ _ (by omega)]; omega), hs _ _ (by omega)]; omega

theorem four_eq (c : BitVec 32) : four c = steps 4 c := by
  have hc := c.isLt
  have e : c = (c >>> 4) <<< 4 ^^^ BitVec.ofNat 32 (c.toNat % 16) := by
    apply BitVec.eq_of_toNat_eq
    rw [BitVec.toNat_xor, BitVec.toNat_shiftLeft, BitVec.toNat_ushiftRight, BitVec.toNat_ofNat, Nat.shiftLeft_eq, Nat.shiftRight_eq_div_pow]
    rw [Nat.mod_eq_of_lt (by omega), Nat.mod_eq_of_lt (by omega : c.toNat % 16 < 2 ^ 32)]
    have hlt : c.toNat % 16 < 2 ^ 4 := by omega
    have h1 := Nat.two_pow_add_eq_or_of_lt hlt (c.toNat / 2 ^ 4)
    have h2 : c.toNat / 2 ^ 4 * 2 ^ 4 ^^^ c.toNat % 16 = c.toNat / 2 ^ 4 * 2 ^ 4 ||| c.toNat % 16 := by
      apply Nat.eq_of_testBit_eq
      intro j
      rw [Nat.testBit_or, Nat.testBit_xor, Nat.testBit_mul_two_pow]
      by_cases hj : 4 ≤ j
      · rw [Nat.testBit_lt_two_pow (x := c.toNat % 16) (Nat.lt_of_lt_of_le hlt (Nat.pow_le_pow_right (by omega) hj))]; simp
      · simp [hj]
    rw [h2, Nat.mul_comm, ← h1]
    omega
  have hd : (c >>> 4).toNat < 268435456 := by rw [BitVec.toNat_ushiftRight, Nat.shiftRight_eq_div_pow]; omega
  conv => rhs; rw [e]
  rw [steps_xor, steps_high _ hd, four_low ⟨c.toNat % 16, by omega⟩]
  rfl

theorem four_four (c : BitVec 32) (b : UInt8) : four (four (c ^^^ wide b)) = byteOver c b := by
  rw [four_eq, four_eq, ← steps_add]; rfl

/-- Joining, a byte a time. -/
theorem steps_byte (c : BitVec 32) : byteOver c 0 = steps 8 c := by
  unfold byteOver
  rw [show wide 0 = 0#32 by decide, BitVec.xor_zero]

end Go.Proofs.YtkglolnghihegaaGreatDoor.Crc

/- Contracts of the functions of package crc and of the document's answer: each returns what the plain functions of the text Pure say, and leaves the world alone, where the table of sixteen constants reads as it is laid. -/
namespace Go.Proofs.YtkglolnghihegaaGreatDoor.Crc
open Go.RowKit

/-- A number of 32 bits as the program holds it. -/
def uv (c : BitVec 32) : Int := (c.toNat : Int)
/-- The table reads as it is laid. -/
def Tab (w : World) : Prop := ∀ i : Nat, i < 16 → w.cell? ⟨1, i, none⟩ = some (.int .u32 (tab.getD i 0 : Nat))

theorem uv_nonneg (c : BitVec 32) : 0 ≤ uv c := by unfold uv; omega
theorem uv_lt (c : BitVec 32) : uv c < 4294967296 := by unfold uv; have := c.isLt; omega

theorem xor_uv (a b : BitVec 32) : bits .xor .u32 (uv a) (uv b) = uv (a ^^^ b) := by
  unfold uv
  rw [u32_xor_nat _ _ a.isLt b.isLt, BitVec.toNat_xor]

theorem uv_wide (b : UInt8) : (b.toNat : Int) = uv (wide b) := by
  unfold uv wide
  rw [BitVec.toNat_ofNat, Nat.mod_eq_of_lt (Nat.lt_trans b.toNat_lt (by decide))]

theorem xor_byte (c : BitVec 32) (b : UInt8) : bits .xor .u32 (uv c) (b.toNat : Int) = uv (c ^^^ wide b) := by rw [uv_wide, xor_uv]

theorem uv_shift (c : BitVec 32) : uv c / (16 : Int) = uv (c >>> 4) := by
  unfold uv
  rw [BitVec.toNat_ushiftRight, Nat.shiftRight_eq_div_pow]
  omega

theorem tab_small : ∀ k : Fin 16, tab.getD k.val 0 < 4294967296 := by decide

theorem half (c : BitVec 32) : ∃ k : Nat, ∃ t : BitVec 32, k < 16 ∧ bits .and .u32 (uv c) 15 = k ∧ (∀ w, Tab w → w.cell? ⟨1, k, none⟩ = some (.int .u32 (uv t))) ∧ bits .xor .u32 (uv c / (16 : Int)) (uv t) = uv (four c) := by
  refine ⟨c.toNat % 16, BitVec.ofNat 32 (tab.getD (c.toNat % 16) 0), by omega, ?_, ?_, ?_⟩
  · unfold uv
    rw [show (15 : Int) = ((15 : Nat) : Int) from rfl, u32_and_nat _ _ c.isLt (by decide)]
    rw [show 15 = 2 ^ 4 - 1 from rfl, Nat.and_two_pow_sub_one_eq_mod]
  · intro w h
    rw [h _ (by omega)]
    unfold uv
    rw [BitVec.toNat_ofNat, Nat.mod_eq_of_lt (tab_small ⟨c.toNat % 16, by omega⟩)]
  · rw [uv_shift, xor_uv]; rfl

theorem over_any (c : BitVec 32) (b : UInt8) (w : World) (hT : Tab w) :
    Calls Tryz.prog 164 #[.int .u32 (uv c), .int .u8 b.toNat] w fun r w' => r = .returned (.int .u32 (uv (byteOver c b))) ∧ w = w' := by
  rw [← four_four]
  have hb := b.toNat_lt
  have e1 := xor_byte c b
  generalize c ^^^ wide b = c1 at *
  obtain ⟨k1, t1, hk1, e2, hc1, e3⟩ := half c1
  generalize four c1 = c2 at *
  obtain ⟨k2, t2, hk2, e4, hc2, e5⟩ := half c2
  generalize four c2 = c3 at *
  have e6 := hc1 w hT
  have e7 := hc2 w hT
  clear hc1 hc2 hT
  go_enter Tryz.func164, Tryz.ntmps164
  go_wp2
  go_ret
  exact ⟨rfl, rfl⟩


end Go.Proofs.YtkglolnghihegaaGreatDoor.Crc

/- Contracts of Sum, Go and Join of package crc, and of the document's answer: each returns what the plain functions of the text Pure say, and leaves the world alone. -/
namespace Go.Proofs.YtkglolnghihegaaGreatDoor.Crc
open Go.RowKit

theorem not_uv (c : BitVec 32) : bits .xor .u32 IntKind.u32.max (uv c) = uv (~~~ c) := by
  rw [show IntKind.u32.max = uv 4294967295#32 from rfl, xor_uv, not_eq]

theorem take_snoc (s : ByteArray) (k : Nat) (h : k < s.size) : s.data.toList.take (k + 1) = s.data.toList.take k ++ [s[k]] := by
  rw [List.take_succ_eq_append_getElem (by simpa using h)]; rfl

theorem over_take (c : BitVec 32) (s : ByteArray) (k : Nat) (h : k < s.size) : byteOver (overL c (s.data.toList.take k)) s[k] = overL c (s.data.toList.take (k + 1)) := by
  rw [take_snoc s k h, overL_snoc]

theorem ret_u32 {a b : BitVec 32} (h : a = b) : Ending.returned (.int .u32 (uv a)) = .returned (.int .u32 (uv b)) := by rw [h]
theorem take_all (s : ByteArray) (k : Nat) (h : ¬ k < s.size) : s.data.toList.take k = s.data.toList := List.take_of_length_le (by simp; omega)

set_option maxHeartbeats 400000 in
theorem go_any (c : BitVec 32) (s : ByteArray) (w : World) (hs : s.size ≤ maxLen) (hT : Tab w) :
    Calls Tryz.prog 148 #[.int .u32 (uv c), .string s] w fun r w' => r = .returned (.int .u32 (uv (goL c s.data.toList))) ∧ w = w' := by
  unfold maxLen at hs
  have H := Lib.hid hT
  clear hT
  have e1 := not_uv c
  unfold goL
  generalize ~~~ c = c1 at *
  go_enter Tryz.func148, Tryz.ntmps148
  go_wp2
  clear e1
  go_loop [0, 10] (fun n i => ∃ k : Nat, k ≤ s.size ∧ i = .int .i64 k ∧ n = .int .u32 (uv (overL c1 (s.data.toList.take k)))) (fun _ i => s.size - (intOf i).toNat)
  case atStart => exact ⟨0, Nat.zero_le _, rfl, rfl⟩
  case round =>
    obtain ⟨k, hk, rfl, rfl⟩ := hrel
    by_cases hlt : k < s.size
    · go_wp2_with (go_at_call 164; refine (over_any _ s[k] _ H.out).mono ?_; rintro e w' ⟨rfl, rfl⟩)
      go_round
      case rel => exact ⟨k + 1, by omega, by go_num, by rw [over_take c1 s k hlt]⟩
      case measure => simp [intOf]; omega
    · have e2 := not_uv (overL c1 (s.data.toList.take k))
      go_wp2
      go_ret
      exact ⟨ret_u32 (by rw [take_all s k hlt]), rfl⟩

theorem go_zero (s : ByteArray) (w : World) (hs : s.size ≤ maxLen) (hT : Tab w) :
    Calls Tryz.prog 148 #[.int .u32 0, .string s] w fun r w' => r = .returned (.int .u32 (uv (goL 0#32 s.data.toList))) ∧ w = w' := go_any 0#32 s w hs hT

theorem sum_any (s : ByteArray) (w : World) (hs : s.size ≤ maxLen) (hT : Tab w) :
    Calls Tryz.prog 130 #[.string s] w fun r w' => r = .returned (.int .u32 (uv (goL 0#32 s.data.toList))) ∧ w = w' := by
  have H := Lib.hid hT
  clear hT
  go_enter Tryz.func130, Tryz.ntmps130
  go_wp2_with (go_at_call 148; refine (go_zero _ _ hs H.out).mono ?_; rintro e w' ⟨rfl, rfl⟩)
  go_ret
  exact ⟨rfl, rfl⟩

theorem over_zero (c : BitVec 32) (w : World) (hT : Tab w) :
    Calls Tryz.prog 164 #[.int .u32 (uv c), .int .u8 0] w fun r w' => r = .returned (.int .u32 (uv (steps 8 c))) ∧ w = w' := by
  rw [← steps_byte]; exact over_any c 0 w hT

theorem steps_more (k : Nat) (c : BitVec 32) : steps 8 (steps (8 * k) c) = steps (8 * (k + 1)) c := by
  rw [← steps_add, show 8 * k + 8 = 8 * (k + 1) by omega]

/-- How many bytes 0 Join counts. -/
def held (n : Int) : Nat := (min (max n 0) 16000).toNat

theorem ref_step_yes {c : BitVec 32} (h : uv c % 2 = 1) : bits .xor .u32 (uv c / (2 : Int)) 3988292384 = uv (step c) := by
  have hb : c.getLsbD 0 = true := by
    rw [BitVec.getLsbD, Nat.testBit_zero]; unfold uv at h; simp; omega
  have e : uv c / (2 : Int) = uv (c >>> 1) := by unfold uv; rw [BitVec.toNat_ushiftRight, Nat.shiftRight_eq_div_pow]; omega
  rw [e, show (3988292384 : Int) = uv 3988292384#32 from rfl, xor_uv]
  unfold step
  rw [hb]; rfl

theorem ref_step_no {c : BitVec 32} (h : ¬ uv c % 2 = 1) : uv c / (2 : Int) = uv (step c) := by
  have hb : c.getLsbD 0 = false := by
    rw [BitVec.getLsbD, Nat.testBit_zero]; unfold uv at h; simp; omega
  have e : uv c / (2 : Int) = uv (c >>> 1) := by unfold uv; rw [BitVec.toNat_ushiftRight, Nat.shiftRight_eq_div_pow]; omega
  rw [e]
  unfold step
  rw [hb]
  simp

theorem div_spell (c : BitVec 32) : (uv c).tdiv 2 % 4294967296 = uv c / (2 : Int) := by
  have h := uv_nonneg c
  have h2 := uv_lt c
  rw [Int.tdiv_eq_ediv_of_nonneg h]
  omega

theorem steps_succ (k : Nat) (c : BitVec 32) : step (steps k c) = steps (k + 1) c := by rw [steps_add]; rfl

set_option maxHeartbeats 400000 in
theorem steps_any (c : BitVec 32) (w : World) :
    Calls Tryz.prog 157 #[.int .u32 (uv c)] w fun r w' => r = .returned (.int .u32 (uv (steps 8 c))) ∧ w = w' := by
  go_enter Tryz.func157, Tryz.ntmps157
  go_wp2
  go_loop [0, 3] (fun n i => ∃ k : Nat, k ≤ 8 ∧ i = .int .i64 k ∧ n = .int .u32 (uv (steps k c))) (fun _ i => 8 - (intOf i).toNat)
  case atStart => exact ⟨0, Nat.zero_le _, rfl, rfl⟩
  case round =>
    obtain ⟨k, hk, rfl, rfl⟩ := hrel
    by_cases hlt : k < 8
    · have h0 := uv_nonneg (steps k c)
      have hn := steps_succ k c
      by_cases hm : uv (steps k c) % 2 = 1
      · have e := ref_step_yes hm
        rw [hn] at e
        have E := Lib.hid e
        clear hn e
        go_wp2
        go_round
        case rel => exact ⟨k + 1, by omega, by go_num, by rw [div_spell, E.out]⟩
        case measure => simp [intOf]; omega
      · have e := ref_step_no hm
        rw [hn] at e
        have hm' : (uv (steps k c) % 2 == 1) = false := by simpa using hm
        have E := Lib.hid e
        clear hn e
        go_wp2
        go_round
        case rel => exact ⟨k + 1, by omega, by go_num, by rw [div_spell, E.out]⟩
        case measure => simp [intOf]; omega
    · obtain rfl : k = 8 := by omega
      go_wp2
      go_ret
      exact ⟨rfl, rfl⟩

/- The document's answer. -/

set_option maxHeartbeats 400000 in
theorem ref_over (c : BitVec 32) (s : ByteArray) (w : World) (hs : s.size ≤ maxLen) :
    Calls Tryz.prog 134 #[.int .u32 (uv c), .string s] w fun r w' => r = .returned (.int .u32 (uv (overL c s.data.toList))) ∧ w = w' := by
  unfold maxLen at hs
  go_enter Tryz.func134, Tryz.ntmps134
  go_wp2
  go_loop [0, 5] (fun n i => ∃ k : Nat, k ≤ s.size ∧ i = .int .i64 k ∧ n = .int .u32 (uv (overL c (s.data.toList.take k)))) (fun _ i => s.size - (intOf i).toNat)
  case atStart => exact ⟨0, Nat.zero_le _, rfl, rfl⟩
  case round =>
    obtain ⟨k, hk, rfl, rfl⟩ := hrel
    by_cases hlt : k < s.size
    · have e := xor_byte (overL c (s.data.toList.take k)) s[k]
      have hb := s[k].toNat_lt
      have hn : steps 8 (overL c (s.data.toList.take k) ^^^ wide s[k]) = overL c (s.data.toList.take (k + 1)) := over_take c s k hlt
      have HN := Lib.hid hn
      clear hn
      go_wp2_with (go_at_call 157; refine (steps_any _ _).mono ?_; rintro e w' ⟨rfl, rfl⟩)
      go_round
      case rel => exact ⟨k + 1, by omega, by go_num, by rw [HN.out]⟩
      case measure => simp [intOf]; omega
    · go_wp2
      go_ret
      exact ⟨ret_u32 (by rw [take_all s k hlt]), rfl⟩

/-- All bits 1. -/
def ones : BitVec 32 := 4294967295#32
theorem goL_ones (l : List UInt8) : ~~~ overL ones l = goL 0#32 l := rfl
theorem ref_over_ones (s : ByteArray) (w : World) (hs : s.size ≤ maxLen) :
    Calls Tryz.prog 134 #[.int .u32 4294967295, .string s] w fun r w' => r = .returned (.int .u32 (uv (overL ones s.data.toList))) ∧ w = w' := ref_over ones s w hs

theorem ref_sum (s : ByteArray) (w : World) (hs : s.size ≤ maxLen) :
    Calls Tryz.prog 111 #[.string s] w fun r w' => r = .returned (.int .u32 (uv (goL 0#32 s.data.toList))) ∧ w = w' := by
  rw [← goL_ones]
  have e := not_uv (overL ones s.data.toList)
  generalize ~~~ overL ones s.data.toList = z at *
  go_enter Tryz.func111, Tryz.ntmps111
  go_wp2_with (go_at_call 134; refine (ref_over_ones _ _ hs).mono ?_; rintro e w' ⟨rfl, rfl⟩)
  go_ret
  exact ⟨rfl, rfl⟩

end Go.Proofs.YtkglolnghihegaaGreatDoor.Crc
