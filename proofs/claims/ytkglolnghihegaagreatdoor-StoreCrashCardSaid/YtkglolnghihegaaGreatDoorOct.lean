import Derived.IntWalk
import Derived.Laws.Bits64
import Derived.Laws.Bits64b
import Derived.Test.YtkglolnghihegaaGreatDoorDskA
import Derived.WalkKit
import Derived.WalkLawsBesides
import Derived.Below
import Derived.Lib.Hide
import Derived.Outline
import Derived.Laws.CopyOwn
import Derived.Deep.OwnRows
import Derived.Laws.Rows
import Derived.WalkSpells
import Derived.Lib.BufferWrite
import Derived.BigQuiet

/- Plain facts on numbers as bytes, the highest one first: nothing of the program. -/
namespace Go.Proofs.YtkglolnghihegaaGreatDoor.Oct
open Go.RowKit

/-- A number of bytes, the highest one first. -/
def natBE (l : List UInt8) : Nat := l.foldl (fun a b => a * 256 + b.toNat) 0
/-- The number of k bytes from the place p on. -/
def numAt (s : ByteArray) (p : Int) (k : Nat) : Int := natBE ((s.data.toList.drop p.toNat).take k)

theorem natBE_snoc (l : List UInt8) (b : UInt8) : natBE (l ++ [b]) = natBE l * 256 + b.toNat := by simp [natBE, List.foldl_append]

theorem natBE_lt_len (n : Nat) : ∀ l : List UInt8, l.length = n → natBE l < 256 ^ n := by
  induction n with
  | zero => intro l h; obtain rfl := List.length_eq_zero_iff.1 h; simp [natBE]
  | succ n ih =>
    intro l h
    obtain ⟨m, b, rfl⟩ : ∃ m b, l = m ++ [b] := by
      rcases List.eq_nil_or_concat l with rfl | ⟨m, b, rfl⟩
      · simp at h
      · exact ⟨m, b, by simp⟩
    simp at h
    have := ih m h
    have hb := b.toNat_lt
    rw [natBE_snoc, Nat.pow_succ]
    omega

theorem natBE_lt (l : List UInt8) : natBE l < 256 ^ l.length := natBE_lt_len _ l rfl

theorem natBE_le {l : List UInt8} (h : l.length ≤ 7) : natBE l < 72057594037927936 := by
  have := natBE_lt l
  have h2 : 256 ^ l.length ≤ 256 ^ 7 := Nat.pow_le_pow_right (by omega) h
  have h3 : 256 ^ 7 = 72057594037927936 := by decide
  omega

theorem numAt_nonneg (s : ByteArray) (p : Int) (k : Nat) : 0 ≤ numAt s p k := by unfold numAt; omega
theorem numAt_lt (s : ByteArray) (p : Int) (k : Nat) (h : k ≤ 7) : numAt s p k < 72057594037927936 := by
  unfold numAt
  have := natBE_le (l := (s.data.toList.drop p.toNat).take k) (by have := List.length_take_le k (s.data.toList.drop p.toNat); omega)
  omega

theorem numAt_zero (s : ByteArray) (p : Int) : numAt s p 0 = 0 := by simp [numAt, natBE]

theorem numAt_succ (s : ByteArray) (p k : Nat) (h : p + k < s.size) : numAt s p (k + 1) = numAt s p k * 256 + s[p + k].toNat := by
  unfold numAt
  have hl : k < (s.data.toList.drop p).length := by simp; omega
  rw [Int.toNat_natCast, List.take_succ_eq_append_getElem hl, natBE_snoc]
  simp
  rfl

theorem or_byte (a b : Nat) (ha : a < 36028797018963968) (hb : b < 256) : bits .or .i64 ((a : Int) * 256) (b : Int) = (a : Int) * 256 + b := by
  have e : a * 256 ||| b = a * 256 + b := by
    have := Nat.two_pow_add_eq_or_of_lt (i := 8) (b := b) (by omega) a
    rw [Nat.mul_comm a 256]
    exact this.symm
  have h1 : (BitVec.ofInt 64 ((a : Int) * 256)).toNat = a * 256 := by
    rw [show (a : Int) * 256 = ((a * 256 : Nat) : Int) from by omega, BitVec.ofInt_natCast, BitVec.toNat_ofNat]; exact Nat.mod_eq_of_lt (by omega)
  have h2 : (BitVec.ofInt 64 (b : Int)).toNat = b := by
    rw [BitVec.ofInt_natCast, BitVec.toNat_ofNat]; exact Nat.mod_eq_of_lt (by omega)
  show IntKind.i64.wrap ((BitVec.ofInt 64 ((a : Int) * 256) ||| BitVec.ofInt 64 (b : Int)).toNat : Int) = _
  rw [BitVec.toNat_or, h1, h2, e, IntWalk.i64_in _ (by omega)]
  omega

theorem num_step (s : ByteArray) (p k : Nat) (hk : k < 7) (h : p + k < s.size) :
    bits .or .i64 (wrap64 (numAt s p k * 256)) (wrap64 s[p + k].toNat) = numAt s p (k + 1) := by
  have hb := s[p + k].toNat_lt
  have h1 := numAt_nonneg s p k
  have h2 : numAt s p k < 281474976710656 := by
    unfold numAt
    have := natBE_lt ((s.data.toList.drop (p : Int).toNat).take k)
    have hl := List.length_take_le k (s.data.toList.drop (p : Int).toNat)
    have h3 : 256 ^ ((s.data.toList.drop (p : Int).toNat).take k).length ≤ 256 ^ 6 := Nat.pow_le_pow_right (by omega) (by omega)
    have h4 : 256 ^ 6 = 281474976710656 := by decide
    omega
  rw [numAt_succ s p k h, IntWalk.wrap64_in _ (by omega), IntWalk.wrap64_in _ (by omega)]
  generalize numAt s p k = x at *
  obtain ⟨x, rfl⟩ := Int.eq_ofNat_of_zero_le h1
  exact or_byte x _ (by omega) (by omega)

end Go.Proofs.YtkglolnghihegaaGreatDoor.Oct

/- Contracts of the small functions of package octet (isWidth, inside, failed, New, Left, End): each returns what is said, for every cursor; no conditions but that a string has at most maxLen bytes. -/
namespace Go.Proofs.YtkglolnghihegaaGreatDoor.Oct
open Go.RowKit

/-- A cursor's value. -/
abbrev CV (s : ByteArray) (p e : Int) : Value := .agg #[.string s, .int .i64 p, .int .i64 e]

theorem isWidth_yes (n : Int) (w : World) (h1 : 1 ≤ n) (h2 : n ≤ 7) :
    Calls Tryz.prog 126 #[.int .i64 n] w fun e w' => e = .returned (.bool true) ∧ w = w' := by
  go_enter Tryz.func126, Tryz.ntmps126
  go_wp2
  go_ret
  exact ⟨rfl, rfl⟩

theorem isWidth_no (n : Int) (w : World) (h : n < 1 ∨ 7 < n) :
    Calls Tryz.prog 126 #[.int .i64 n] w fun e w' => e = .returned (.bool false) ∧ w = w' := by
  rcases h with h | h
  · have h' : ¬ 1 ≤ n := by omega
    go_enter Tryz.func126, Tryz.ntmps126
    go_wp2
    go_ret
    exact ⟨rfl, rfl⟩
  · have h' : ¬ n ≤ 7 := by omega
    go_enter Tryz.func126, Tryz.ntmps126
    go_wp2
    go_ret
    exact ⟨rfl, rfl⟩

theorem inside_yes (s : ByteArray) (p e : Int) (w : World) (_hs : s.size ≤ maxLen) (h1 : 0 ≤ p) (h2 : p ≤ s.size) :
    Calls Tryz.prog 96 #[CV s p e] w fun r w' => r = .returned (.bool true) ∧ Below w.heap.size w w' := by
  go_enter Tryz.func96, Tryz.ntmps96
  go_wp2
  go_ret
  exact ⟨rfl, (Below.refl _ _).alloc (Nat.le_refl _) _⟩

theorem inside_no (s : ByteArray) (p e : Int) (w : World) (hs : s.size ≤ maxLen) (h : p < 0 ∨ s.size < p) :
    Calls Tryz.prog 96 #[CV s p e] w fun r w' => r = .returned (.bool false) ∧ Below w.heap.size w w' := by
  unfold maxLen at hs
  rcases h with h | h
  · have h' : ¬ 0 ≤ p := by omega
    go_enter Tryz.func96, Tryz.ntmps96
    go_wp2
    go_ret
    exact ⟨rfl, (Below.refl _ _).alloc (Nat.le_refl _) _⟩
  · have h' : ¬ p ≤ s.size := by omega
    go_enter Tryz.func96, Tryz.ntmps96
    go_wp2
    go_ret
    exact ⟨rfl, (Below.refl _ _).alloc (Nat.le_refl _) _⟩

theorem failed_any (s : ByteArray) (p e f : Int) (w : World) :
    Calls Tryz.prog 98 #[CV s p e, .int .i64 f] w fun r w' => r = .returned (CV s p f) ∧ Below w.heap.size w w' := by
  go_enter Tryz.func98, Tryz.ntmps98
  go_wp2
  refine bodyPost_ret (v := CV s p f) (by simp [results, Tryz.results98, go_sem]) rfl ⟨rfl, ?_⟩
  exact ((Below.refl _ _).alloc (Nat.le_refl _) _).alloc (by simp) _

theorem new_any (s : ByteArray) (w : World) :
    Calls Tryz.prog 59 #[.string s] w fun r w' => r = .returned (CV s 0 0) ∧ Below w.heap.size w w' := by
  go_enter Tryz.func59, Tryz.ntmps59
  go_wp2
  refine bodyPost_ret (v := CV s 0 0) (by simp [results, Tryz.results59, go_sem]) rfl ⟨rfl, ?_⟩
  exact (Below.refl _ _).alloc (Nat.le_refl _) _


/-- A block of three cells that may be written. -/
structure Box (w : World) (b : Nat) (x y z : Value) : Prop where
  c0 : w.cell? ⟨b, 0, none⟩ = some x
  c1 : w.cell? ⟨b, 1, none⟩ = some y
  c2 : w.cell? ⟨b, 2, none⟩ = some z
  f0 : w.frozen? ⟨b, 0, none⟩ = false
  f1 : w.frozen? ⟨b, 1, none⟩ = false
  f2 : w.frozen? ⟨b, 2, none⟩ = false

theorem Box.below {w w' : World} {B b : Nat} {x y z : Value} (h : Box w b x y z) (hb : Below B w w') (hl : b < B) : Box w' b x y z :=
  ⟨(hb.cell (p := ⟨b, 0, none⟩) hl).trans h.c0, (hb.cell (p := ⟨b, 1, none⟩) hl).trans h.c1, (hb.cell (p := ⟨b, 2, none⟩) hl).trans h.c2,
   (hb.frozen (p := ⟨b, 0, none⟩) hl).trans h.f0, (hb.frozen (p := ⟨b, 1, none⟩) hl).trans h.f1, (hb.frozen (p := ⟨b, 2, none⟩) hl).trans h.f2⟩

theorem Box.new (w : World) (x y z : Value) (t : TypeId) : Box (w.alloc (.cells #[x, y, z] t)) w.heap.size x y z := by
  constructor <;> simp [go_sem]

theorem Box.alloc {w : World} {b : Nat} {x y z : Value} (h : Box w b x y z) (hl : b < w.heap.size) (o : Obj) : Box (w.alloc o) b x y z :=
  h.below ((Below.refl _ _).alloc (Nat.le_refl _) _) hl

theorem bcell {W w1 : World} (hb : Below W.heap.size W w1) : (∀ b o, b < W.heap.size → w1.cell? ⟨b, o, none⟩ = W.cell? ⟨b, o, none⟩) ∧ (∀ b o, b < W.heap.size → w1.frozen? ⟨b, o, none⟩ = W.frozen? ⟨b, o, none⟩) :=
  ⟨fun b o h => hb.cell (p := ⟨b, o, none⟩) h, fun b o h => hb.frozen (p := ⟨b, o, none⟩) h⟩

/-- What is left of a cursor. -/
def leftR (s : ByteArray) (p e : Int) : Int := if e = 0 ∧ 0 ≤ p ∧ p ≤ s.size then s.size - p else 0

theorem left_yes (s : ByteArray) (p : Int) (w : World) (hs : s.size ≤ maxLen) (h1 : 0 ≤ p) (h2 : p ≤ s.size) :
    Calls Tryz.prog 60 #[CV s p 0] w fun r w' => r = .returned (.int .i64 (s.size - p)) ∧ Below w.heap.size w w' := by
  have hs' := hs
  unfold maxLen at hs
  go_enter Tryz.func60, Tryz.ntmps60
  go_wp2_with fail
  refine (inside_yes s p 0 _ hs' h1 h2).mono ?_
  rintro r w1 ⟨rfl, hb⟩
  obtain ⟨hc, hf⟩ := bcell hb
  go_wp2
  go_ret
  exact ⟨rfl, ((Below.refl _ _).alloc (Nat.le_refl _) _).trans (hb.mono (by simp))⟩

theorem left_failed (s : ByteArray) (p e : Int) (w : World) (he : (e != 0) = true) :
    Calls Tryz.prog 60 #[CV s p e] w fun r w' => r = .returned (.int .i64 0) ∧ Below w.heap.size w w' := by
  go_enter Tryz.func60, Tryz.ntmps60
  go_wp2_with fail
  go_ret
  exact ⟨rfl, (Below.refl _ _).alloc (Nat.le_refl _) _⟩

theorem left_out (s : ByteArray) (p : Int) (w : World) (hs : s.size ≤ maxLen) (h : p < 0 ∨ s.size < p) :
    Calls Tryz.prog 60 #[CV s p 0] w fun r w' => r = .returned (.int .i64 0) ∧ Below w.heap.size w w' := by
  have H := Lib.hid h
  clear h
  go_enter Tryz.func60, Tryz.ntmps60
  go_wp2_with fail
  refine (inside_no s p 0 _ hs H.out).mono ?_
  rintro r w1 ⟨rfl, hb⟩
  obtain ⟨hc, hf⟩ := bcell hb
  go_wp2
  go_ret
  exact ⟨rfl, ((Below.refl _ _).alloc (Nat.le_refl _) _).trans (hb.mono (by simp))⟩

theorem left_any (s : ByteArray) (p e : Int) (w : World) (hs : s.size ≤ maxLen) :
    Calls Tryz.prog 60 #[CV s p e] w fun r w' => r = .returned (.int .i64 (leftR s p e)) ∧ Below w.heap.size w w' := by
  unfold leftR
  by_cases he : e = 0
  · subst he
    by_cases h : 0 ≤ p ∧ p ≤ s.size
    · rw [if_pos ⟨rfl, h⟩]; exact left_yes s p w hs h.1 h.2
    · rw [if_neg (fun x => h x.2)]; exact left_out s p w hs (by omega)
  · rw [if_neg (fun x => he x.1)]; exact left_failed s p e w (by simpa using he)

/-- What End tells. -/
def endR (s : ByteArray) (p e : Int) : Int := if e = 0 then (if 0 ≤ p ∧ p ≤ s.size then (if p < s.size then 5 else 0) else 2) else e

end Go.Proofs.YtkglolnghihegaaGreatDoor.Oct

/- Contracts of Num and Take of package octet: what they read, for every cursor and width. -/
namespace Go.Proofs.YtkglolnghihegaaGreatDoor.Oct
open Go.RowKit

set_option maxHeartbeats 400000 in
theorem num_ok (s : ByteArray) (p n : Int) (w : World) (hs : s.size ≤ maxLen) (h1 : 0 ≤ p) (h2 : p + n ≤ s.size) (h3 : 1 ≤ n) (h4 : n ≤ 7) :
    Calls Tryz.prog 97 #[CV s p 0, .int .i64 n] w fun r w' => r = .returned (.tuple #[CV s (p + n) 0, .int .i64 (numAt s p n.toNat)]) ∧ Below w.heap.size w w' := by
  obtain ⟨p, rfl⟩ := Int.eq_ofNat_of_zero_le h1
  have h5 : (p : Int) ≤ s.size := by omega
  have hd : decide ((s.size : Int) - p < n) = false := by simp; omega
  go_enter Tryz.func97, Tryz.ntmps97
  go_wp2_with fail
  refine (inside_yes s p 0 _ hs h1 h5).mono ?_
  rintro r w1 ⟨rfl, hb⟩
  obtain ⟨hc, hf⟩ := bcell hb
  have hz : w.heap.size + 1 < w1.heap.size := by have := hb.size; simp at this; omega
  go_wp2_with fail
  refine (isWidth_yes n _ h3 h4).mono ?_
  rintro r w1' ⟨rfl, rfl⟩
  go_wp2_with fail
  refine (left_yes s p _ hs h1 h5).mono ?_
  rintro r w2 ⟨rfl, hb2⟩
  have hz2 : w.heap.size + 1 < w2.heap.size := by have := hb2.size; omega
  have B0 : Box w2 w.heap.size (.string s) (.int .i64 p) (.int .i64 0) := (((Box.new w _ _ _ 116).alloc (by simp) _).below hb (by simp; omega)).below hb2 (by omega)
  have B1 : Box w2 (w.heap.size + 1) (.string ⟨#[]⟩) (.int .i64 0) (.int .i64 0) := by
    have h0 := Box.new (w.alloc (.cells #[.string s, .int .i64 p, .int .i64 0] 116)) (.string ⟨#[]⟩) (.int .i64 0) (.int .i64 0) 116
    rw [World.size_alloc] at h0
    exact (h0.below hb (by simp)).below hb2 (by omega)
  have HB : Hid (Below w.heap.size w w2) := Lib.hid ((((Below.refl _ _).alloc (Nat.le_refl _) _).alloc (by simp) _).trans ((hb.mono (by simp; omega)).trans (hb2.mono (by omega))))
  clear hb hb2 hc hf hz
  obtain ⟨x0, x1, x2, y0, y1, y2⟩ := B0
  obtain ⟨x3, x4, x5, y3, y4, y5⟩ := B1
  unfold maxLen at hs
  go_wp2
  go_loop [6, 29] (fun a i => ∃ k : Nat, (k : Int) ≤ n ∧ i = .int .i64 k ∧ a = .int .i64 (numAt s p k)) (fun _ i => (n - intOf i).toNat)
  case atStart => exact ⟨0, by omega, rfl, by rw [numAt_zero]⟩
  case round =>
    obtain ⟨k, hk, rfl, rfl⟩ := hrel
    by_cases hlt : (k : Int) < n
    · have hi : p + k < s.size := by omega
      go_wp2
      go_round
      case rel => exact ⟨k + 1, by omega, by go_num, by rw [num_step s p k (by omega) hi]⟩
      case measure => simp [intOf]; omega
    · obtain rfl : n = k := by omega
      go_wp2
      refine bodyPost_ret (v := .tuple #[CV s (p + k) 0, .int .i64 (numAt s p k)]) (by simp [results, Tryz.results97, go_sem, *]) rfl ⟨rfl, ?_⟩
      exact (((HB.out.setCell (Nat.le_refl _) _).setCell (Nat.le_succ _) _).setCell (Nat.le_succ _) _).setCell (Nat.le_succ _) _

theorem num_failed (s : ByteArray) (p e n : Int) (w : World) (he : (e != 0) = true) :
    Calls Tryz.prog 97 #[CV s p e, .int .i64 n] w fun r w' => r = .returned (.tuple #[CV s p e, .int .i64 0]) ∧ Below w.heap.size w w' := by
  go_enter Tryz.func97, Tryz.ntmps97
  go_wp2_with fail
  refine bodyPost_ret (v := .tuple #[CV s p e, .int .i64 0]) (by simp [results, Tryz.results97, go_sem]) rfl ⟨rfl, ?_⟩
  exact ((Below.refl _ _).alloc (Nat.le_refl _) _).alloc (by simp) _

/-- What is known of the two blocks of Num behind calls. -/
theorem num_boxes {s : ByteArray} {p e : Int} {w w1 : World} (hb : Below ((w.alloc (.cells #[.string s, .int .i64 p, .int .i64 e] 116)).alloc (.cells #[.string ⟨#[]⟩, .int .i64 0, .int .i64 0] 116)).heap.size ((w.alloc (.cells #[.string s, .int .i64 p, .int .i64 e] 116)).alloc (.cells #[.string ⟨#[]⟩, .int .i64 0, .int .i64 0] 116)) w1) :
    Box w1 w.heap.size (.string s) (.int .i64 p) (.int .i64 e) ∧ Box w1 (w.heap.size + 1) (.string ⟨#[]⟩) (.int .i64 0) (.int .i64 0) ∧ Below w.heap.size w w1 ∧ w.heap.size + 1 < w1.heap.size := by
  refine ⟨((Box.new w _ _ _ 116).alloc (by simp) _).below hb (by simp; omega), ?_, (((Below.refl _ _).alloc (Nat.le_refl _) _).alloc (by simp) _).trans (hb.mono (by simp; omega)), by have := hb.size; simp at this; omega⟩
  have h0 := Box.new (w.alloc (.cells #[.string s, .int .i64 p, .int .i64 e] 116)) (.string ⟨#[]⟩) (.int .i64 0) (.int .i64 0) 116
  rw [World.size_alloc] at h0
  exact h0.below hb (by simp)

theorem num_out (s : ByteArray) (p n : Int) (w : World) (hs : s.size ≤ maxLen) (h : p < 0 ∨ s.size < p) :
    Calls Tryz.prog 97 #[CV s p 0, .int .i64 n] w fun r w' => r = .returned (.tuple #[CV s p 2, .int .i64 0]) ∧ Below w.heap.size w w' := by
  have H := Lib.hid h
  clear h
  go_enter Tryz.func97, Tryz.ntmps97
  go_wp2_with fail
  refine (inside_no s p 0 _ hs H.out).mono ?_
  rintro r w1 ⟨rfl, hb⟩
  obtain ⟨⟨x0, x1, x2, y0, y1, y2⟩, B1, hB, hz⟩ := num_boxes hb
  have B1' := Lib.hid B1
  have HB := Lib.hid hB
  clear hb B1 hB
  go_wp2_with fail
  refine (failed_any s p 0 2 _).mono ?_
  rintro r w2 ⟨rfl, hb2⟩
  obtain ⟨x3, x4, x5, y3, y4, y5⟩ := B1'.out.below hb2 hz
  have hz2 : w.heap.size + 1 < w2.heap.size := by have := hb2.size; omega
  go_wp2
  refine bodyPost_ret (v := .tuple #[CV s p 2, .int .i64 0]) (by simp [results, Tryz.results97, go_sem, *]) rfl ⟨rfl, ?_⟩
  exact (((HB.out.trans (hb2.mono (by omega))).setCell (Nat.le_succ _) _).setCell (Nat.le_succ _) _).setCell (Nat.le_succ _) _

theorem num_width (s : ByteArray) (p n : Int) (w : World) (hs : s.size ≤ maxLen) (h1 : 0 ≤ p) (h2 : p ≤ s.size) (h : n < 1 ∨ 7 < n) :
    Calls Tryz.prog 97 #[CV s p 0, .int .i64 n] w fun r w' => r = .returned (.tuple #[CV s p 2, .int .i64 0]) ∧ Below w.heap.size w w' := by
  have H := Lib.hid h
  clear h
  go_enter Tryz.func97, Tryz.ntmps97
  go_wp2_with fail
  refine (inside_yes s p 0 _ hs h1 h2).mono ?_
  rintro r w1 ⟨rfl, hb⟩
  obtain ⟨⟨x0, x1, x2, y0, y1, y2⟩, B1, hB, hz⟩ := num_boxes hb
  have B1' := Lib.hid B1
  have HB := Lib.hid hB
  clear hb B1 hB
  go_wp2_with fail
  refine (isWidth_no n _ H.out).mono ?_
  rintro r w1' ⟨rfl, rfl⟩
  go_wp2_with fail
  refine (failed_any s p 0 2 _).mono ?_
  rintro r w2 ⟨rfl, hb2⟩
  obtain ⟨x3, x4, x5, y3, y4, y5⟩ := B1'.out.below hb2 hz
  have hz2 : w.heap.size + 1 < w2.heap.size := by have := hb2.size; omega
  go_wp2
  refine bodyPost_ret (v := .tuple #[CV s p 2, .int .i64 0]) (by simp [results, Tryz.results97, go_sem, *]) rfl ⟨rfl, ?_⟩
  exact (((HB.out.trans (hb2.mono (by omega))).setCell (Nat.le_succ _) _).setCell (Nat.le_succ _) _).setCell (Nat.le_succ _) _

theorem num_cut (s : ByteArray) (p n : Int) (w : World) (hs : s.size ≤ maxLen) (h1 : 0 ≤ p) (h2 : p ≤ s.size) (h3 : 1 ≤ n) (h4 : n ≤ 7) (h5 : s.size - p < n) :
    Calls Tryz.prog 97 #[CV s p 0, .int .i64 n] w fun r w' => r = .returned (.tuple #[CV s p 3, .int .i64 0]) ∧ Below w.heap.size w w' := by
  go_enter Tryz.func97, Tryz.ntmps97
  go_wp2_with fail
  refine (inside_yes s p 0 _ hs h1 h2).mono ?_
  rintro r w1 ⟨rfl, hb⟩
  obtain ⟨B0, B1, hB, hz⟩ := num_boxes hb
  obtain ⟨x0, x1, x2, y0, y1, y2⟩ := B0
  have B1' := Lib.hid B1
  have HB := Lib.hid hB
  clear hb B1 hB
  go_wp2_with fail
  refine (isWidth_yes n _ h3 h4).mono ?_
  rintro r w1' ⟨rfl, rfl⟩
  go_wp2_with fail
  refine (left_yes s p _ hs h1 h2).mono ?_
  rintro r w2 ⟨rfl, hb2⟩
  obtain ⟨x0', x1', x2', y0', y1', y2'⟩ := Box.below ⟨x0, x1, x2, y0, y1, y2⟩ hb2 (by omega)
  have HB2 := Lib.hid hb2
  clear hb2
  go_wp2_with fail
  refine (failed_any s p 0 3 _).mono ?_
  rintro r w3 ⟨rfl, hb3⟩
  have hz2 : w.heap.size + 1 < w2.heap.size := by have := HB2.out.size; omega
  have hz3 : w.heap.size + 1 < w3.heap.size := by have := hb3.size; omega
  obtain ⟨x3, x4, x5, y3, y4, y5⟩ := (B1'.out.below HB2.out hz).below hb3 hz2
  go_wp2
  refine bodyPost_ret (v := .tuple #[CV s p 3, .int .i64 0]) (by simp [results, Tryz.results97, go_sem, *]) rfl ⟨rfl, ?_⟩
  exact ((((HB.out.trans (HB2.out.mono (by omega))).trans (hb3.mono (by omega))).setCell (Nat.le_succ _) _).setCell (Nat.le_succ _) _).setCell (Nat.le_succ _) _

/-- What Num reads: the place, the error, the number. -/
def numR (s : ByteArray) (p e n : Int) : Int × Int × Int :=
  if e = 0 then (if 0 ≤ p ∧ p ≤ s.size ∧ 1 ≤ n ∧ n ≤ 7 then (if s.size - p < n then (p, 3, 0) else (p + n, 0, numAt s p n.toNat)) else (p, 2, 0)) else (p, e, 0)

theorem num_any (s : ByteArray) (p e n : Int) (w : World) (hs : s.size ≤ maxLen) :
    Calls Tryz.prog 97 #[CV s p e, .int .i64 n] w fun r w' => r = .returned (.tuple #[CV s (numR s p e n).1 (numR s p e n).2.1, .int .i64 (numR s p e n).2.2]) ∧ Below w.heap.size w w' := by
  unfold numR
  by_cases he : e = 0
  · subst he
    rw [if_pos rfl]
    by_cases h : 0 ≤ p ∧ p ≤ s.size ∧ 1 ≤ n ∧ n ≤ 7
    · rw [if_pos h]
      obtain ⟨h1, h2, h3, h4⟩ := h
      by_cases hc : s.size - p < n
      · rw [if_pos hc]; exact num_cut s p n w hs h1 h2 h3 h4 hc
      · rw [if_neg hc]; exact num_ok s p n w hs h1 (by omega) h3 h4
    · rw [if_neg h]
      by_cases hi : 0 ≤ p ∧ p ≤ s.size
      · exact num_width s p n w hs hi.1 hi.2 (by omega)
      · exact num_out s p n w hs (by omega)
  · rw [if_neg he]; exact num_failed s p e n w (by simpa using he)

end Go.Proofs.YtkglolnghihegaaGreatDoor.Oct

/- Slices that came in, read cell by cell. -/
namespace Go.Proofs.YtkglolnghihegaaGreatDoor.Oct
open Go.RowKit

/-- A slice of n elements of one cell each reads as these values. -/
def ReadsV (w : World) (a : Option Addr) (n : Nat) (vs : List Value) : Prop :=
  vs.length = n ∧ (0 < n → ∃ b off, a = some ⟨b, off, none⟩ ∧ b < w.heap.size ∧ ∀ i, (hi : i < vs.length) → w.cell? ⟨b, off + i, none⟩ = some vs[i])

theorem cell_lt {w : World} {p : Addr} {v : Value} (h : w.cell? p = some v) : p.block < w.heap.size := by
  by_cases hl : p.block < w.heap.size
  · exact hl
  · have : w.heap[p.block]? = none := Array.getElem?_eq_none (by omega)
    unfold World.cell? at h
    split at h
    · rename_i h1; rw [this] at h1; cases h1
    · cases h

theorem ReadsV.below {w w' : World} {a : Option Addr} {n : Nat} {vs : List Value} (h : ReadsV w a n vs) (hb : Below w.heap.size w w') : ReadsV w' a n vs :=
  ⟨h.1, fun hn => by
    obtain ⟨b, off, e, hl, hc⟩ := h.2 hn
    exact ⟨b, off, e, Nat.lt_of_lt_of_le hl hb.size, fun i hi => (hb.cell (p := ⟨b, off + i, none⟩) hl).trans (hc i hi)⟩⟩

theorem readsV_of {w : World} {x : Addr} {n : Nat} {vs : List Value} (hl : vs.length = n) (h : ∀ i, (hi : i < vs.length) → w.cell? (x.add i) = some vs[i]) : ReadsV w (some x) n vs := by
  refine ⟨hl, fun hn => ?_⟩
  obtain ⟨b, off, spot⟩ := x
  have hc := h 0 (by omega)
  have hspot : spot = none := by simpa [Addr.add] using World.cell?_spot hc
  subst hspot
  refine ⟨b, off, rfl, ?_, fun i hi => ?_⟩
  · have := cell_lt hc
    simpa [Addr.add] using this
  · have := h i hi
    have e : (⟨b, off, none⟩ : Addr).add i = ⟨b, off + i, none⟩ := by by_cases h0 : i = 0 <;> simp [Addr.add, h0]
    rwa [e] at this

theorem undrew {w w' : World} (h : Below w.drew.heap.size w.drew w') : Below w.heap.size w w' := ⟨h.os, h.tape, h.output, h.size, h.block⟩

theorem Box.of_block {w w' : World} {b : Nat} {x y z : Value} (h : Box w b x y z) (e : w'.heap[b]? = w.heap[b]?) : Box w' b x y z :=
  ⟨(World.cell?_of_block (a := ⟨b, 0, none⟩) e).trans h.c0, (World.cell?_of_block (a := ⟨b, 1, none⟩) e).trans h.c1, (World.cell?_of_block (a := ⟨b, 2, none⟩) e).trans h.c2,
   (World.frozen?_of_block (a := ⟨b, 0, none⟩) e).trans h.f0, (World.frozen?_of_block (a := ⟨b, 1, none⟩) e).trans h.f1, (World.frozen?_of_block (a := ⟨b, 2, none⟩) e).trans h.f2⟩
theorem Box.far {w : World} {b : Nat} {x y z : Value} (h : Box w b x y z) {p : Addr} (hp : b ≠ p.block) (v : Value) : Box (w.setCell p v) b x y z :=
  h.of_block (Below.heap_setCell _ _ _ _ hp)

theorem Box.set3 {w : World} {b : Nat} {x y z : Value} (h : Box w b x y z) (x' y' z' : Value) : Box (((w.setCell ⟨b, 0, none⟩ x').setCell ⟨b, 1, none⟩ y').setCell ⟨b, 2, none⟩ z') b x' y' z' := by
  obtain ⟨c0, c1, c2, f0, f1, f2⟩ := h
  constructor <;> simp [go_sem, *]

/-- What is known behind a store of three cells into the block g, one of the call's own, another one than b. -/
theorem set3_keeps {a w : World} {g b : Nat} {x y z u v t : Value} (hb : Below a.heap.size a w) (hg : Box w g x y z) (h : Box w b u v t) (hne : b ≠ g) (ha : a.heap.size ≤ g) (x' y' z' : Value) :
    Box (((w.setCell ⟨g, 0, none⟩ x').setCell ⟨g, 1, none⟩ y').setCell ⟨g, 2, none⟩ z') g x' y' z' ∧ Box (((w.setCell ⟨g, 0, none⟩ x').setCell ⟨g, 1, none⟩ y').setCell ⟨g, 2, none⟩ z') b u v t ∧
      Below a.heap.size a (((w.setCell ⟨g, 0, none⟩ x').setCell ⟨g, 1, none⟩ y').setCell ⟨g, 2, none⟩ z') ∧ (((w.setCell ⟨g, 0, none⟩ x').setCell ⟨g, 1, none⟩ y').setCell ⟨g, 2, none⟩ z').heap.size = w.heap.size :=
  ⟨hg.set3 _ _ _, ((h.far hne _).far hne _).far hne _, ((hb.setCell ha _).setCell ha _).setCell ha _, by simp [World.setCell]⟩

end Go.Proofs.YtkglolnghihegaaGreatDoor.Oct

/- Contracts of grown and lay of package octet, and words for a row of bytes that is known whole. -/
namespace Go.Proofs.YtkglolnghihegaaGreatDoor.Oct
open Go.RowKit Go.Deep

/-- Bytes as cells. -/
def bv (l : List UInt8) : List Value := l.map fun b => Value.int .u8 b.toNat
theorem bv_length (l : List UInt8) : (bv l).length = l.length := by simp [bv]
theorem bv_append (l m : List UInt8) : bv (l ++ m) = bv l ++ bv m := by simp [bv]
theorem bv_getElem? (l : List UInt8) (i : Nat) : (bv l)[i]? = l[i]?.map fun b => Value.int .u8 b.toNat := by simp [bv]
theorem bv_one (l : List UInt8) : ∀ v ∈ bv l, v.oneCell' = true := by
  intro v hv
  obtain ⟨b, _, rfl⟩ := List.mem_map.1 hv
  rfl

/-- The block g is just these bytes. -/
def Row (w : World) (g : Nat) (l : List UInt8) : Prop := w.heap[g]? = some (.cells (bv l).toArray 5 (0, 0))

theorem Row.lt {w : World} {g : Nat} {l : List UInt8} (h : Row w g l) : g < w.heap.size := by
  unfold Row at h
  by_cases hl : g < w.heap.size
  · exact hl
  · rw [Array.getElem?_eq_none (by omega)] at h; cases h
theorem Row.cell {w : World} {g : Nat} {l : List UInt8} (h : Row w g l) {i : Nat} (hi : i < l.length) : w.cell? ⟨g, i, none⟩ = some (.int .u8 l[i].toNat) := by
  rw [cell_of_row w g i _ 5 _ h]
  simp [bv, hi]
theorem Row.frozen {w : World} {g : Nat} {l : List UInt8} (h : Row w g l) (i : Nat) : w.frozen? ⟨g, i, none⟩ = false := by
  unfold Row at h
  simp [World.frozen?, h]
theorem Row.below {w w' : World} {g B : Nat} {l : List UInt8} (h : Row w g l) (hb : Below B w w') (hg : g < B) : Row w' g l := (hb.block g hg).trans h
theorem Row.alloc {w : World} {g : Nat} {l : List UInt8} (h : Row w g l) (o : Obj) : Row (w.alloc o) g l := (Below.heap_alloc w o g h.lt).trans h
theorem Row.set {w : World} {g : Nat} {l : List UInt8} (h : Row w g l) (i : Nat) (b : UInt8) : Row (w.setCell ⟨g, i, none⟩ (.int .u8 b.toNat)) g (l.set i b) := by
  unfold Row at h ⊢
  simp [World.setCell, Array.getElem?_modify, h, bv]

/-- A slice of n elements reads as these bytes. -/
def Reads (w : World) (a : Option Addr) (n : Nat) (l : List UInt8) : Prop :=
  l.length = n ∧ (0 < n → ∃ ad : Addr, a = some ad ∧ ad.block < w.heap.size ∧ ∀ i, (hi : i < l.length) → w.cell? (ad.add i) = some (.int .u8 l[i].toNat))

theorem Row.reads {w : World} {g : Nat} {l : List UInt8} (h : Row w g l) : Reads w (some ⟨g, 0, none⟩) l.length l :=
  ⟨rfl, fun _ => ⟨_, rfl, h.lt, fun i hi => by
    have e : (⟨g, 0, none⟩ : Addr).add i = ⟨g, i, none⟩ := by by_cases h0 : i = 0 <;> simp [Addr.add, h0]
    rw [e]; exact h.cell hi⟩⟩
theorem Reads.below {w w' : World} {a : Option Addr} {n : Nat} {l : List UInt8} (h : Reads w a n l) (hb : Below w.heap.size w w') : Reads w' a n l :=
  ⟨h.1, fun hn => by
    obtain ⟨ad, e, hl, hc⟩ := h.2 hn
    refine ⟨ad, e, Nat.lt_of_lt_of_le hl hb.size, fun i hi => (hb.cell ?_).trans (hc i hi)⟩
    by_cases h0 : i = 0 <;> simpa [Addr.add, h0] using hl⟩

theorem Tryz.info5 : (Tryz.prog.info? 5).map (fun i => (i.zero, i.size, i.bytes)) = some (some (.int .u8 0), 1, 1) := by kernel_rfl
theorem Tryz.size5 : (Tryz.prog.info? 5).map (·.size) = some 1 := by kernel_rfl

theorem made_row (w : World) (n : Nat) : Row (w.alloc (.cells (madeCells #[.int .u8 0] n) 5)) w.heap.size (List.replicate n 0) := by
  unfold Row
  have h : madeCells #[.int .u8 0] n = (bv (List.replicate n 0)).toArray := by
    apply Array.toList_inj.1
    rw [toList_madeCells_one]
    simp [bv]
  rw [h]
  exact heap_alloc_new w _

theorem splice_front (n : Nat) (l : List UInt8) : splice (bv (List.replicate (l.length + n) 0)) 0 (bv l) = bv (l ++ List.replicate n 0) := by
  simp [splice, bv]

/-- A copy of a slice that reads as bytes over the front of a row. -/
theorem copy_front {w W : World} {a : Option Addr} {len cap m g : Nat} {l : List UInt8} {cur : List UInt8} (hR : Reads w a len l) (hb : Below w.heap.size w W) (hg : Row W g cur) (hc : cur.length = m) (hle : len ≤ m) (hB : w.heap.size ≤ g) :
    ∃ w1, (Builtin.copy_ #[59, 59] 3 #[.slice (some ⟨g, 0, none⟩) m m, .slice a len cap]).run Tryz.prog W = .ok (.int .i64 len) w1 ∧ Row w1 g (l ++ cur.drop l.length) ∧ Below w.heap.size w w1 := by
  obtain ⟨rfl, hR2⟩ := hR
  have hR' := Reads.below ⟨rfl, hR2⟩ hb
  by_cases h0 : l.length = 0
  · obtain rfl := List.length_eq_zero_iff.1 h0
    refine ⟨W, ?_, by simpa using hg, hb⟩
    have := run_copy_none (P := Tryz.prog) W 59 59 3 5 (some ⟨g, 0, none⟩) a m m 0 cap Tryz.underlying59 Tryz.size5 (by simp)
    simpa [goInt] using this
  · obtain ⟨ad, rfl, hlt, hcell⟩ := hR'.2 (by omega)
    have hrun := run_copy_row (P := Tryz.prog) W 59 59 3 5 g 0 m m ad l.length cap (bv cur).toArray 5 (bv l) Tryz.underlying59 Tryz.size5 hg (by rw [bv_length]; exact (Nat.min_eq_left hle).symm)
      (fun j v hv => by
        rw [bv_getElem?] at hv
        obtain ⟨b, hb1, rfl⟩ := Option.map_eq_some_iff.1 hv
        obtain ⟨hj, rfl⟩ := List.getElem?_eq_some_iff.1 hb1
        exact hcell j hj) (by simp [bv_length]; omega) (bv_one l)
    refine ⟨W.setRow g (bv (l ++ cur.drop l.length)).toArray, hrun.trans (by simp [goInt, bv]), setRow_heap W g _ _ 5 _ hg, below_setRow hb hB _⟩

set_option maxHeartbeats 400000 in
theorem grown_any (a : Option Addr) (len cap more : Nat) (l : List UInt8) (w : World) (hR : Reads w a len l) (hm : len + more ≤ 140737488355328) :
    Calls Tryz.prog 92 #[.slice a len cap, .int .i64 more] w fun r w' => r = .returned (.slice (some ⟨w.heap.size, 0, none⟩) (len + more) (len + more)) ∧ Row w' w.heap.size (l ++ List.replicate more 0) ∧ Below w.heap.size w w' := by
  have hl := hR.1
  have hmk := fun W => run_make_row' (P := Tryz.prog) 59 5 (.int .u8 0) 1 Tryz.underlying59 Tryz.info5 rfl .i64 .i64 (len + more) (by omega) (by omega) W
  rw [show ((len + more : Nat) : Int) = (len : Int) + more from by omega] at hmk
  obtain ⟨w1, hcp, hrow, hbel⟩ := copy_front (cap := cap) hR ((Below.refl _ _).push _) (made_row w (len + more)) (List.length_replicate ..) (by omega) (Nat.le_refl _)
  have e : l ++ (List.replicate (len + more) (0 : UInt8)).drop l.length = l ++ List.replicate more 0 := by rw [List.drop_replicate, hl, Nat.add_sub_cancel_left]
  rw [e] at hrow
  have HR := Lib.hid hrow
  have HB := Lib.hid hbel
  clear hR hrow hbel e hl
  go_enter Tryz.func92, Tryz.ntmps92
  go_wp2
  go_ret
  exact ⟨rfl, HR.out, HB.out⟩

/-- The lowest j bytes of x, the highest one first. -/
def beB : Nat → Nat → List UInt8
  | 0, _ => []
  | j + 1, x => UInt8.ofNat (x / 256 ^ j % 256) :: beB j x
theorem beB_length (j x : Nat) : (beB j x).length = j := by induction j with
  | zero => rfl
  | succ j ih => simp [beB, ih]

/-- A row whose last j bytes ahead of the place e are those of x. -/
def layed (L : List UInt8) (e j x : Nat) : List UInt8 := L.take (e - j) ++ (beB j x ++ L.drop e)
theorem layed_zero (L : List UInt8) (e x : Nat) : layed L e 0 x = L := by simp [layed, beB]
theorem layed_length (L : List UInt8) (e j x : Nat) (h : e ≤ L.length) (hj : j ≤ e) : (layed L e j x).length = L.length := by
  simp [layed, beB_length]; omega
theorem layed_step (L : List UInt8) (e j x : Nat) (h : e ≤ L.length) (hj : j < e) : (layed L e j x).set (e - (j + 1)) (UInt8.ofNat (x / 256 ^ j % 256)) = layed L e (j + 1) x := by
  unfold layed
  have e1 : L.take (e - j) = L.take (e - (j + 1)) ++ [L[e - (j + 1)]] := by
    rw [show e - j = e - (j + 1) + 1 from by omega, List.take_succ_eq_append_getElem (by omega)]
  rw [e1, List.append_assoc, List.set_append_right _ _ (by simp; omega)]
  have : e - (j + 1) - (L.take (e - (j + 1))).length = 0 := by simp; omega
  rw [this]
  simp [beB]

theorem lay_round (L : List UInt8) (e n k x q : Nat) (h : e ≤ L.length) (hk : k < n) (hn : n ≤ e) (hq : q = x / 256 ^ (n - (k + 1))) :
    q / 256 = x / 256 ^ (n - k) ∧ (layed L e (n - (k + 1)) x).set (e - (n - k)) (UInt8.ofNat (q % 256)) = layed L e (n - k) x := by
  have e1 : n - k = n - (k + 1) + 1 := by omega
  refine ⟨by rw [hq, e1, Nat.pow_succ, Nat.div_div_eq_div_mul], ?_⟩
  rw [hq, e1]
  exact layed_step L e (n - (k + 1)) x h (by omega)

set_option maxHeartbeats 400000 in
theorem lay_any (g off n cap x : Nat) (L : List UInt8) (w : World) (hg : Row w g L) (hfit : off + n ≤ L.length) (hL : L.length ≤ 140737488355328) (hx : x < 9223372036854775808) :
    Calls Tryz.prog 93 #[.slice (some ⟨g, off, none⟩) n cap, .int .i64 x] w fun r w' => r = .returned (.tuple #[]) ∧ Row w' g (layed L (off + n) n x) ∧ Below g w w' := by
  have HG := Lib.hid hg
  clear hg
  go_enter Tryz.func93, Tryz.ntmps93
  go_wp2
  go_loopw [1, 4] (fun y i wr => ∃ (z : Int) (q : Nat), -1 ≤ z ∧ z < n ∧ i = .int .i64 z ∧ y = .int .i64 (q : Int) ∧ q < 9223372036854775808 ∧ Hid (q = x / 256 ^ (n - (z + 1).toNat)) ∧ Row wr g (layed L (off + n) (n - (z + 1).toNat) x) ∧ Below g w wr) (fun _ i _ => (intOf i + 1).toNat)
  case atStart =>
    have e : n - ((n : Int) - 1 + 1).toNat = 0 := by omega
    exact ⟨(n : Int) - 1, x, by omega, by omega, rfl, rfl, hx, by rw [e]; exact Lib.hid (by simp), by rw [e, layed_zero]; exact HG.out, Below.refl _ _⟩
  case round =>
    obtain ⟨z, q, hz1, hz2, rfl, rfl, hq, Hq, hrow, hbel⟩ := hrel
    by_cases hlt : 0 ≤ z
    · obtain ⟨k, rfl⟩ := Int.eq_ofNat_of_zero_le hlt
      have hk : k < n := by omega
      have e : n - ((k : Int) + 1).toNat = n - (k + 1) := by omega
      rw [e] at Hq hrow
      have hc := hrow.cell (i := off + k) (by rw [layed_length _ _ _ _ hfit (by omega)]; omega)
      generalize hv : (layed L (off + n) (n - (k + 1)) x)[off + k]'_ = v at hc
      have hf := hrow.frozen (off + k)
      have HR := Lib.hid hrow
      clear hv hrow e
      go_wp2
      go_roundw
      case rel =>
        obtain ⟨e1, e2⟩ := lay_round L (off + n) n k x q hfit hk (by omega) Hq.out
        refine ⟨(k : Int) - 1, q / 256, by omega, by omega, rfl, by go_num, by omega, ?_, ?_, hbel.setCell (Nat.le_refl _) _⟩
        · rw [show n - ((k : Int) - 1 + 1).toNat = n - k from by omega]; exact e1
        · rw [show n - ((k : Int) - 1 + 1).toNat = n - k from by omega, ← e2, show off + n - (n - k) = off + k from by omega]
          have := HR.out.set (off + k) (UInt8.ofNat (q % 256))
          rw [show ((UInt8.ofNat (q % 256)).toNat : Int) = (q : Int) % 256 from by simp] at this
          exact this
      case measure => simp [intOf]
    · obtain rfl : z = -1 := by omega
      go_wp2
      go_end0
      exact ⟨rfl, hrow, hbel⟩

end Go.Proofs.YtkglolnghihegaaGreatDoor.Oct

/- Contract of Take of package octet: the text that it reads, for every cursor. -/
namespace Go.Proofs.YtkglolnghihegaaGreatDoor.Oct
open Go.RowKit

/-- What Take reads: the place, the error, the text. -/
def takeR (s : ByteArray) (p e : Int) : Int × Int × ByteArray :=
  if (numR s p e 2).2.1 = 0 then
    (if s.size - (numR s p e 2).1 < (numR s p e 2).2.2 then (p, 3, ⟨#[]⟩)
     else ((numR s p e 2).1 + (numR s p e 2).2.2, 0, s.extract (numR s p e 2).1.toNat ((numR s p e 2).1 + (numR s p e 2).2.2).toNat))
  else ((numR s p e 2).1, (numR s p e 2).2.1, ⟨#[]⟩)

theorem numR_bad {s : ByteArray} {p e n : Int} (h : (numR s p e n).2.1 ≠ 0) : (numR s p e n).1 = p ∧ (numR s p e n).2.2 = 0 := by
  unfold numR at *
  split
  · split
    · split
      · exact ⟨rfl, rfl⟩
      · rename_i h1 h2 h3; simp [h1, h2, h3] at h
    · exact ⟨rfl, rfl⟩
  · exact ⟨rfl, rfl⟩

theorem numR_good {s : ByteArray} {p e n : Int} (h : (numR s p e n).2.1 = 0) :
    e = 0 ∧ 0 ≤ p ∧ 1 ≤ n ∧ n ≤ 7 ∧ p + n ≤ s.size ∧ numR s p e n = (p + n, 0, numAt s p n.toNat) := by
  unfold numR at *
  by_cases he : e = 0
  · rw [if_pos he] at h ⊢
    by_cases h2 : 0 ≤ p ∧ p ≤ s.size ∧ 1 ≤ n ∧ n ≤ 7
    · rw [if_pos h2] at h ⊢
      by_cases h3 : s.size - p < n
      · rw [if_pos h3] at h; simp at h
      · rw [if_neg h3]; exact ⟨he, by omega, by omega, by omega, by omega, rfl⟩
    · rw [if_neg h2] at h; simp at h
  · rw [if_neg he] at h; simp at h; omega

set_option maxHeartbeats 400000 in
theorem take_bad (s : ByteArray) (p e : Int) (w : World) (hs : s.size ≤ maxLen) (h : (numR s p e 2).2.1 ≠ 0) :
    Calls Tryz.prog 61 #[CV s p e] w fun r w' => r = .returned (.tuple #[CV s p (numR s p e 2).2.1, .string ⟨#[]⟩]) ∧ Below w.heap.size w w' := by
  have hn := fun w => num_any s p e 2 w hs
  obtain ⟨e1, e2⟩ := numR_bad h
  rw [e1, e2] at hn
  generalize (numR s p e 2).2.1 = f at *
  have hf : (f != 0) = true := by simpa using h
  have HN := Lib.hid hn
  clear hn e1 e2 h
  go_enter Tryz.func61, Tryz.ntmps61
  go_wp2_with fail
  refine (HN.out _).mono ?_
  rintro r w1 ⟨rfl, hb⟩
  obtain ⟨B0, B1, hB, hz⟩ := num_boxes hb
  obtain ⟨x3, x4, x5, y3, y4, y5⟩ := B1
  have HB := Lib.hid hB
  clear hb hB B0
  go_wp2_with fail
  refine bodyPost_ret (v := .tuple #[CV s p f, .string ⟨#[]⟩]) (by simp [results, Tryz.results61, go_sem, *]) rfl ⟨rfl, ?_⟩
  exact (((HB.out.setCell (Nat.le_succ _) _).setCell (Nat.le_succ _) _).setCell (Nat.le_succ _) _).push _

set_option maxHeartbeats 400000 in
theorem take_good (s : ByteArray) (p : Int) (m : Int) (w : World) (hs : s.size ≤ maxLen) (h1 : 0 ≤ p) (h2 : p + 2 ≤ s.size) (hm : numAt s p 2 = m) (h3 : m ≤ s.size - (p + 2)) :
    Calls Tryz.prog 61 #[CV s p 0] w fun r w' => r = .returned (.tuple #[CV s (p + 2 + m) 0, .string (s.extract (p + 2).toNat (p + 2 + m).toNat)]) ∧ Below w.heap.size w w' := by
  have hn := fun w => num_ok s p 2 w hs h1 h2 (by omega) (by omega)
  rw [show (2 : Int).toNat = 2 from rfl, hm] at hn
  have hm0 := numAt_nonneg s p 2
  rw [hm] at hm0
  have HN := Lib.hid hn
  clear hn hm
  obtain ⟨p, rfl⟩ := Int.eq_ofNat_of_zero_le h1
  obtain ⟨m, rfl⟩ := Int.eq_ofNat_of_zero_le hm0
  go_enter Tryz.func61, Tryz.ntmps61
  go_wp2_with fail
  refine (HN.out _).mono ?_
  rintro r w1 ⟨rfl, hb⟩
  obtain ⟨B0, B1, hB, hz⟩ := num_boxes hb
  have HB0 := Lib.hid B0
  have HB1 := Lib.hid B1
  have HB := Lib.hid hB
  clear hb hB B0 B1
  go_wp2_with fail
  refine (left_yes s (p + 2) _ hs (by omega) h2).mono ?_
  rintro r w2 ⟨rfl, hb2⟩
  have hl : w1.heap.size < w2.heap.size := by have := hb2.size; simp at this; omega
  have hz2 : w.heap.size + 1 < w2.heap.size := by omega
  obtain ⟨x3, x4, x5, y3, y4, y5⟩ := (HB1.out.alloc hz _).below hb2 (by simp; omega)
  obtain ⟨x6, x7, x8, y6, y7, y8⟩ := (Box.new w1 (.string s) (.int .i64 (p + 2)) (.int .i64 0) 116).below hb2 (by simp)
  have HB2 := Lib.hid ((HB.out.push _).call hb2)
  have hne : w.heap.size + 1 ≠ w1.heap.size := by omega
  clear hb2
  unfold maxLen at hs
  have hsl := fun wx => run_slice_string (P := Tryz.prog) (w := wx) 9 s .i64 .i64 ((p : Int) + 2) ((p : Int) + 2 + m) Tryz.underlying9 (by omega) (by omega) (by omega)
  go_wp2
  have hsz : w.heap.size ≤ w1.heap.size := by omega
  refine bodyPost_ret (v := .tuple #[CV s (p + 2 + m) 0, .string (s.extract (p + 2) (p + 2 + m))]) (by simp [results, Tryz.results61, go_sem, *]) rfl ⟨rfl, ?_⟩
  exact (((HB2.out.setCell hsz _).setCell (Nat.le_succ _) _).setCell (Nat.le_succ _) _).setCell (Nat.le_succ _) _

set_option maxHeartbeats 400000 in
theorem take_short (s : ByteArray) (p : Int) (m : Int) (w : World) (hs : s.size ≤ maxLen) (h1 : 0 ≤ p) (h2 : p + 2 ≤ s.size) (hm : numAt s p 2 = m) (h3 : s.size - (p + 2) < m) :
    Calls Tryz.prog 61 #[CV s p 0] w fun r w' => r = .returned (.tuple #[CV s p 3, .string ⟨#[]⟩]) ∧ Below w.heap.size w w' := by
  have hn := fun w => num_ok s p 2 w hs h1 h2 (by omega) (by omega)
  rw [show (2 : Int).toNat = 2 from rfl, hm] at hn
  have hm0 := numAt_nonneg s p 2
  rw [hm] at hm0
  have HN := Lib.hid hn
  clear hn hm
  go_enter Tryz.func61, Tryz.ntmps61
  go_wp2_with fail
  refine (HN.out _).mono ?_
  rintro r w1 ⟨rfl, hb⟩
  obtain ⟨B0, B1, hB, hz⟩ := num_boxes hb
  have HB0 := Lib.hid B0
  have HB1 := Lib.hid B1
  have HB := Lib.hid hB
  clear hb hB B0 B1
  go_wp2_with fail
  refine (left_yes s (p + 2) _ hs (by omega) h2).mono ?_
  rintro r w2 ⟨rfl, hb2⟩
  have hl : w1.heap.size < w2.heap.size := by have := hb2.size; simp at this; omega
  have hz2 : w.heap.size + 1 < w2.heap.size := by omega
  have D0 := (HB0.out.alloc (by omega) (.cells #[.string s, .int .i64 (p + 2), .int .i64 0] 116)).below hb2 (by simp; omega)
  have D1 := Lib.hid ((HB1.out.alloc hz (.cells #[.string s, .int .i64 (p + 2), .int .i64 0] 116)).below hb2 (by simp; omega))
  have HB2 := Lib.hid ((HB.out.push _).call hb2)
  clear hb2 HB0 HB1 HB
  obtain ⟨x0, x1, x2, y0, y1, y2⟩ := D0
  go_wp2_with fail
  refine (failed_any s p 0 3 _).mono ?_
  rintro r w3 ⟨rfl, hb3⟩
  have hz3 : w.heap.size + 1 < w3.heap.size := by have := hb3.size; omega
  obtain ⟨x3, x4, x5, y3, y4, y5⟩ := D1.out.below hb3 hz2
  have HB3 := Lib.hid (HB2.out.call hb3)
  clear hb3 x0 x1 x2 y0 y1 y2
  go_wp2
  refine bodyPost_ret (v := .tuple #[CV s p 3, .string ⟨#[]⟩]) (by simp [results, Tryz.results61, go_sem, *]) rfl ⟨rfl, ?_⟩
  exact ((HB3.out.setCell (Nat.le_succ _) _).setCell (Nat.le_succ _) _).setCell (Nat.le_succ _) _

theorem take_any (s : ByteArray) (p e : Int) (w : World) (hs : s.size ≤ maxLen) :
    Calls Tryz.prog 61 #[CV s p e] w fun r w' => r = .returned (.tuple #[CV s (takeR s p e).1 (takeR s p e).2.1, .string (takeR s p e).2.2]) ∧ Below w.heap.size w w' := by
  unfold takeR
  by_cases h : (numR s p e 2).2.1 = 0
  · rw [if_pos h]
    obtain ⟨rfl, h1, -, -, h2, hr⟩ := numR_good h
    rw [hr]
    simp only
    by_cases hc : s.size - (p + 2) < numAt s p (2 : Int).toNat
    · rw [if_pos hc]; exact take_short s p _ w hs h1 h2 rfl hc
    · rw [if_neg hc]; exact take_good s p _ w hs h1 h2 rfl (by omega)
  · rw [if_neg h, (numR_bad h).1]; exact take_bad s p e w hs h

end Go.Proofs.YtkglolnghihegaaGreatDoor.Oct

/- Contracts of Put and Str of package octet. -/
namespace Go.Proofs.YtkglolnghihegaaGreatDoor.Oct
open Go.RowKit Go.Deep Go.Lib

theorem put_width (a : Option Addr) (len cap : Nat) (k n : Int) (w : World) (h : k < 1 ∨ 7 < k) :
    Calls Tryz.prog 170 #[.slice a len cap, .int .i64 k, .int .i64 n] w fun r w' => r = .returned (.tuple #[.slice none 0 0, .int .i64 2]) ∧ w = w' := by
  have H := Lib.hid h
  clear h
  go_enter Tryz.func170, Tryz.ntmps170
  go_wp2_with fail
  refine (isWidth_no k _ H.out).mono ?_
  rintro r w1 ⟨rfl, rfl⟩
  go_wp2
  go_ret2
  exact ⟨rfl, rfl⟩

theorem put_neg (a : Option Addr) (len cap : Nat) (k n : Int) (w : World) (h1 : 1 ≤ k) (h2 : k ≤ 7) (hn : n < 0) :
    Calls Tryz.prog 170 #[.slice a len cap, .int .i64 k, .int .i64 n] w fun r w' => r = .returned (.tuple #[.slice none 0 0, .int .i64 8]) ∧ w = w' := by
  go_enter Tryz.func170, Tryz.ntmps170
  go_wp2_with fail
  refine (isWidth_yes k _ h1 h2).mono ?_
  rintro r w1 ⟨rfl, rfl⟩
  go_wp2
  go_ret2
  exact ⟨rfl, rfl⟩

theorem shr_eq (n k : Nat) : (n : Int) / 2 ^ (8 * k) = ((n / 256 ^ k : Nat) : Int) := by
  rw [show (2 : Int) ^ (8 * k) = ((256 ^ k : Nat) : Int) from by rw [Int.pow_mul]; norm_cast]
  norm_cast
theorem shr_no {n k : Nat} (h : n < 256 ^ k) : ((n : Int) / 2 ^ (8 * k) != 0) = false := by
  rw [shr_eq, Nat.div_eq_of_lt h]; rfl
theorem shr_yes {n k : Nat} (h : 256 ^ k ≤ n) : ((n : Int) / 2 ^ (8 * k) != 0) = true := by
  rw [shr_eq]
  have h2 := Nat.div_pos h (Nat.pow_pos (by omega))
  generalize n / 256 ^ k = m at *
  simp
  omega

theorem put_big (a : Option Addr) (len cap : Nat) (k n : Nat) (w : World) (h1 : 1 ≤ k) (h2 : k ≤ 7) (hn : 256 ^ k ≤ n) (hn2 : n < 9223372036854775808) :
    Calls Tryz.prog 170 #[.slice a len cap, .int .i64 k, .int .i64 n] w fun r w' => r = .returned (.tuple #[.slice none 0 0, .int .i64 8]) ∧ w = w' := by
  have hd := shr_yes hn
  have hd' : decide ((n : Int) < 0) = false := by simp
  clear hn
  go_enter Tryz.func170, Tryz.ntmps170
  go_wp2_with fail
  refine (isWidth_yes k _ (by omega) (by omega)).mono ?_
  rintro r w1 ⟨rfl, rfl⟩
  go_wp2_with fail
  go_ret2
  exact ⟨rfl, rfl⟩

theorem layed_end (l : List UInt8) (len k n : Nat) (h : l.length = len) : layed (l ++ List.replicate k 0) (len + k) k n = l ++ beB k n := by
  subst h
  simp [layed]

theorem layed_mid (l : List UInt8) (len k m n : Nat) (h : l.length = len) : layed (l ++ List.replicate (k + m) 0) (len + k) k n = l ++ (beB k n ++ List.replicate m 0) := by
  subst h
  simp [layed]
theorem take_mid (l : List UInt8) (len k m n : Nat) (h : l.length = len) : (l ++ (beB k n ++ List.replicate m (0 : UInt8))).take (len + k) = l ++ beB k n := by
  subst h
  rw [← List.append_assoc, List.take_append_of_le_length (by simp [beB_length]), List.take_of_length_le (by simp [beB_length])]

set_option maxHeartbeats 400000 in
theorem put_ok (a : Option Addr) (len cap : Nat) (l : List UInt8) (k n : Nat) (w : World) (hR : Reads w a len l) (hm : len ≤ 140737488355000) (h1 : 1 ≤ k) (h2 : k ≤ 7) (hn : n < 256 ^ k) (hn2 : n < 9223372036854775808) :
    Calls Tryz.prog 170 #[.slice a len cap, .int .i64 k, .int .i64 n] w fun r w' => r = .returned (.tuple #[.slice (some ⟨w.heap.size, 0, none⟩) (len + k) (len + k), .int .i64 0]) ∧ Row w' w.heap.size (l ++ beB k n) ∧ Below w.heap.size w w' := by
  have hd := shr_no hn
  have hd' : decide ((n : Int) < 0) = false := by simp
  have hll := Lib.hid hR.1
  have HR := Lib.hid hR
  clear hn hR
  go_enter Tryz.func170, Tryz.ntmps170
  go_wp2_with fail
  refine (isWidth_yes k _ (by omega) (by omega)).mono ?_
  rintro r w1 ⟨rfl, rfl⟩
  go_wp2_with fail
  refine (grown_any a len cap k l _ HR.out (by omega)).mono ?_
  rintro r w1 ⟨rfl, hrow, hb⟩
  have HW := Lib.hid hrow
  have HB := Lib.hid hb
  clear hrow hb
  go_wp2_with fail
  refine (lay_any w.heap.size len k k n (l ++ List.replicate k 0) _ HW.out (by simp [hll.out]) (by simp [hll.out]; omega) hn2).mono ?_
  rintro r w2 ⟨rfl, hrow, hb⟩
  rw [layed_end l len k n hll.out] at hrow
  have HW2 := Lib.hid hrow
  have HB2 := Lib.hid (HB.out.trans hb)
  clear hrow hb HW HB
  go_wp2
  go_ret2
  exact ⟨rfl, HW2.out, HB2.out⟩

theorem str_long (a : Option Addr) (len cap : Nat) (s : ByteArray) (w : World) (h : 65535 < s.size) :
    Calls Tryz.prog 55 #[.slice a len cap, .string s] w fun r w' => r = .returned (.tuple #[.slice none 0 0, .int .i64 5]) ∧ w = w' := by
  go_enter Tryz.func55, Tryz.ntmps55
  go_wp2
  go_ret2
  exact ⟨rfl, rfl⟩

set_option maxHeartbeats 400000 in
theorem str_empty (a : Option Addr) (len cap : Nat) (l : List UInt8) (s : ByteArray) (w : World) (hR : Reads w a len l) (hm : len ≤ 140737488255000) (hs : s.size = 0) :
    Calls Tryz.prog 55 #[.slice a len cap, .string s] w fun r w' => r = .returned (.tuple #[.slice (some ⟨w.heap.size, 0, none⟩) (len + 2) (len + 2), .int .i64 0]) ∧ Row w' w.heap.size (l ++ beB 2 0) ∧ Below w.heap.size w w' := by
  have hll := Lib.hid hR.1
  have HR := Lib.hid hR
  have hcp := fun W dp d1 d2 => run_copy_empty_string (P := Tryz.prog) W 59 9 3 5 dp d1 d2 s Tryz.underlying59 (by rw [Tryz.size5]; rfl) hs
  clear hR
  go_enter Tryz.func55, Tryz.ntmps55
  go_wp2_with fail
  refine (grown_any a len cap 2 l _ HR.out (by omega)).mono ?_
  rintro r w1 ⟨rfl, hrow, hb⟩
  have HW := Lib.hid hrow
  have HB := Lib.hid hb
  clear hrow hb
  go_wp2_with fail
  refine (lay_any w.heap.size len 2 _ 0 (l ++ List.replicate 2 0) _ HW.out (by simp [hll.out]) (by simp [hll.out]; omega) (by omega)).mono ?_
  rintro r w2 ⟨rfl, hrow, hb⟩
  rw [layed_end l len 2 0 hll.out] at hrow
  have HW2 := Lib.hid hrow
  have HB2 := Lib.hid (HB.out.trans hb)
  clear hrow hb HW HB
  go_wp2
  go_ret2
  exact ⟨rfl, HW2.out, HB2.out⟩

/-- A copy of a string over the end of a row. -/
theorem copy_end {W : World} {g off : Nat} {cur : List UInt8} {s : ByteArray} (hg : Row W g cur) (hc : cur.length = off + s.size) (d : Nat) (hd : d = s.size) :
    ∃ w1, (Builtin.copy_ #[59, 9] 3 #[.slice (some ⟨g, off, none⟩) d d, .string s]).run Tryz.prog W = .ok (.int .i64 s.size) w1 ∧ Row w1 g (cur.take off ++ s.data.toList) ∧ Below g W w1 := by
  subst hd
  have hrun := run_copy_row_string (P := Tryz.prog) W 59 9 3 5 g off s.size s.size s (bv cur).toArray 5 Tryz.underlying59 Tryz.size5 hg (Nat.le_refl _) (by simp [bv_length, hc])
  refine ⟨W.setRow g (bv (cur.take off ++ s.data.toList)).toArray, hrun.trans ?_, setRow_heap W g _ _ 5 _ hg, below_setRow (Below.refl _ _) (Nat.le_refl _) _⟩
  have e : (bv cur).drop (off + s.size) = [] := by rw [List.drop_eq_nil_iff, bv_length]; omega
  simp only [goInt, e, List.append_nil]
  rw [bv_append]
  simp [bv, byteCells]

set_option maxHeartbeats 400000 in
theorem str_full (a : Option Addr) (len cap : Nat) (l : List UInt8) (s : ByteArray) (w : World) (hR : Reads w a len l) (hm : len ≤ 140737488255000) (hs : 0 < s.size) (hs2 : s.size ≤ 65535) :
    Calls Tryz.prog 55 #[.slice a len cap, .string s] w fun r w' => r = .returned (.tuple #[.slice (some ⟨w.heap.size, 0, none⟩) (len + (2 + s.size)) (len + (2 + s.size)), .int .i64 0]) ∧ Row w' w.heap.size (l ++ (beB 2 s.size ++ s.data.toList)) ∧ Below w.heap.size w w' := by
  have hll := Lib.hid hR.1
  have hgr := fun W (hR : Reads W a len l) => grown_any a len cap (2 + s.size) l W hR (by omega)
  rw [show ((2 + s.size : Nat) : Int) = 2 + (s.size : Int) from by omega] at hgr
  have HR := Lib.hid hR
  have HG := Lib.hid hgr
  clear hR hgr
  go_enter Tryz.func55, Tryz.ntmps55
  go_wp2_with fail
  refine (HG.out _ HR.out).mono ?_
  rintro r w1 ⟨rfl, hrow, hb⟩
  have HW := Lib.hid hrow
  have HB := Lib.hid hb
  clear hrow hb HG
  go_wp2_with fail
  refine (lay_any w.heap.size len 2 _ s.size (l ++ List.replicate (2 + s.size) 0) _ HW.out (by simp [hll.out]) (by simp [hll.out]; omega) (by omega)).mono ?_
  rintro r w2 ⟨rfl, hrow, hb⟩
  rw [layed_mid l len 2 s.size s.size hll.out] at hrow
  obtain ⟨w3, hcp, hrow3, hb3⟩ := copy_end (off := len + 2) (s := s) hrow (by simp [hll.out, beB_length]; omega) (len + (2 + s.size) - (len + 2)) (by omega)
  rw [take_mid l len 2 s.size s.size hll.out, List.append_assoc] at hrow3
  have HW2 := Lib.hid hrow3
  have HB2 := Lib.hid ((HB.out.trans hb).trans hb3)
  clear hrow hb HW HB hrow3 hb3
  go_wp2
  go_ret2
  exact ⟨rfl, HW2.out, HB2.out⟩

theorem str_ok (a : Option Addr) (len cap : Nat) (l : List UInt8) (s : ByteArray) (w : World) (hR : Reads w a len l) (hm : len ≤ 140737488255000) (hs2 : s.size ≤ 65535) :
    Calls Tryz.prog 55 #[.slice a len cap, .string s] w fun r w' => r = .returned (.tuple #[.slice (some ⟨w.heap.size, 0, none⟩) (len + (2 + s.size)) (len + (2 + s.size)), .int .i64 0]) ∧ Row w' w.heap.size (l ++ (beB 2 s.size ++ s.data.toList)) ∧ Below w.heap.size w w' := by
  by_cases h0 : s.size = 0
  · have e : s.data.toList = [] := List.length_eq_zero_iff.1 h0
    rw [h0, e, List.append_nil]
    exact str_empty a len cap l s w hR hm h0
  · exact str_full a len cap l s w hR hm (by omega) hs2

end Go.Proofs.YtkglolnghihegaaGreatDoor.Oct

/- A region that draws its order, walked once, in a class of worlds that its operations and callees keep. -/
namespace Go.Proofs.YtkglolnghihegaaGreatDoor.Oct
open Go.RowKit

/-- A world of the class G, as one thing: what holds in the class is then said of it without a premise. -/
structure Wd (G : World → Prop) where
  W : World
  ok : G W

theorem wp_region_class {P : Program} {id : Nat} {Q : Exit → Act → World → Prop} {a : Act} {w : World} {l : List Oper} (G : World → Prop) (hG : G { w with drawn := w.drawn + 1 })
    (hm : P.follows .mixedOrders = true) (hB : Region.lexB .any l.toArray = true)
    (h : Nonempty (Wd G) → wpQuiet P l.toArray (fun w' => ∃ x : Wd G, w' = x.W) (fun a' => ∀ w', (∃ x : Wd G, w' = x.W) → Q .normal a' w') l a) : (Code.region id l.toArray true).wp P Q a w :=
  wp_region_quiet (C := fun w' => ∃ x : Wd G, w' = x.W) hm hB ⟨⟨_, hG⟩, rfl⟩ (by simpa using h ⟨⟨_, hG⟩⟩)

/-- A callee that changes nothing that was there, in a class that is kept so. -/
theorem wd_call {P : Program} {f : FuncId} {args : Array Value} {G : World → Prop} {x : Wd G} {v : Value} (hk : ∀ W W', G W → Below W.heap.size W W' → G W')
    (h : Calls P f args x.W fun r w' => r = .returned v ∧ Below x.W.heap.size x.W w') : Calls P f args x.W fun r w'' => r = .returned v ∧ ∃ y : Wd G, w'' = y.W :=
  h.mono fun _ _ ⟨he, hb⟩ => ⟨he, ⟨_, hk _ _ x.ok hb⟩, rfl⟩

end Go.Proofs.YtkglolnghihegaaGreatDoor.Oct
