/- Plain facts on numbers as bytes, the highest one first: nothing of the program. -/
import Derived.IntWalk
import Derived.Laws.Bits64
import Derived.Laws.Bits64b
namespace Go.Proofs.YtcloakaenkhgpaaDoor.Oct
open Go.RowKit

/-- A number of bytes, the highest one first. -/
def natBE (l : List UInt8) : Nat := l.foldl (fun a b => a * 256 + b.toNat) 0
/-- The number of k bytes from the place p on. -/
def numAt (s : ByteArray) (p : Int) (k : Nat) : Int := natBE ((s.data.toList.drop p.toNat).take k)

theorem natBE_snoc (l : List UInt8) (b : UInt8) : natBE (l ++ [b]) = natBE l * 256 + b.toNat := by simp [natBE, List.foldl_append]

theorem natBE_lt_len (n : Nat) : ∀ l : List UInt8, l.length = n → natBE l < 256 ^ n := by
  induction n with
  | zero => intro l h; obtain rfl := List.length_eq_zero_iff.1 h; simp [natBE]
  | succ n ih =>
    intro l h
    obtain ⟨m, b, rfl⟩ : ∃ m b, l = m ++ [b] := by
      rcases List.eq_nil_or_concat l with rfl | ⟨m, b, rfl⟩
      · simp at h
      · exact ⟨m, b, by simp⟩
    simp at h
    have := ih m h
    have hb := b.toNat_lt
    rw [natBE_snoc, Nat.pow_succ]
    omega

theorem natBE_lt (l : List UInt8) : natBE l < 256 ^ l.length := natBE_lt_len _ l rfl

theorem natBE_le {l : List UInt8} (h : l.length ≤ 7) : natBE l < 72057594037927936 := by
  have := natBE_lt l
  have h2 : 256 ^ l.length ≤ 256 ^ 7 := Nat.pow_le_pow_right (by omega) h
  have h3 : 256 ^ 7 = 72057594037927936 := by decide
  omega

theorem numAt_nonneg (s : ByteArray) (p : Int) (k : Nat) : 0 ≤ numAt s p k := by unfold numAt; omega
theorem numAt_lt (s : ByteArray) (p : Int) (k : Nat) (h : k ≤ 7) : numAt s p k < 72057594037927936 := by
  unfold numAt
  have := natBE_le (l := (s.data.toList.drop p.toNat).take k) (by have := List.length_take_le k (s.data.toList.drop p.toNat); omega)
  omega

theorem numAt_zero (s : ByteArray) (p : Int) : numAt s p 0 = 0 := by simp [numAt, natBE]

theorem numAt_succ (s : ByteArray) (p k : Nat) (h : p + k < s.size) : numAt s p (k + 1) = numAt s p k * 256 + s[p + k].toNat := by
  unfold numAt
  have hl : k < (s.data.toList.drop p).length := by simp; omega
  rw [Int.toNat_natCast, List.take_succ_eq_append_getElem hl, natBE_snoc]
  simp
  rfl

theorem or_byte (a b : Nat) (ha : a < 36028797018963968) (hb : b < 256) : bits .or .i64 ((a : Int) * 256) (b : Int) = (a : Int) * 256 + b := by
  have e : a * 256 ||| b = a * 256 + b := by
    have := Nat.two_pow_add_eq_or_of_lt (i := 8) (b := b) (by omega) a
    rw [Nat.mul_comm a 256]
    exact this.symm
  have h1 : (BitVec.ofInt 64 ((a : Int) * 256)).toNat = a * 256 := by
    rw [show (a : Int) * 256 = ((a * 256 : Nat) : Int) from by omega, BitVec.ofInt_natCast, BitVec.toNat_ofNat]; exact Nat.mod_eq_of_lt (by omega)
  have h2 : (BitVec.ofInt 64 (b : Int)).toNat = b := by
    rw [BitVec.ofInt_natCast, BitVec.toNat_ofNat]; exact Nat.mod_eq_of_lt (by omega)
  show IntKind.i64.wrap ((BitVec.ofInt 64 ((a : Int) * 256) ||| BitVec.ofInt 64 (b : Int)).toNat : Int) = _
  rw [BitVec.toNat_or, h1, h2, e, IntWalk.i64_in _ (by omega)]
  omega

theorem num_step (s : ByteArray) (p k : Nat) (hk : k < 7) (h : p + k < s.size) :
    bits .or .i64 (wrap64 (numAt s p k * 256)) (wrap64 s[p + k].toNat) = numAt s p (k + 1) := by
  have hb := s[p + k].toNat_lt
  have h1 := numAt_nonneg s p k
  have h2 : numAt s p k < 281474976710656 := by
    unfold numAt
    have := natBE_lt ((s.data.toList.drop (p : Int).toNat).take k)
    have hl := List.length_take_le k (s.data.toList.drop (p : Int).toNat)
    have h3 : 256 ^ ((s.data.toList.drop (p : Int).toNat).take k).length ≤ 256 ^ 6 := Nat.pow_le_pow_right (by omega) (by omega)
    have h4 : 256 ^ 6 = 281474976710656 := by decide
    omega
  rw [numAt_succ s p k h, IntWalk.wrap64_in _ (by omega), IntWalk.wrap64_in _ (by omega)]
  generalize numAt s p k = x at *
  obtain ⟨x, rfl⟩ := Int.eq_ofNat_of_zero_le h1
  exact or_byte x _ (by omega) (by omega)

end Go.Proofs.YtcloakaenkhgpaaDoor.Oct
