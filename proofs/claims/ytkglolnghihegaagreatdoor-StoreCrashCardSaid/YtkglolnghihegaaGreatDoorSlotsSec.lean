/- Plain: a disk's sectors as they are read, and a stretch of them. -/
import Derived.Test.YtkglolnghihegaaGreatDoorDskA
namespace Go.Proofs.YtkglolnghihegaaGreatDoor.Slt
open Go.Proofs.YtkglolnghihegaaGreatDoor.Dsk

/-- A disk's sectors, as they are read. -/
def secsD (S : List ByteArray) (W : List Wr) : List ByteArray := (List.range S.length).map fun i => lastW W (i : Nat) (secAt S i)
theorem secsD_length (S : List ByteArray) (W : List Wr) : (secsD S W).length = S.length := by simp [secsD]
theorem secsD_get {S : List ByteArray} {W : List Wr} {i : Nat} (h : i < (secsD S W).length) : (secsD S W)[i] = lastW W (i : Nat) (secAt S i) := by simp [secsD]
theorem secsD_nil (S : List ByteArray) : secsD S [] = S := by
  apply List.ext_getElem
  · rw [secsD_length]
  · intro i h1 h2
    rw [secsD_get, secAt_eq h2]; rfl
theorem secsD_rd {S : List ByteArray} {W : List Wr} {f : Int} {i : Nat} (h : chk S W f = 0) (hi : i < (secsD S W).length) : rdS S W f i = (secsD S W)[i] ∧ rdE S W f i = 0 := by
  have hl := secsD_length S W
  rw [secsD_get]
  unfold rdS rdE
  rw [if_pos ⟨h, by omega, by omega⟩, if_pos h, if_pos (by omega)]
  exact ⟨rfl, rfl⟩

/-- A part of a list: from the place a on, ahead of the place b. -/
def part (L : List ByteArray) (a b : Nat) : List ByteArray := (L.take b).drop a
theorem part_none (L : List ByteArray) (a : Nat) : part L a a = [] := by unfold part; simp
theorem part_succ {L : List ByteArray} {a b : Nat} (h1 : a ≤ b) (h2 : b < L.length) : part L a (b + 1) = part L a b ++ [L[b]] := by
  unfold part
  rw [List.take_succ_eq_append_getElem h2, List.drop_append_of_le_length (by rw [List.length_take]; omega)]
theorem part_length {L : List ByteArray} {a b : Nat} (h2 : b ≤ L.length) : (part L a b).length = b - a := by unfold part; simp; omega
theorem part_prefix {L : List ByteArray} {a b c : Nat} (h1 : a ≤ b) (h2 : b ≤ c) (h3 : c ≤ L.length) : part L a b <+: part L a c := by
  unfold part
  have : L.take b <+: L.take c := by
    rw [show L.take b = (L.take c).take b from by rw [List.take_take, Nat.min_eq_left h2]]
    exact List.take_prefix _ _
  obtain ⟨t, ht⟩ := this
  exact ⟨t, by rw [← ht, List.drop_append_of_le_length (by rw [List.length_take]; omega)]⟩
theorem part_get {L : List ByteArray} {a b i : Nat} (h : i < b - a) (h2 : b ≤ L.length) : (part L a b)[i]'(by rw [part_length h2]; exact h) = L[a + i]'(by omega) := by
  unfold part
  simp
theorem part_all (L : List ByteArray) : part L 0 L.length = L := by unfold part; simp

end Go.Proofs.YtkglolnghihegaaGreatDoor.Slt
