/- Plain facts on a sheet that was broken off. -/
import Derived.Test.YtaafkkmcpedeaaaBackP
namespace Go.Proofs.Ytaafkkmcpedeaaa
open Go.RowKit Go.Proofs.Ytaafkkmcpedeaaa.Oct

/-- A text of 64 bytes that begins and ends with these six. -/
structure Ends (s : ByteArray) (l : List UInt8) : Prop where
  size : s.size = 64
  first : s.data.toList.take 6 = l
  last : s.data.toList.drop 58 = l

theorem drop_take6 {s : ByteArray} (h : s.size = 64) : (s.data.toList.drop 58).take 6 = s.data.toList.drop 58 := by
  rw [List.take_of_length_le]; rw [List.length_drop, size_list]; omega
theorem Ends.len {s : ByteArray} {l : List UInt8} (h : Ends s l) : l.length = 6 := by rw [← h.last, List.length_drop, size_list, h.size]
theorem Ends.sheet (n : Nat) (b : ByteArray) (h : b.size ≤ 52) : Ends (sheetB n b) (beB 6 n) := by
  have hs := sheetB_size n b h
  exact ⟨hs, sheetB_first n b, by rw [← drop_take6 hs]; exact sheetB_last n b h⟩

theorem top_ends {s : ByteArray} {l : List UInt8} (h : Ends s l) : topR s = natBE l := by
  rw [topR, if_pos h.size, drop_take6 h.size, h.first, h.last, if_neg (by omega)]

/-- What is left of a text that was put over another one, and broken off behind m bytes. -/
def torn (T O : ByteArray) (m : Nat) : ByteArray := T.extract 0 m ++ O.extract m O.size
theorem torn_list (T O : ByteArray) (m : Nat) : (torn T O m).data.toList = T.data.toList.take m ++ O.data.toList.drop m := by
  unfold torn
  simp [ByteArray.data_append, ByteArray.data_extract, List.take_of_length_le]

theorem list_ext {a b : ByteArray} (h : a.data.toList = b.data.toList) : a = b := ByteArray.ext (Array.toList_inj.1 h)

theorem torn_facts {O T : ByteArray} {o t : List UInt8} (hO : Ends O o) (hT : Ends T t) (hlt : natBE o < natBE t) (m : Nat) (hm : m ≤ 64) :
    (torn T O m).size = 64 ∧ ((openR (torn T O m)).2.2 = 0 → torn T O m = O ∨ torn T O m = T) ∧ topR O ≤ topR (torn T O m) ∧ (m = 64 → torn T O m = T) := by
  have lo : O.data.toList.length = 64 := hO.size
  have lt : T.data.toList.length = 64 := hT.size
  have hl := torn_list T O m
  have hs : (torn T O m).size = 64 := by
    rw [← size_list, hl, List.length_append, List.length_take, List.length_drop]; omega
  have hne : o ≠ t := fun e => by rw [e] at hlt; omega
  have hd := drop_take6 hs
  refine ⟨hs, ?_, ?_, ?_⟩
  · intro hw
    rw [openR, if_pos hs, hd] at hw
    by_cases he : (torn T O m).data.toList.take 6 = (torn T O m).data.toList.drop 58
    · clear hw
      rw [hl] at he
      by_cases h1 : m < 6
      · left
        apply list_ext
        rw [hl]
        have e1 : (T.data.toList.take m ++ O.data.toList.drop m).drop 58 = o := by
          rw [List.drop_append, List.drop_of_length_le (by rw [List.length_take]; omega), List.nil_append, List.length_take, List.drop_drop, ← hO.last]
          congr 1; omega
        have e2 : (T.data.toList.take m ++ O.data.toList.drop m).take 6 = T.data.toList.take m ++ (O.data.toList.drop m).take (6 - m) := by
          rw [List.take_append, List.take_of_length_le (by rw [List.length_take]; omega), List.length_take]
          congr 2; omega
        rw [e1, e2, ← hO.first] at he
        have e3 : T.data.toList.take m = O.data.toList.take m := by
          have := congrArg (List.take m) he
          rw [List.take_append_of_le_length (by rw [List.length_take]; omega), List.take_take, List.take_take] at this
          simpa [Nat.min_eq_left (show m ≤ 6 by omega)] using this
        rw [e3, List.take_append_drop]
      · by_cases h2 : m ≤ 58
        · exfalso
          have e1 : (T.data.toList.take m ++ O.data.toList.drop m).drop 58 = o := by
            rw [List.drop_append, List.drop_of_length_le (by rw [List.length_take]; omega), List.nil_append, List.length_take, List.drop_drop, ← hO.last]
            congr 1; omega
          have e2 : (T.data.toList.take m ++ O.data.toList.drop m).take 6 = t := by
            rw [List.take_append_of_le_length (by rw [List.length_take]; omega), List.take_take, Nat.min_eq_left (by omega), hT.first]
          rw [e1, e2] at he
          exact hne he.symm
        · right
          apply list_ext
          rw [hl]
          have e2 : (T.data.toList.take m ++ O.data.toList.drop m).take 6 = t := by
            rw [List.take_append_of_le_length (by rw [List.length_take]; omega), List.take_take, Nat.min_eq_left (by omega), hT.first]
          have e1 : (T.data.toList.take m ++ O.data.toList.drop m).take 58 = T.data.toList.take 58 := by
            rw [List.take_append_of_le_length (by rw [List.length_take]; omega), List.take_take, Nat.min_eq_left (by omega)]
          rw [e2, ← hT.last] at he
          rw [← List.take_append_drop 58 (T.data.toList.take m ++ O.data.toList.drop m), e1, ← he, List.take_append_drop]
    · rw [if_neg he] at hw
      simp at hw
  · rw [top_ends hO, topR, if_pos hs, hd, hl]
    by_cases h2 : m ≤ 58
    · have e1 : (T.data.toList.take m ++ O.data.toList.drop m).drop 58 = o := by
        rw [List.drop_append, List.drop_of_length_le (by rw [List.length_take]; omega), List.nil_append, List.length_take, List.drop_drop, ← hO.last]
        congr 1; omega
      rw [e1]
      split <;> omega
    · have e2 : (T.data.toList.take m ++ O.data.toList.drop m).take 6 = t := by
        rw [List.take_append_of_le_length (by rw [List.length_take]; omega), List.take_take, Nat.min_eq_left (by omega), hT.first]
      rw [e2]
      split <;> omega
  · intro h
    apply list_ext
    rw [hl, h, List.take_of_length_le (by omega), List.drop_of_length_le (by omega), List.append_nil]

end Go.Proofs.Ytaafkkmcpedeaaa
