import Derived.Test.YtkglolnghihegaaGreatDoorSheetRefS

/- Plain facts on sheets: what is sealed is opened. -/
namespace Go.Proofs.YtkglolnghihegaaGreatDoor.Sht
open Go.RowKit Go.Proofs.YtkglolnghihegaaGreatDoor.Oct

theorem natBE_beB : ∀ j x : Nat, natBE (beB j x) = x % 256 ^ j := by
  have h : ∀ (l : List UInt8) (a : Nat), l.foldl (fun a b => a * 256 + b.toNat) a = a * 256 ^ l.length + natBE l := by
    intro l
    induction l with
    | nil => intro a; simp [natBE]
    | cons b l ih =>
      intro a
      have e : natBE (b :: l) = b.toNat * 256 ^ l.length + natBE l := by
        have := ih (0 * 256 + b.toNat)
        rw [Nat.zero_mul, Nat.zero_add] at this
        rw [← this]; simp [natBE]
      rw [List.foldl_cons, ih, e, List.length_cons, Nat.pow_succ, Nat.add_mul, Nat.mul_assoc, Nat.mul_comm 256, Nat.add_assoc]
  intro j
  induction j with
  | zero => intro x; simp [beB, natBE, Nat.mod_one]
  | succ j ih =>
    intro x
    rw [beB, natBE, List.foldl_cons, h, beB_length, ih, Nat.zero_mul, Nat.zero_add]
    have e : (UInt8.ofNat (x / 256 ^ j % 256)).toNat = x / 256 ^ j % 256 := by simp
    rw [e, Nat.pow_succ, Nat.mod_mul, Nat.mul_comm (x / 256 ^ j % 256), Nat.add_comm]

/-- The body of a sheet. -/
def bodyB (b : ByteArray) : ByteArray := ⟨(b.data.toList ++ List.replicate (52 - b.size) 0).toArray⟩
/-- A sheet. -/
def sheetB (n : Nat) (b : ByteArray) : ByteArray := ⟨(sealB n b).toArray⟩

theorem size_list (b : ByteArray) : b.data.toList.length = b.size := rfl
theorem bodyB_size (b : ByteArray) (h : b.size ≤ 52) : (bodyB b).size = 52 := by
  show (b.data.toList ++ List.replicate (52 - b.size) 0).toArray.size = 52
  rw [List.size_toArray, List.length_append, List.length_replicate, size_list]; omega
theorem sheetB_list (n : Nat) (b : ByteArray) : (sheetB n b).data.toList = beB 6 n ++ ((bodyB b).data.toList ++ beB 6 n) := by
  show sealB n b = _
  simp [sealB, bodyB]
theorem sheetB_size (n : Nat) (b : ByteArray) (h : b.size ≤ 52) : (sheetB n b).size = 64 := by
  rw [← size_list, sheetB_list, List.length_append, List.length_append, beB_length, size_list, bodyB_size b h]
theorem sheetB_first (n : Nat) (b : ByteArray) : (sheetB n b).data.toList.take 6 = beB 6 n := by
  rw [sheetB_list, List.take_append_of_le_length (by rw [beB_length]; omega), List.take_of_length_le (by rw [beB_length]; omega)]
theorem sheetB_last (n : Nat) (b : ByteArray) (h : b.size ≤ 52) : ((sheetB n b).data.toList.drop 58).take 6 = beB 6 n := by
  rw [sheetB_list, ← List.append_assoc, List.drop_append_of_le_length (by rw [List.length_append, beB_length, size_list, bodyB_size b h]; omega),
    List.drop_of_length_le (by rw [List.length_append, beB_length, size_list, bodyB_size b h]; omega), List.nil_append, List.take_of_length_le (by rw [beB_length]; omega)]
theorem sheetB_body (n : Nat) (b : ByteArray) (h : b.size ≤ 52) : (sheetB n b).extract 6 58 = bodyB b := by
  apply ByteArray.ext
  apply Array.toList_inj.1
  have e : ((sheetB n b).extract 6 58).data.toList = ((sheetB n b).data.toList.drop 6).take 52 := by simp
  rw [e, sheetB_list, List.drop_append_of_le_length (by rw [beB_length]; omega), List.drop_of_length_le (by rw [beB_length]; omega), List.nil_append,
    List.take_append_of_le_length (by rw [size_list, bodyB_size b h]; omega), List.take_of_length_le (by rw [size_list, bodyB_size b h]; omega)]
theorem beB_num {n : Nat} (h : n ≤ 1099511627776) : natBE (beB 6 n) = n := by rw [natBE_beB]; exact Nat.mod_eq_of_lt (by omega)

theorem open_sheet (n : Nat) (b : ByteArray) (h1 : 1 ≤ n) (h2 : n ≤ 1099511627776) (h : b.size ≤ 52) : openR (sheetB n b) = ((n : Int), bodyB b, 0) := by
  rw [openR, if_pos (sheetB_size n b h), sheetB_first, sheetB_last n b h, if_pos rfl, beB_num h2, if_pos ⟨h1, h2⟩, sheetB_body n b h]
theorem top_sheet (n : Nat) (b : ByteArray) (h2 : n ≤ 1099511627776) (h : b.size ≤ 52) : topR (sheetB n b) = n := by
  rw [topR, if_pos (sheetB_size n b h), sheetB_first, sheetB_last n b h, beB_num h2, if_neg (by omega)]

theorem body_front (b : ByteArray) : (bodyB b).extract 0 b.size = b := by
  apply ByteArray.ext
  apply Array.toList_inj.1
  have e : ((bodyB b).extract 0 b.size).data.toList = (bodyB b).data.toList.take b.size := by simp
  rw [e]
  show (b.data.toList ++ List.replicate (52 - b.size) 0).take b.size = _
  rw [← size_list, List.take_append_of_le_length (Nat.le_refl _), List.take_of_length_le (Nat.le_refl _)]
theorem body_rest (b : ByteArray) : (bodyB b).extract b.size 52 = ⟨(List.replicate (52 - b.size) 0).toArray⟩ := by
  apply ByteArray.ext
  apply Array.toList_inj.1
  have e : ((bodyB b).extract b.size 52).data.toList = ((bodyB b).data.toList.drop b.size).take (52 - b.size) := by simp
  rw [e]
  show ((b.data.toList ++ List.replicate (52 - b.size) 0).drop b.size).take (52 - b.size) = List.replicate (52 - b.size) 0
  rw [← size_list, List.drop_append_of_le_length (Nat.le_refl _), List.drop_of_length_le (Nat.le_refl _), List.nil_append, List.take_of_length_le (by rw [List.length_replicate]; omega)]
theorem sheet_same (n : Nat) (a b : ByteArray) : sheetB n a = sheetB n b ↔ bodyB a = bodyB b := by
  constructor
  · intro h
    have h' : (sheetB n a).data.toList = (sheetB n b).data.toList := congrArg (fun x : ByteArray => x.data.toList) h
    rw [sheetB_list, sheetB_list] at h'
    apply ByteArray.ext
    apply Array.toList_inj.1
    exact List.append_cancel_right (List.append_cancel_left h')
  · intro h
    apply ByteArray.ext
    apply Array.toList_inj.1
    rw [sheetB_list, sheetB_list, h]

end Go.Proofs.YtkglolnghihegaaGreatDoor.Sht

/- Plain facts on a sheet that was broken off. -/
namespace Go.Proofs.YtkglolnghihegaaGreatDoor.Sht
open Go.RowKit Go.Proofs.YtkglolnghihegaaGreatDoor.Oct

/-- A text of 64 bytes that begins and ends with these six. -/
structure Ends (s : ByteArray) (l : List UInt8) : Prop where
  size : s.size = 64
  first : s.data.toList.take 6 = l
  last : s.data.toList.drop 58 = l

theorem drop_take6 {s : ByteArray} (h : s.size = 64) : (s.data.toList.drop 58).take 6 = s.data.toList.drop 58 := by
  rw [List.take_of_length_le]; rw [List.length_drop, size_list]; omega
theorem Ends.len {s : ByteArray} {l : List UInt8} (h : Ends s l) : l.length = 6 := by rw [← h.last, List.length_drop, size_list, h.size]
theorem Ends.sheet (n : Nat) (b : ByteArray) (h : b.size ≤ 52) : Ends (sheetB n b) (beB 6 n) := by
  have hs := sheetB_size n b h
  exact ⟨hs, sheetB_first n b, by rw [← drop_take6 hs]; exact sheetB_last n b h⟩

theorem top_ends {s : ByteArray} {l : List UInt8} (h : Ends s l) : topR s = natBE l := by
  rw [topR, if_pos h.size, drop_take6 h.size, h.first, h.last, if_neg (by omega)]

/-- What is left of a text that was put over another one, and broken off behind m bytes. -/
def torn (T O : ByteArray) (m : Nat) : ByteArray := T.extract 0 m ++ O.extract m O.size
theorem torn_list (T O : ByteArray) (m : Nat) : (torn T O m).data.toList = T.data.toList.take m ++ O.data.toList.drop m := by
  unfold torn
  simp [ByteArray.data_append, ByteArray.data_extract, List.take_of_length_le]

theorem list_ext {a b : ByteArray} (h : a.data.toList = b.data.toList) : a = b := ByteArray.ext (Array.toList_inj.1 h)

theorem torn_facts {O T : ByteArray} {o t : List UInt8} (hO : Ends O o) (hT : Ends T t) (hlt : natBE o < natBE t) (m : Nat) (hm : m ≤ 64) :
    (torn T O m).size = 64 ∧ ((openR (torn T O m)).2.2 = 0 → torn T O m = O ∨ torn T O m = T) ∧ topR O ≤ topR (torn T O m) ∧ (m = 64 → torn T O m = T) := by
  have lo : O.data.toList.length = 64 := hO.size
  have lt : T.data.toList.length = 64 := hT.size
  have hl := torn_list T O m
  have hs : (torn T O m).size = 64 := by
    rw [← size_list, hl, List.length_append, List.length_take, List.length_drop]; omega
  have hne : o ≠ t := fun e => by rw [e] at hlt; omega
  have hd := drop_take6 hs
  refine ⟨hs, ?_, ?_, ?_⟩
  · intro hw
    rw [openR, if_pos hs, hd] at hw
    by_cases he : (torn T O m).data.toList.take 6 = (torn T O m).data.toList.drop 58
    · clear hw
      rw [hl] at he
      by_cases h1 : m < 6
      · left
        apply list_ext
        rw [hl]
        have e1 : (T.data.toList.take m ++ O.data.toList.drop m).drop 58 = o := by
          rw [List.drop_append, List.drop_of_length_le (by rw [List.length_take]; omega), List.nil_append, List.length_take, List.drop_drop, ← hO.last]
          congr 1; omega
        have e2 : (T.data.toList.take m ++ O.data.toList.drop m).take 6 = T.data.toList.take m ++ (O.data.toList.drop m).take (6 - m) := by
          rw [List.take_append, List.take_of_length_le (by rw [List.length_take]; omega), List.length_take]
          congr 2; omega
        rw [e1, e2, ← hO.first] at he
        have e3 : T.data.toList.take m = O.data.toList.take m := by
          have := congrArg (List.take m) he
          rw [List.take_append_of_le_length (by rw [List.length_take]; omega), List.take_take, List.take_take] at this
          simpa [Nat.min_eq_left (show m ≤ 6 by omega)] using this
        rw [e3, List.take_append_drop]
      · by_cases h2 : m ≤ 58
        · exfalso
          have e1 : (T.data.toList.take m ++ O.data.toList.drop m).drop 58 = o := by
            rw [List.drop_append, List.drop_of_length_le (by rw [List.length_take]; omega), List.nil_append, List.length_take, List.drop_drop, ← hO.last]
            congr 1; omega
          have e2 : (T.data.toList.take m ++ O.data.toList.drop m).take 6 = t := by
            rw [List.take_append_of_le_length (by rw [List.length_take]; omega), List.take_take, Nat.min_eq_left (by omega), hT.first]
          rw [e1, e2] at he
          exact hne he.symm
        · right
          apply list_ext
          rw [hl]
          have e2 : (T.data.toList.take m ++ O.data.toList.drop m).take 6 = t := by
            rw [List.take_append_of_le_length (by rw [List.length_take]; omega), List.take_take, Nat.min_eq_left (by omega), hT.first]
          have e1 : (T.data.toList.take m ++ O.data.toList.drop m).take 58 = T.data.toList.take 58 := by
            rw [List.take_append_of_le_length (by rw [List.length_take]; omega), List.take_take, Nat.min_eq_left (by omega)]
          rw [e2, ← hT.last] at he
          rw [← List.take_append_drop 58 (T.data.toList.take m ++ O.data.toList.drop m), e1, ← he, List.take_append_drop]
    · rw [if_neg he] at hw
      simp at hw
  · rw [top_ends hO, topR, if_pos hs, hd, hl]
    by_cases h2 : m ≤ 58
    · have e1 : (T.data.toList.take m ++ O.data.toList.drop m).drop 58 = o := by
        rw [List.drop_append, List.drop_of_length_le (by rw [List.length_take]; omega), List.nil_append, List.length_take, List.drop_drop, ← hO.last]
        congr 1; omega
      rw [e1]
      split <;> omega
    · have e2 : (T.data.toList.take m ++ O.data.toList.drop m).take 6 = t := by
        rw [List.take_append_of_le_length (by rw [List.length_take]; omega), List.take_take, Nat.min_eq_left (by omega), hT.first]
      rw [e2]
      split <;> omega
  · intro h
    apply list_ext
    rw [hl, h, List.take_of_length_le (by omega), List.drop_of_length_le (by omega), List.append_nil]

end Go.Proofs.YtkglolnghihegaaGreatDoor.Sht
