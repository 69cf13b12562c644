/- Plain facts on sheets: what is sealed is opened. -/
import Derived.Test.YtaafkkmcpedeaaaRefS
namespace Go.Proofs.Ytaafkkmcpedeaaa
open Go.RowKit Go.Proofs.Ytaafkkmcpedeaaa.Oct

theorem natBE_beB : ∀ j x : Nat, natBE (beB j x) = x % 256 ^ j := by
  have h : ∀ (l : List UInt8) (a : Nat), l.foldl (fun a b => a * 256 + b.toNat) a = a * 256 ^ l.length + natBE l := by
    intro l
    induction l with
    | nil => intro a; simp [natBE]
    | cons b l ih =>
      intro a
      have e : natBE (b :: l) = b.toNat * 256 ^ l.length + natBE l := by
        have := ih (0 * 256 + b.toNat)
        rw [Nat.zero_mul, Nat.zero_add] at this
        rw [← this]; simp [natBE]
      rw [List.foldl_cons, ih, e, List.length_cons, Nat.pow_succ, Nat.add_mul, Nat.mul_assoc, Nat.mul_comm 256, Nat.add_assoc]
  intro j
  induction j with
  | zero => intro x; simp [beB, natBE, Nat.mod_one]
  | succ j ih =>
    intro x
    rw [beB, natBE, List.foldl_cons, h, beB_length, ih, Nat.zero_mul, Nat.zero_add]
    have e : (UInt8.ofNat (x / 256 ^ j % 256)).toNat = x / 256 ^ j % 256 := by simp
    rw [e, Nat.pow_succ, Nat.mod_mul, Nat.mul_comm (x / 256 ^ j % 256), Nat.add_comm]

/-- The body of a sheet. -/
def bodyB (b : ByteArray) : ByteArray := ⟨(b.data.toList ++ List.replicate (52 - b.size) 0).toArray⟩
/-- A sheet. -/
def sheetB (n : Nat) (b : ByteArray) : ByteArray := ⟨(sealB n b).toArray⟩

theorem size_list (b : ByteArray) : b.data.toList.length = b.size := rfl
theorem bodyB_size (b : ByteArray) (h : b.size ≤ 52) : (bodyB b).size = 52 := by
  show (b.data.toList ++ List.replicate (52 - b.size) 0).toArray.size = 52
  rw [List.size_toArray, List.length_append, List.length_replicate, size_list]; omega
theorem sheetB_list (n : Nat) (b : ByteArray) : (sheetB n b).data.toList = beB 6 n ++ ((bodyB b).data.toList ++ beB 6 n) := by
  show sealB n b = _
  simp [sealB, bodyB]
theorem sheetB_size (n : Nat) (b : ByteArray) (h : b.size ≤ 52) : (sheetB n b).size = 64 := by
  rw [← size_list, sheetB_list, List.length_append, List.length_append, beB_length, size_list, bodyB_size b h]
theorem sheetB_first (n : Nat) (b : ByteArray) : (sheetB n b).data.toList.take 6 = beB 6 n := by
  rw [sheetB_list, List.take_append_of_le_length (by rw [beB_length]; omega), List.take_of_length_le (by rw [beB_length]; omega)]
theorem sheetB_last (n : Nat) (b : ByteArray) (h : b.size ≤ 52) : ((sheetB n b).data.toList.drop 58).take 6 = beB 6 n := by
  rw [sheetB_list, ← List.append_assoc, List.drop_append_of_le_length (by rw [List.length_append, beB_length, size_list, bodyB_size b h]; omega),
    List.drop_of_length_le (by rw [List.length_append, beB_length, size_list, bodyB_size b h]; omega), List.nil_append, List.take_of_length_le (by rw [beB_length]; omega)]
theorem sheetB_body (n : Nat) (b : ByteArray) (h : b.size ≤ 52) : (sheetB n b).extract 6 58 = bodyB b := by
  apply ByteArray.ext
  apply Array.toList_inj.1
  have e : ((sheetB n b).extract 6 58).data.toList = ((sheetB n b).data.toList.drop 6).take 52 := by simp
  rw [e, sheetB_list, List.drop_append_of_le_length (by rw [beB_length]; omega), List.drop_of_length_le (by rw [beB_length]; omega), List.nil_append,
    List.take_append_of_le_length (by rw [size_list, bodyB_size b h]; omega), List.take_of_length_le (by rw [size_list, bodyB_size b h]; omega)]
theorem beB_num {n : Nat} (h : n ≤ 1099511627776) : natBE (beB 6 n) = n := by rw [natBE_beB]; exact Nat.mod_eq_of_lt (by omega)

theorem open_sheet (n : Nat) (b : ByteArray) (h1 : 1 ≤ n) (h2 : n ≤ 1099511627776) (h : b.size ≤ 52) : openR (sheetB n b) = ((n : Int), bodyB b, 0) := by
  rw [openR, if_pos (sheetB_size n b h), sheetB_first, sheetB_last n b h, if_pos rfl, beB_num h2, if_pos ⟨h1, h2⟩, sheetB_body n b h]
theorem top_sheet (n : Nat) (b : ByteArray) (h2 : n ≤ 1099511627776) (h : b.size ≤ 52) : topR (sheetB n b) = n := by
  rw [topR, if_pos (sheetB_size n b h), sheetB_first, sheetB_last n b h, beB_num h2, if_neg (by omega)]

theorem body_front (b : ByteArray) : (bodyB b).extract 0 b.size = b := by
  apply ByteArray.ext
  apply Array.toList_inj.1
  have e : ((bodyB b).extract 0 b.size).data.toList = (bodyB b).data.toList.take b.size := by simp
  rw [e]
  show (b.data.toList ++ List.replicate (52 - b.size) 0).take b.size = _
  rw [← size_list, List.take_append_of_le_length (Nat.le_refl _), List.take_of_length_le (Nat.le_refl _)]
theorem body_rest (b : ByteArray) : (bodyB b).extract b.size 52 = ⟨(List.replicate (52 - b.size) 0).toArray⟩ := by
  apply ByteArray.ext
  apply Array.toList_inj.1
  have e : ((bodyB b).extract b.size 52).data.toList = ((bodyB b).data.toList.drop b.size).take (52 - b.size) := by simp
  rw [e]
  show ((b.data.toList ++ List.replicate (52 - b.size) 0).drop b.size).take (52 - b.size) = List.replicate (52 - b.size) 0
  rw [← size_list, List.drop_append_of_le_length (Nat.le_refl _), List.drop_of_length_le (Nat.le_refl _), List.nil_append, List.take_of_length_le (by rw [List.length_replicate]; omega)]
theorem sheet_same (n : Nat) (a b : ByteArray) : sheetB n a = sheetB n b ↔ bodyB a = bodyB b := by
  constructor
  · intro h
    have h' : (sheetB n a).data.toList = (sheetB n b).data.toList := congrArg (fun x : ByteArray => x.data.toList) h
    rw [sheetB_list, sheetB_list] at h'
    apply ByteArray.ext
    apply Array.toList_inj.1
    exact List.append_cancel_right (List.append_cancel_left h')
  · intro h
    apply ByteArray.ext
    apply Array.toList_inj.1
    rw [sheetB_list, sheetB_list, h]

end Go.Proofs.Ytaafkkmcpedeaaa
