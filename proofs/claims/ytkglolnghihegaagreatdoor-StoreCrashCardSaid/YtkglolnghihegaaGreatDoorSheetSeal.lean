/- Contract of Seal of package sheet. -/
import Derived.Test.YtkglolnghihegaaGreatDoorShtA
import Derived.Test.YtkglolnghihegaaGreatDoorDiskNew
import Derived.BigQuiet
import Derived.Deep.QuietTactic
namespace Go.Proofs.YtkglolnghihegaaGreatDoor.Sht
open Go.RowKit Go.Proofs.YtkglolnghihegaaGreatDoor.Oct

theorem seal_range (n : Int) (b : ByteArray) (w : World) (h : n < 1 ∨ 1099511627776 < n) :
    Calls Tryz.prog 136 #[.int .i64 n, .string b] w fun e w' => e = .returned (.tuple #[.string ⟨#[]⟩, .int .i64 8]) ∧ Below w.heap.size w w' := by
  have H := Lib.hid h
  clear h
  go_enter Tryz.func136, Tryz.ntmps136
  go_wp2_with fail
  refine (isStamp_no n _ H.out).mono ?_
  rintro r w1 ⟨rfl, rfl⟩
  go_wp2_with fail
  go_ret2
  exact ⟨rfl, Below.refl _ _⟩

theorem seal_long (n : Int) (b : ByteArray) (w : World) (h1 : 1 ≤ n) (h2 : n ≤ 1099511627776) (h3 : (52 : Int) < b.size) :
    Calls Tryz.prog 136 #[.int .i64 n, .string b] w fun e w' => e = .returned (.tuple #[.string ⟨#[]⟩, .int .i64 5]) ∧ Below w.heap.size w w' := by
  have H := Lib.hid (fun W => isStamp_yes n W h1 h2)
  clear h1 h2
  go_enter Tryz.func136, Tryz.ntmps136
  go_wp2_with fail
  refine (H.out _).mono ?_
  rintro r w1 ⟨rfl, rfl⟩
  go_wp2_with fail
  go_ret2
  exact ⟨rfl, Below.refl _ _⟩

theorem rep_size (k : Nat) : (⟨(List.replicate k 0).toArray⟩ : ByteArray).size = k := by
  show (List.replicate k (0 : UInt8)).toArray.size = k
  rw [List.size_toArray, List.length_replicate]
theorem four (a b c d : ByteArray) : a ++ b ++ c ++ d = ⟨(a.data.toList ++ (b.data.toList ++ (c.data.toList ++ d.data.toList))).toArray⟩ := by
  apply ByteArray.ext
  apply Array.toList_inj.1
  simp
theorem zero_size : (⟨#[0]⟩ : ByteArray).size = 1 := rfl
/-- The bytes of a sheet. -/
def sealB (n : Nat) (b : ByteArray) : List UInt8 := beB 6 n ++ (b.data.toList ++ (List.replicate (52 - b.size) 0 ++ beB 6 n))

set_option maxRecDepth 20000 in
set_option maxHeartbeats 400000 in
theorem seal_ok (n : Nat) (b : ByteArray) (w : World) (h1 : 1 ≤ n) (h2 : n ≤ 1099511627776) (h3 : b.size ≤ 52) :
    Calls Tryz.prog 136 #[.int .i64 n, .string b] w fun e w' => e = .returned (.tuple #[.string ⟨(sealB n b).toArray⟩, .int .i64 0]) ∧ Below w.heap.size w w' := by
  have H := Lib.hid (fun W => isStamp_yes n W (by omega) (by omega))
  have HM := Lib.hid (fun W => markOf_any n W h2)
  have HR := Lib.hid (fun W => shRepeat ⟨#[0]⟩ (52 - b.size) W (by omega) (by rw [zero_size]; omega))
  rw [show ((52 - b.size : Nat) : Int) = 52 - b.size from by omega] at HR
  have hl : (beB 6 n).length = 6 := beB_length _ _
  generalize hB : beB 6 n = l at *
  have hd : decide ((52 : Int) < b.size) = false := decide_eq_false (by omega)
  clear h1 h2
  obtain ⟨b0, b1, b2, b3, b4, b5, rfl⟩ := six hl
  rw [m6] at HM
  go_enter Tryz.func136, Tryz.ntmps136
  go_wp2_with fail
  refine (H.out _).mono ?_
  rintro r w1 ⟨rfl, rfl⟩
  go_wp2_with fail
  refine (HM.out _).mono ?_
  rintro r w1 ⟨rfl, hb⟩
  go_wp2_with fail
  with_reducible refine (HR.out _).mono ?_
  rintro r w2 ⟨rfl, hb2⟩
  have hx : Six w2 w1.heap.size [b0, b1, b2, b3, b4, b5] := (Six.new w1 [b0, b1, b2, b3, b4, b5]).below hb2 (by simp)
  have hcv := fun n => conv6 (hx.drewN n)
  have HB := Lib.hid ((hb.push _).call hb2)
  clear hb hb2 hx
  have hF : (⟨(Lib.repeatL [0] (52 - b.size)).toArray⟩ : ByteArray) = ⟨(List.replicate (52 - b.size) 0).toArray⟩ := by rw [Dsk.repeatL_one]
  have hFs : (⟨(List.replicate (52 - b.size) 0).toArray⟩ : ByteArray).size = 52 - b.size := rep_size _
  have hFl : (⟨(List.replicate (52 - b.size) 0).toArray⟩ : ByteArray).data.toList = List.replicate (52 - b.size) 0 := rfl
  have hGs : (⟨#[b0, b1, b2, b3, b4, b5]⟩ : ByteArray).size = 6 := rfl
  have hGl : (⟨#[b0, b1, b2, b3, b4, b5]⟩ : ByteArray).data.toList = [b0, b1, b2, b3, b4, b5] := rfl
  rw [hF]
  generalize (⟨(List.replicate (52 - b.size) 0).toArray⟩ : ByteArray) = F at *
  generalize (⟨#[b0, b1, b2, b3, b4, b5]⟩ : ByteArray) = G at *
  clear hF
  go_wp2_with fail
  go_quiet (fail)
  have e : G ++ b ++ F ++ G = ⟨(sealB n b).toArray⟩ := by
    rw [sealB, hB, ← hGl, ← hFl]
    exact four _ _ _ _
  rw [e]
  clear e hcv
  go_wp2
  go_ret2
  exact ⟨rfl, HB.out.drewN _⟩

/-- What Seal answers. -/
def sealR (n : Int) (b : ByteArray) : ByteArray × Int :=
  if 1 ≤ n ∧ n ≤ 1099511627776 then (if b.size ≤ 52 then (⟨(sealB n.toNat b).toArray⟩, 0) else (⟨#[]⟩, 5)) else (⟨#[]⟩, 8)

theorem seal_any (n : Int) (b : ByteArray) (w : World) :
    Calls Tryz.prog 136 #[.int .i64 n, .string b] w fun e w' => e = .returned (.tuple #[.string (sealR n b).1, .int .i64 (sealR n b).2]) ∧ Below w.heap.size w w' := by
  unfold sealR
  by_cases h : 1 ≤ n ∧ n ≤ 1099511627776
  · rw [if_pos h]
    obtain ⟨n, rfl⟩ := Int.eq_ofNat_of_zero_le (show 0 ≤ n by omega)
    by_cases hb : b.size ≤ 52
    · rw [if_pos hb]; exact seal_ok n b w (by omega) (by omega) hb
    · rw [if_neg hb]; exact seal_long n b w h.1 h.2 (by omega)
  · rw [if_neg h]; exact seal_range n b w (by omega)

end Go.Proofs.YtkglolnghihegaaGreatDoor.Sht
