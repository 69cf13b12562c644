/- Contracts of loaded of package sheaf, and of load of the document's answer. -/
import Derived.Test.YtkglolnghihegaaGreatDoorSheafBody
import Derived.Test.YtkglolnghihegaaGreatDoorCrcP
import Derived.Test.YtkglolnghihegaaGreatDoorShelf
namespace Go.Proofs.YtkglolnghihegaaGreatDoor.Shf
open Go.RowKit Go.Proofs.YtkglolnghihegaaGreatDoor.Oct Go.Proofs.YtkglolnghihegaaGreatDoor.Crc

/-- A load behind its sum, and the whole of it, where it has n parts. -/
def restB (l : List UInt8) (n : Nat) : List UInt8 := beB 4 l.length ++ (l ++ List.replicate (n * 37 - 8 - l.length) 0)
def loadB (l : List UInt8) (n : Nat) : List UInt8 := beB 4 (goL 0#32 (restB l n)).toNat ++ restB l n

theorem tab_below {w w' : World} {B : Nat} (h : Tab w) (hb : Below B w w') (hB : 1 < B) : Tab w' := fun i hi => (hb.cell (p := ⟨1, i, none⟩) hB).trans (h i hi)
theorem tab_pos {w : World} (h : Tab w) : 1 < w.heap.size := cell_lt (h 0 (by omega))
theorem tab_call {w w' : World} (h : Tab w) (hb : Below w.heap.size w w') : Tab w' := tab_below h hb (tab_pos h)

theorem repeatL_one (n : Nat) : Lib.repeatL [(0 : UInt8)] n = List.replicate n 0 := by
  induction n with
  | zero => rfl
  | succ n ih => rw [List.replicate_succ, ← ih]; simp [Lib.repeatL]

theorem size_mk (l : List UInt8) : (⟨l.toArray⟩ : ByteArray).size = l.length := by
  show l.toArray.size = l.length
  simp
theorem list_mk (l : List UInt8) : (⟨l.toArray⟩ : ByteArray).data.toList = l := rfl

theorem app_two (a b : List UInt8) : (⟨a.toArray⟩ : ByteArray) ++ ⟨b.toArray⟩ = ⟨(a ++ b).toArray⟩ := app_str a ⟨b.toArray⟩

theorem uv_pow (c : BitVec 32) : c.toNat < 256 ^ 4 := Nat.lt_of_lt_of_le c.isLt (by decide)

set_option maxRecDepth 20000 in
theorem loaded_any (t : ByteArray) (n : Nat) (w : World) (ht : (t.size : Int) ≤ 16000) (hn : (t.size : Int) + 8 ≤ n * 37) (hn2 : (n : Int) ≤ 500) (hT : Tab w) :
    Calls Tryz.prog 158 #[.string t, .int .i64 n] w fun r w' => r = .returned (.string ⟨(loadB t.data.toList n).toArray⟩) ∧ Below w.heap.size w w' := by
  have hlt : t.data.toList.length = t.size := by simp
  have HR := Lib.hid (fun W => shRepeat ⟨#[0]⟩ (n * 37 - 8 - t.size) W (by omega) (by show 1 * _ ≤ _; omega))
  rw [show (⟨#[0]⟩ : ByteArray).data.toList = [0] from rfl, repeatL_one, show ((n * 37 - 8 - t.size : Nat) : Int) = (n : Int) * 37 - 8 - t.size from by omega] at HR
  have HL : Hid (∀ W, Calls Tryz.prog 169 #[.slice none 0 0, .int .i64 4, .int .i64 t.size] W (RetL W (beB 4 t.size))) := Lib.hid (fun W => laid_nil W 4 t.size (by omega) (by omega) (by omega) (by omega))
  have HS := Lib.hid (fun W (h : Tab W) => sum_any ⟨(restB t.data.toList n).toArray⟩ W (by rw [size_mk]; unfold restB maxLen; simp only [List.length_append, beB_length, List.length_replicate]; omega) h)
  rw [list_mk] at HS
  unfold loadB
  have hrl : (restB t.data.toList n).length = n * 37 - 4 := by unfold restB; simp only [List.length_append, beB_length, List.length_replicate]; omega
  have hre : restB t.data.toList n = beB 4 t.size ++ t.data.toList ++ List.replicate (n * 37 - 8 - t.size) 0 := by unfold restB; rw [hlt, List.append_assoc]
  generalize hrest : restB t.data.toList n = rest at *
  clear hrest
  have HK : Hid (∀ W, Calls Tryz.prog 169 #[.slice none 0 0, .int .i64 4, .int .i64 (uv (goL 0#32 rest))] W (RetL W (beB 4 (goL 0#32 rest).toNat))) := Lib.hid (fun W => laid_nil W 4 _ (by omega) (by omega) (uv_pow _) (by have := uv_pow (goL 0#32 rest); omega))
  have hc0 := uv_nonneg (goL 0#32 rest)
  have hc1 := uv_lt (goL 0#32 rest)
  generalize goL 0#32 rest = c at *
  have HT := Lib.hid hT
  have HE : Hid ((⟨(beB 4 t.size).toArray⟩ : ByteArray) ++ t ++ ⟨(List.replicate (n * 37 - 8 - t.size) 0).toArray⟩ = ⟨rest.toArray⟩) := Lib.hid (by rw [app_str, app_two, hre])
  have s2 : (⟨(List.replicate (n * 37 - 8 - t.size) (0 : UInt8)).toArray⟩ : ByteArray).size = n * 37 - 8 - t.size := by rw [size_mk, List.length_replicate]
  have HG : Hid ((⟨(beB 4 c.toNat).toArray⟩ : ByteArray) ++ ⟨rest.toArray⟩ = ⟨(beB 4 c.toNat ++ rest).toArray⟩) := Lib.hid (app_two _ _)
  have s4 : (⟨rest.toArray⟩ : ByteArray).size = n * 37 - 4 := by rw [size_mk, hrl]
  generalize (⟨(List.replicate (n * 37 - 8 - t.size) (0 : UInt8)).toArray⟩ : ByteArray) = X2 at *
  generalize (⟨rest.toArray⟩ : ByteArray) = X4 at *
  clear hT hre hrl hlt
  go_enter Tryz.func158, Tryz.ntmps158
  go_wp2_with fail
  with_reducible refine (HR.out _).mono ?_
  rintro r w1 ⟨rfl, b1⟩
  have HB1 := Lib.hid b1
  have HT1 := Lib.hid (tab_call HT.out b1)
  clear b1 HT HR
  go_wp2_with fail
  with_reducible refine (HL.out _).mono ?_
  rintro r w2 ⟨v2, rfl, h2, b2⟩
  have HB2 := Lib.hid (HB1.out.call b2)
  have HT2 := Lib.hid (tab_call HT1.out b2)
  have HC := conv_own h2
  clear h2 b2 HB1 HT1 HL
  have s1 : (⟨(beB 4 t.size).toArray⟩ : ByteArray).size = 4 := by rw [size_mk, beB_length]
  generalize (⟨(beB 4 t.size).toArray⟩ : ByteArray) = X1 at *
  have s12 : (X1 ++ t).size = 4 + t.size := by rw [ByteArray.size_append, s1]
  go_wp2_with fail
  with_reducible (rw [HE.out])
  with_reducible refine (HS.out _ HT2.out).mono ?_
  rintro r w3 ⟨rfl, rfl⟩
  clear HS HC s1 s12 s2
  go_wp2_with fail
  with_reducible refine (HK.out _).mono ?_
  rintro r w4 ⟨v4, rfl, h4, b4⟩
  have HB4 := Lib.hid (HB2.out.call b4)
  have HC := conv_own h4
  clear h4 b4 HB2 HT2 HK
  have s5 : (⟨(beB 4 c.toNat).toArray⟩ : ByteArray).size = 4 := by rw [size_mk, beB_length]
  generalize (⟨(beB 4 c.toNat).toArray⟩ : ByteArray) = X5 at *
  go_wp2_with fail
  rw [HG.out]
  go_ret
  exact ⟨rfl, HB4.out⟩

end Go.Proofs.YtkglolnghihegaaGreatDoor.Shf
