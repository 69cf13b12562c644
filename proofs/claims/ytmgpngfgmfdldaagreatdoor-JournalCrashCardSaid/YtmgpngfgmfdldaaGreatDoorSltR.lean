import Derived.Test.YtmgpngfgmfdldaaGreatDoorSlotsRefB
import Derived.Test.YtmgpngfgmfdldaaGreatDoorSltP
import Derived.Test.YtmgpngfgmfdldaaGreatDoorSheafRJoin

/- Contract of the document's Load of package slots. -/
namespace Go.Proofs.YtmgpngfgmfdldaaGreatDoor.Slt
open Go.RowKit Go.Proofs.YtmgpngfgmfdldaaGreatDoor.Dsk Go.Proofs.YtmgpngfgmfdldaaGreatDoor.Sht Go.Proofs.YtmgpngfgmfdldaaGreatDoor.Shf

section
variable (A : Option Addr) (n c : Nat) (A' : Option Addr) (m c' : Nat) (f : Int) (S : List ByteArray) (V : List Wr) (z : Int) (w : World) (hD : Dev w A n c A' m c' f S V) (h : mayL S V f z = true)
include hD h

end

end Go.Proofs.YtmgpngfgmfdldaaGreatDoor.Slt

/- Contracts of the document's Best of package slots, and of SameTexts. -/
namespace Go.Proofs.YtmgpngfgmfdldaaGreatDoor.Slt
open Go.RowKit Go.Proofs.YtmgpngfgmfdldaaGreatDoor.Dsk Go.Proofs.YtmgpngfgmfdldaaGreatDoor.Sht Go.Proofs.YtmgpngfgmfdldaaGreatDoor.Shf

theorem errR_vals (s : ByteArray) : errR s = 0 ∨ errR s = 8 ∨ errR s = 4 := by
  unfold errR; split <;> (try split) <;> simp
theorem errR_gen {s : ByteArray} (h : errR s = 0) : 1 ≤ gA s := by
  unfold errR at h
  split at h
  · split at h
    · rename_i h2
      have := h2.1
      unfold fineH at this
      simp at this
      exact this.1
    · omega
  · omega
theorem errB_ne (k : Nat) (g n : Int) (s : ByteArray) (i : Int) : errB k g n s i ≠ 2 := by
  unfold errB
  rcases errR_vals s with h | h | h <;> rw [h] <;> (repeat' split) <;> omega
theorem errP_ne (k : Nat) (g n : Int) (S : List ByteArray) (i : Nat) : errP k g n S i ≠ 2 := by
  unfold errP; split
  · exact errB_ne _ _ _ _ _
  · omega
theorem errG_ne (k : Nat) (g n : Int) (S : List ByteArray) (of : Int) (i : Nat) : errG k g n S of i ≠ 2 := by
  unfold errG; split
  · have := errB_ne k g n ‹_› i
    split
    · split <;> omega
    · exact this
  · omega
theorem scanG_ne (k : Nat) (g n : Int) (S : List ByteArray) (of : Int) : ∀ r i, scanG k g n S of r i ≠ 2
  | 0, _ => by unfold scanG; omega
  | r + 1, i => by
    unfold scanG
    split
    · exact scanG_ne k g n S of r (i + 1)
    · exact errG_ne _ _ _ _ _ _
theorem errS_ne (k : Nat) (g n : Int) (S : List ByteArray) : errS k g n S ≠ 2 := by
  unfold errS; split
  · exact scanG_ne _ _ _ _ _ _ _
  · exact errP_ne _ _ _ _ _
theorem errJ_ne (k : Nat) (g n : Int) (S : List ByteArray) : errJ k g n S ≠ 2 := by
  unfold errJ errU
  split
  · (repeat' split) <;> omega
  · exact errS_ne _ _ _ _
theorem loadE_ne (B : List ByteArray) : loadE B ≠ 2 := by
  unfold loadE
  cases B with
  | nil => simp
  | cons s B =>
    dsimp only
    split
    · split
      · exact errJ_ne _ _ _ _
      · omega
    · rcases errR_vals s with h | h | h <;> omega
theorem loadE_gen {B : List ByteArray} (h : loadE B = 0) : 0 < loadG B := by
  have h' := h
  unfold loadG
  rw [if_pos h]
  unfold loadE at h'
  cases B with
  | nil => simp at h'
  | cons s B =>
    dsimp only at h' ⊢
    split at h'
    · rename_i h1
      have := errR_gen h1
      omega
    · contradiction
theorem loadD_gen {S : List ByteArray} {V : List Wr} {f z : Int} (h : loadDE S V f z = 0) : 0 < loadDG S V f z := by
  unfold loadDE at h
  unfold loadDG
  split at h
  · rename_i h1
    rw [if_pos h1]; exact loadE_gen h
  · omega
theorem loadD_ne {S : List ByteArray} {V : List Wr} {f z : Int} (h : mayL S V f z = true) : loadDE S V f z ≠ 2 := by
  unfold loadDE; rw [if_pos h]; exact loadE_ne _

def bsel (E0 G0 : Int) (T0 : ByteArray) (E1 G1 : Int) (T1 : ByteArray) : Bst :=
  if E1 = 0 ∧ (if E0 = 0 ∧ (0 : Int) < G0 then (⟨0, G0, T0, 0⟩ : Bst) else ⟨0, 0, ⟨#[]⟩, 6⟩).g < G1 then ⟨1, G1, T1, 0⟩ else (if E0 = 0 ∧ (0 : Int) < G0 then (⟨0, G0, T0, 0⟩ : Bst) else ⟨0, 0, ⟨#[]⟩, 6⟩)

set_option maxHeartbeats 1000000 in
theorem same_any (A : Option Addr) (m c : Nat) (B : Option Addr) (m' c' : Nat) (L : List ByteArray) (w : World) (h1 : RV w A m 1 (SV L)) (h2 : RV w B m' 1 (SV L)) (hm : (m : Int) ≤ 2000) :
    Calls Tryz.prog 15 #[.slice A m c, .slice B m' c'] w fun r w' => r = .returned (.bool true) ∧ Below w.heap.size w w' := by
  have HL := Lib.hid h1.sec
  obtain rfl : m = m' := by rw [← h1.sec, ← h2.sec]
  have H1 := Lib.hid h1
  have H2 := Lib.hid h2
  clear h1 h2
  go_enter Tryz.func15, Tryz.ntmps15
  go_wp2_with fail
  go_loopw [5] (fun s5 wr => ∃ i : Nat, i ≤ m ∧ s5 = .int .i64 i ∧ Hid (Below w.heap.size w wr)) (fun s5 _ => m - (intOf s5).toNat)
  case atStart => exact ⟨0, Nat.zero_le _, rfl, Lib.hid (Below.refl _ _)⟩
  case round =>
    obtain ⟨i, hi, rfl, HI⟩ := hrel
    by_cases hlt : i < m
    · have hil : i < L.length := by have := HL.out; omega
      obtain ⟨b, off, rfl, hb, ha⟩ := (H1.out.below HI.out).2 (by omega)
      obtain ⟨b', off', rfl, hb', ha'⟩ := (H2.out.below HI.out).2 (by omega)
      have t0 := ha i (by rw [SV_length]; exact hil)
      have t1 := ha' i (by rw [SV_length]; exact hil)
      rw [show (SV L)[i]'(by rw [SV_length]; exact hil) = .string L[i] from by simp [SV]] at t0 t1
      clear ha ha'
      have HId := Lib.hid HI.out.drew
      generalize L[i] = x at *
      go_wp2_with fail
      go_region
      all_goals (
        go_wp2_with fail
        go_roundw
        case rel => exact ⟨i + 1, by omega, by go_num, HId⟩
        case measure => simp [intOf]; omega)
    · obtain rfl : i = m := by omega
      go_wp2_with fail
      go_ret
      exact ⟨rfl, HI.out⟩

end Go.Proofs.YtmgpngfgmfdldaaGreatDoor.Slt
