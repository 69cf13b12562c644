/- Contracts of the functions of package crc and of the document's answer: each returns what the plain functions of the text Pure say, and leaves the world alone, where the table of sixteen constants reads as it is laid. -/
import Derived.Test.YtcloakaenkhgpaaDoorRows
import Derived.Test.YtcloakaenkhgpaaDoorCrcPure
import Derived.WalkKit
import Derived.WalkLawsBesides
import Derived.Below
import Derived.Lib.Hide
import Derived.Outline
import Derived.IntWalk
namespace Go.Proofs.YtcloakaenkhgpaaDoor.Crc
open Go.RowKit

/-- A number of 32 bits as the program holds it. -/
def uv (c : BitVec 32) : Int := (c.toNat : Int)
/-- The table reads as it is laid. -/
def Tab (w : World) : Prop := ∀ i : Nat, i < 16 → w.cell? ⟨0, i, none⟩ = some (.int .u32 (tab.getD i 0 : Nat))

theorem uv_nonneg (c : BitVec 32) : 0 ≤ uv c := by unfold uv; omega
theorem uv_lt (c : BitVec 32) : uv c < 4294967296 := by unfold uv; have := c.isLt; omega

theorem xor_uv (a b : BitVec 32) : bits .xor .u32 (uv a) (uv b) = uv (a ^^^ b) := by
  unfold uv
  rw [u32_xor_nat _ _ a.isLt b.isLt, BitVec.toNat_xor]

theorem uv_wide (b : UInt8) : (b.toNat : Int) = uv (wide b) := by
  unfold uv wide
  rw [BitVec.toNat_ofNat, Nat.mod_eq_of_lt (Nat.lt_trans b.toNat_lt (by decide))]

theorem xor_byte (c : BitVec 32) (b : UInt8) : bits .xor .u32 (uv c) (b.toNat : Int) = uv (c ^^^ wide b) := by rw [uv_wide, xor_uv]

theorem uv_shift (c : BitVec 32) : uv c / (16 : Int) = uv (c >>> 4) := by
  unfold uv
  rw [BitVec.toNat_ushiftRight, Nat.shiftRight_eq_div_pow]
  omega

theorem tab_small : ∀ k : Fin 16, tab.getD k.val 0 < 4294967296 := by decide

theorem half (c : BitVec 32) : ∃ k : Nat, ∃ t : BitVec 32, k < 16 ∧ bits .and .u32 (uv c) 15 = k ∧ (∀ w, Tab w → w.cell? ⟨0, k, none⟩ = some (.int .u32 (uv t))) ∧ bits .xor .u32 (uv c / (16 : Int)) (uv t) = uv (four c) := by
  refine ⟨c.toNat % 16, BitVec.ofNat 32 (tab.getD (c.toNat % 16) 0), by omega, ?_, ?_, ?_⟩
  · unfold uv
    rw [show (15 : Int) = ((15 : Nat) : Int) from rfl, u32_and_nat _ _ c.isLt (by decide)]
    rw [show 15 = 2 ^ 4 - 1 from rfl, Nat.and_two_pow_sub_one_eq_mod]
  · intro w h
    rw [h _ (by omega)]
    unfold uv
    rw [BitVec.toNat_ofNat, Nat.mod_eq_of_lt (tab_small ⟨c.toNat % 16, by omega⟩)]
  · rw [uv_shift, xor_uv]; rfl

theorem over_any (c : BitVec 32) (b : UInt8) (w : World) (hT : Tab w) :
    Calls Tryd.prog 72 #[.int .u32 (uv c), .int .u8 b.toNat] w fun r w' => r = .returned (.int .u32 (uv (byteOver c b))) ∧ w = w' := by
  rw [← four_four]
  have hb := b.toNat_lt
  have e1 := xor_byte c b
  generalize c ^^^ wide b = c1 at *
  obtain ⟨k1, t1, hk1, e2, hc1, e3⟩ := half c1
  generalize four c1 = c2 at *
  obtain ⟨k2, t2, hk2, e4, hc2, e5⟩ := half c2
  generalize four c2 = c3 at *
  have e6 := hc1 w hT
  have e7 := hc2 w hT
  clear hc1 hc2 hT
  go_enter Tryd.func72, Tryd.ntmps72
  go_wp2
  go_ret
  exact ⟨rfl, rfl⟩


end Go.Proofs.YtcloakaenkhgpaaDoor.Crc
