/- A block that holds bytes: what it reads as, what a store makes of it, how a text is made into one and back. -/
import Derived.Test.YtpeckeiaonjaaaaGreatDoorCrcP
import Derived.Laws.BytesArg
import Derived.Laws.IdiomStrings
import Derived.Laws.MakeOwn
import Derived.Deep.OwnRows
import Derived.Laws.Rows
import Derived.WalkSpells
namespace Go.Proofs.YtpeckeiaonjaaaaGreatDoor.Crc
open Go.RowKit Go.Deep

/-- Bytes as cells. -/
def bv (l : List UInt8) : List Value := l.map fun b => Value.int .u8 b.toNat

/-- The block g begins with these bytes, and they may be written. -/
def Buf (w : World) (g : Nat) (l : List UInt8) : Prop := ∃ (rest : List Value) (m : Nat × Nat), (∀ j, j < l.length → ¬ (m.1 ≤ j ∧ j < m.2)) ∧ w.heap[g]? = some (.cells (bv l ++ rest).toArray 5 m)

theorem Buf.lt {w : World} {g : Nat} {l : List UInt8} (h : Buf w g l) : g < w.heap.size := by
  obtain ⟨rest, m, _, h⟩ := h
  by_cases hl : g < w.heap.size
  · exact hl
  · rw [Array.getElem?_eq_none (by omega)] at h; cases h
theorem Buf.cell {w : World} {g : Nat} {l : List UInt8} (h : Buf w g l) {i : Nat} (hi : i < l.length) : w.cell? ⟨g, i, none⟩ = some (.int .u8 l[i].toNat) := by
  obtain ⟨rest, m, _, h⟩ := h
  rw [cell_of_row w g i _ 5 _ h, List.getElem?_toArray, List.getElem?_append_left (by simpa [bv] using hi)]
  simp [bv, hi]
theorem Buf.live {w : World} {g : Nat} {l : List UInt8} (h : Buf w g l) {i : Nat} (hi : i < l.length) : w.frozen? ⟨g, i, none⟩ = false := by
  obtain ⟨rest, m, hm, h⟩ := h
  have := hm i hi
  simp [World.frozen?, h]
  omega
theorem Buf.below {w w' : World} {g B : Nat} {l : List UInt8} (h : Buf w g l) (hb : Below B w w') (hg : g < B) : Buf w' g l := by
  obtain ⟨rest, m, hm, h⟩ := h
  exact ⟨rest, m, hm, (hb.block g hg).trans h⟩
theorem Buf.set {w : World} {g : Nat} {l : List UInt8} (h : Buf w g l) {i : Nat} (hi : i < l.length) (b : UInt8) : Buf (w.setCell ⟨g, i, none⟩ (.int .u8 b.toNat)) g (l.set i b) := by
  obtain ⟨rest, m, hm, h⟩ := h
  refine ⟨rest, m, by simpa using hm, ?_⟩
  have e : (bv l ++ rest).set i (Value.int .u8 b.toNat) = bv (l.set i b) ++ rest := by
    rw [List.set_append_left _ _ (by simpa [bv] using hi)]
    simp [bv]
  simp [World.setCell, Array.getElem?_modify, h, e]
theorem Buf.other {w : World} {g g' : Nat} {l : List UInt8} (h : Buf w g l) (hne : g' ≠ g) (i : Nat) (v : Value) : Buf (w.setCell ⟨g', i, none⟩ v) g l := by
  obtain ⟨rest, m, hm, h⟩ := h
  exact ⟨rest, m, hm, by simp [World.setCell, Array.getElem?_modify, h, hne]⟩

/-- A text, made into a new block. -/
theorem conv_to (s : ByteArray) (w : World) : ∃ (cap : Nat) (w1 : World), (convert 9 71 (.string s)).run Tryz.prog w = .ok (.slice (some ⟨w.heap.size, 0, none⟩) s.size cap) w1 ∧ Buf w1 w.heap.size s.data.toList ∧ Below w.heap.size w w1 := by
  refine ⟨grownCap w s.size 0 5, _, run_bytes_of_string w 9 71 5 s Tryz.underlying9 Tryz.underlying71 Tryz.underlying5, ?_, ?_⟩
  · refine ⟨(Array.replicate (grownCap w s.size 0 5 - s.size) (Value.int .u8 0)).toList, ((bytesRow s (grownCap w s.size 0 5)).size, (bytesRow s (grownCap w s.size 0 5)).size + 1), ?_, ?_⟩
    · intro j hj
      simp [bytesRow] at hj ⊢
      have : s.size = s.data.size := rfl
      omega
    · have e : (bv s.data.toList ++ (Array.replicate (grownCap w s.size 0 5 - s.size) (Value.int .u8 0)).toList).toArray = bytesRow s (grownCap w s.size 0 5) := by
        apply Array.toList_inj.1
        simp [bv, bytesRow]
      rw [e]
      exact heap_alloc_new w.drew _
  · exact ((Below.refl _ _).drew).alloc (Nat.le_refl _) _

/-- Bytes of a block, made into a text. -/
theorem conv_back {w : World} {g cap : Nat} {l : List UInt8} (h : Buf w g l) : (convert 71 9 (.slice (some ⟨g, 0, none⟩) l.length cap)).run Tryz.prog w = .ok (.string ⟨l.toArray⟩) w :=
  run_convert_bytes_back w 71 9 5 ⟨g, 0, none⟩ cap l Tryz.underlying71 Tryz.underlying5 Tryz.underlying9 (fun j hj => by
    have e : (⟨g, 0, none⟩ : Addr).add j = ⟨g, j, none⟩ := by by_cases h0 : j = 0 <;> simp [Addr.add, h0]
    rw [e]; exact h.cell hj)

theorem Tab.below {w w' : World} {B : Nat} (h : Tab w) (hb : Below B w w') (hB : 1 < B) : Tab w' := fun i hi => (hb.cell (p := ⟨1, i, none⟩) hB).trans (h i hi)

end Go.Proofs.YtpeckeiaonjaaaaGreatDoor.Crc
