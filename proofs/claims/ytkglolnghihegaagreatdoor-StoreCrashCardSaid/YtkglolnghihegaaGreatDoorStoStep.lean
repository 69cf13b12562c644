/- Steps that come in: a slice of them, as cells. -/
import Derived.Test.YtkglolnghihegaaGreatDoorStoWorld
namespace Go.Proofs.YtkglolnghihegaaGreatDoor.Sto
open Go.RowKit Go.Proofs.YtkglolnghihegaaGreatDoor.Dsk

/-- A step. -/
structure Sp where
  sv : Bool
  t : ByteArray
  f : Nat
  cs : List UInt8
/-- A slice reads as these steps. -/
def SpV (w : World) (A : Option Addr) (n : Nat) (L : List Sp) : Prop :=
  L.length = n ∧ (0 < n → ∃ b off, A = some ⟨b, off, none⟩ ∧ b < w.heap.size ∧ ∀ i, (hi : i < L.length) → w.cell? ⟨b, off + i * 4, none⟩ = some (.bool L[i].sv) ∧ w.cell? ⟨b, off + i * 4 + 1, none⟩ = some (.string L[i].t) ∧ w.cell? ⟨b, off + i * 4 + 2, none⟩ = some (.int .u8 L[i].f) ∧ L[i].f < 256 ∧
    ∃ a m c, w.cell? ⟨b, off + i * 4 + 3, none⟩ = some (.slice a m c) ∧ RV w a m 1 (UV L[i].cs) ∧ m ≤ c)
theorem SpV.below {w w' : World} {A : Option Addr} {n : Nat} {L : List Sp} (h : SpV w A n L) (hb : Below w.heap.size w w') : SpV w' A n L :=
  ⟨h.1, fun hn => by
    obtain ⟨b, off, e, hl, hc⟩ := h.2 hn
    refine ⟨b, off, e, Nat.lt_of_lt_of_le hl hb.size, fun i hi => ?_⟩
    obtain ⟨h0, h1, h2, h3, a, m, c, h4, h5, h6⟩ := hc i hi
    exact ⟨(hb.cell (p := ⟨b, off + i * 4, none⟩) hl).trans h0, (hb.cell (p := ⟨b, off + i * 4 + 1, none⟩) hl).trans h1, (hb.cell (p := ⟨b, off + i * 4 + 2, none⟩) hl).trans h2, h3, a, m, c, (hb.cell (p := ⟨b, off + i * 4 + 3, none⟩) hl).trans h4, h5.below hb, h6⟩⟩

end Go.Proofs.YtkglolnghihegaaGreatDoor.Sto
