/- Slices that came in, read cell by cell. -/
import Derived.Test.YtcloakaenkhgpaaDoorOctetCur
namespace Go.Proofs.YtcloakaenkhgpaaDoor.Oct
open Go.RowKit

/-- A slice of n elements of one cell each reads as these values. -/
def ReadsV (w : World) (a : Option Addr) (n : Nat) (vs : List Value) : Prop :=
  vs.length = n ∧ (0 < n → ∃ b off, a = some ⟨b, off, none⟩ ∧ b < w.heap.size ∧ ∀ i, (hi : i < vs.length) → w.cell? ⟨b, off + i, none⟩ = some vs[i])

theorem cell_lt {w : World} {p : Addr} {v : Value} (h : w.cell? p = some v) : p.block < w.heap.size := by
  by_cases hl : p.block < w.heap.size
  · exact hl
  · have : w.heap[p.block]? = none := Array.getElem?_eq_none (by omega)
    unfold World.cell? at h
    split at h
    · rename_i h1; rw [this] at h1; cases h1
    · cases h

theorem ReadsV.below {w w' : World} {a : Option Addr} {n : Nat} {vs : List Value} (h : ReadsV w a n vs) (hb : Below w.heap.size w w') : ReadsV w' a n vs :=
  ⟨h.1, fun hn => by
    obtain ⟨b, off, e, hl, hc⟩ := h.2 hn
    exact ⟨b, off, e, Nat.lt_of_lt_of_le hl hb.size, fun i hi => (hb.cell (p := ⟨b, off + i, none⟩) hl).trans (hc i hi)⟩⟩

theorem readsV_of {w : World} {x : Addr} {n : Nat} {vs : List Value} (hl : vs.length = n) (h : ∀ i, (hi : i < vs.length) → w.cell? (x.add i) = some vs[i]) : ReadsV w (some x) n vs := by
  refine ⟨hl, fun hn => ?_⟩
  obtain ⟨b, off, spot⟩ := x
  have hc := h 0 (by omega)
  have hspot : spot = none := by simpa [Addr.add] using World.cell?_spot hc
  subst hspot
  refine ⟨b, off, rfl, ?_, fun i hi => ?_⟩
  · have := cell_lt hc
    simpa [Addr.add] using this
  · have := h i hi
    have e : (⟨b, off, none⟩ : Addr).add i = ⟨b, off + i, none⟩ := by by_cases h0 : i = 0 <;> simp [Addr.add, h0]
    rwa [e] at this

theorem undrew {w w' : World} (h : Below w.drew.heap.size w.drew w') : Below w.heap.size w w' := ⟨h.os, h.tape, h.output, h.size, h.block⟩

theorem Box.of_block {w w' : World} {b : Nat} {x y z : Value} (h : Box w b x y z) (e : w'.heap[b]? = w.heap[b]?) : Box w' b x y z :=
  ⟨(World.cell?_of_block (a := ⟨b, 0, none⟩) e).trans h.c0, (World.cell?_of_block (a := ⟨b, 1, none⟩) e).trans h.c1, (World.cell?_of_block (a := ⟨b, 2, none⟩) e).trans h.c2,
   (World.frozen?_of_block (a := ⟨b, 0, none⟩) e).trans h.f0, (World.frozen?_of_block (a := ⟨b, 1, none⟩) e).trans h.f1, (World.frozen?_of_block (a := ⟨b, 2, none⟩) e).trans h.f2⟩
theorem Box.far {w : World} {b : Nat} {x y z : Value} (h : Box w b x y z) {p : Addr} (hp : b ≠ p.block) (v : Value) : Box (w.setCell p v) b x y z :=
  h.of_block (Below.heap_setCell _ _ _ _ hp)

theorem Box.set3 {w : World} {b : Nat} {x y z : Value} (h : Box w b x y z) (x' y' z' : Value) : Box (((w.setCell ⟨b, 0, none⟩ x').setCell ⟨b, 1, none⟩ y').setCell ⟨b, 2, none⟩ z') b x' y' z' := by
  obtain ⟨c0, c1, c2, f0, f1, f2⟩ := h
  constructor <;> simp [go_sem, *]

/-- What is known behind a store of three cells into the block g, one of the call's own, another one than b. -/
theorem set3_keeps {a w : World} {g b : Nat} {x y z u v t : Value} (hb : Below a.heap.size a w) (hg : Box w g x y z) (h : Box w b u v t) (hne : b ≠ g) (ha : a.heap.size ≤ g) (x' y' z' : Value) :
    Box (((w.setCell ⟨g, 0, none⟩ x').setCell ⟨g, 1, none⟩ y').setCell ⟨g, 2, none⟩ z') g x' y' z' ∧ Box (((w.setCell ⟨g, 0, none⟩ x').setCell ⟨g, 1, none⟩ y').setCell ⟨g, 2, none⟩ z') b u v t ∧
      Below a.heap.size a (((w.setCell ⟨g, 0, none⟩ x').setCell ⟨g, 1, none⟩ y').setCell ⟨g, 2, none⟩ z') ∧ (((w.setCell ⟨g, 0, none⟩ x').setCell ⟨g, 1, none⟩ y').setCell ⟨g, 2, none⟩ z').heap.size = w.heap.size :=
  ⟨hg.set3 _ _ _, ((h.far hne _).far hne _).far hne _, ((hb.setCell ha _).setCell ha _).setCell ha _, by simp [World.setCell]⟩

end Go.Proofs.YtcloakaenkhgpaaDoor.Oct
