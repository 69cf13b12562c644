/- The world of the law StoreCrash: a block of twelve cells; and the contract of after. -/
import Derived.Test.YtkglolnghihegaaGreatDoorStoP
import Derived.Test.YtkglolnghihegaaGreatDoorDskB
import Derived.Test.YtkglolnghihegaaGreatDoorCrcP
namespace Go.Proofs.YtkglolnghihegaaGreatDoor.Sto
open Go.RowKit Go.Proofs.YtkglolnghihegaaGreatDoor.Dsk

def UV (l : List UInt8) : List Value := l.map fun b => Value.int .u8 b.toNat
def ints (l : List UInt8) : List Int := l.map fun b => ((b.toNat : Nat) : Int)
theorem UV_length (l : List UInt8) : (UV l).length = l.length := by simp [UV]
theorem ints_length (l : List UInt8) : (ints l).length = l.length := by simp [ints]

/-- A state as a value. -/
abbrev TV (A : Option Addr) (n c : Nat) (A' : Option Addr) (m c' : Nat) (f : Int) (x : Nm) : Value := .agg #[.slice A n c, .slice A' m c', .int .i64 f, .int .i64 x.slot, .int .i64 x.gen, .int .i64 x.stamp, .int .i64 x.at_, .int .i64 x.no, .bool x.live]
/-- The world's cells. -/
abbrev wl (A : Option Addr) (n c : Nat) (A' : Option Addr) (m c' : Nat) (f : Int) (x : Nm) (hA : Option Addr) (hn hc : Nat) (mA : Option Addr) (mn mc : Nat) (q : Bool) : List Value :=
  [.slice A n c, .slice A' m c', .int .i64 f, .int .i64 x.slot, .int .i64 x.gen, .int .i64 x.stamp, .int .i64 x.at_, .int .i64 x.no, .bool x.live, .slice hA hn hc, .slice mA mn mc, .bool q]

structure Wd (w : World) (b : Nat) (A : Option Addr) (n c : Nat) (A' : Option Addr) (m c' : Nat) (f : Int) (x : Nm) (hA : Option Addr) (hn hc : Nat) (mA : Option Addr) (mn mc : Nat) (q : Bool) (S : List ByteArray) (V : List Wr) (H M : List ByteArray) : Prop where
  blk : Blk w b 58 (wl A n c A' m c' f x hA hn hc mA mn mc q)
  dev : Dev w A n c A' m c' f S V
  has : RV w hA hn 1 (SV H)
  may : RV w mA mn 1 (SV M)

section
variable {w : World} {b : Nat} {A : Option Addr} {n c : Nat} {A' : Option Addr} {m c' : Nat} {f : Int} {x : Nm} {hA : Option Addr} {hn hc : Nat} {mA : Option Addr} {mn mc : Nat} {q : Bool} {S : List ByteArray} {V : List Wr} {H M : List ByteArray}
theorem Wd.call (h : Wd w b A n c A' m c' f x hA hn hc mA mn mc q S V H M) {w' : World} (hb : Below w.heap.size w w') : Wd w' b A n c A' m c' f x hA hn hc mA mn mc q S V H M :=
  ⟨h.blk.call hb, h.dev.below hb, h.has.below hb, h.may.below hb⟩
theorem Wd.lt (h : Wd w b A n c A' m c' f x hA hn hc mA mn mc q S V H M) : b < w.heap.size := h.blk.lt
theorem Wd.ns (h : Wd w b A n c A' m c' f x hA hn hc mA mn mc q S V H M) : NoStr w b := NoStr.of_blk h.blk (by simp)
theorem Wd.cells (h : Wd w b A n c A' m c' f x hA hn hc mA mn mc q S V H M) :
    w.cell? ⟨b, 0, none⟩ = some (.slice A n c) ∧ w.cell? ⟨b, 1, none⟩ = some (.slice A' m c') ∧ w.cell? ⟨b, 2, none⟩ = some (.int .i64 f) ∧ w.cell? ⟨b, 3, none⟩ = some (.int .i64 x.slot) ∧ w.cell? ⟨b, 4, none⟩ = some (.int .i64 x.gen) ∧ w.cell? ⟨b, 5, none⟩ = some (.int .i64 x.stamp) ∧
    w.cell? ⟨b, 6, none⟩ = some (.int .i64 x.at_) ∧ w.cell? ⟨b, 7, none⟩ = some (.int .i64 x.no) ∧ w.cell? ⟨b, 8, none⟩ = some (.bool x.live) ∧ w.cell? ⟨b, 9, none⟩ = some (.slice hA hn hc) ∧ w.cell? ⟨b, 10, none⟩ = some (.slice mA mn mc) ∧ w.cell? ⟨b, 11, none⟩ = some (.bool q) :=
  ⟨h.blk.cell (i := 0) (by simp), h.blk.cell (i := 1) (by simp), h.blk.cell (i := 2) (by simp), h.blk.cell (i := 3) (by simp), h.blk.cell (i := 4) (by simp), h.blk.cell (i := 5) (by simp), h.blk.cell (i := 6) (by simp), h.blk.cell (i := 7) (by simp), h.blk.cell (i := 8) (by simp), h.blk.cell (i := 9) (by simp), h.blk.cell (i := 10) (by simp), h.blk.cell (i := 11) (by simp)⟩
theorem Wd.live (h : Wd w b A n c A' m c' f x hA hn hc mA mn mc q S V H M) :
    w.frozen? ⟨b, 0, none⟩ = false ∧ w.frozen? ⟨b, 1, none⟩ = false ∧ w.frozen? ⟨b, 2, none⟩ = false ∧ w.frozen? ⟨b, 3, none⟩ = false ∧ w.frozen? ⟨b, 4, none⟩ = false ∧ w.frozen? ⟨b, 5, none⟩ = false ∧
    w.frozen? ⟨b, 6, none⟩ = false ∧ w.frozen? ⟨b, 7, none⟩ = false ∧ w.frozen? ⟨b, 8, none⟩ = false ∧ w.frozen? ⟨b, 9, none⟩ = false ∧ w.frozen? ⟨b, 10, none⟩ = false ∧ w.frozen? ⟨b, 11, none⟩ = false :=
  ⟨h.blk.frozen 0, h.blk.frozen 1, h.blk.frozen 2, h.blk.frozen 3, h.blk.frozen 4, h.blk.frozen 5, h.blk.frozen 6, h.blk.frozen 7, h.blk.frozen 8, h.blk.frozen 9, h.blk.frozen 10, h.blk.frozen 11⟩

/-- A new device is stored. -/
theorem Wd.disk (h : Wd w b A n c A' m c' f x hA hn hc mA mn mc q S V H M) {B : Option Addr} {p d : Nat} {B' : Option Addr} {r d' : Nat} {g : Int} {S' : List ByteArray} {V' : List Wr} (hd : Dev w B p d B' r d' g S' V') :
    Wd (((w.setCell ⟨b, 0, none⟩ (.slice B p d)).setCell ⟨b, 1, none⟩ (.slice B' r d')).setCell ⟨b, 2, none⟩ (.int .i64 g)) b B p d B' r d' g x hA hn hc mA mn mc q S' V' H M ∧
      w.grownBy (((w.setCell ⟨b, 0, none⟩ (.slice B p d)).setCell ⟨b, 1, none⟩ (.slice B' r d')).setCell ⟨b, 2, none⟩ (.int .i64 g)) (some b) := by
  have hg : w.grownBy (((w.setCell ⟨b, 0, none⟩ (.slice B p d)).setCell ⟨b, 1, none⟩ (.slice B' r d')).setCell ⟨b, 2, none⟩ (.int .i64 g)) (some b) := grown_set (grown_set (grown_set (World.grownBy.refl w _) 0 _) 1 _) 2 _
  have hB := ((h.blk.set_ 0 (.slice B p d)).set_ 1 (.slice B' r d')).set_ 2 (.int .i64 g)
  exact ⟨⟨by simpa using hB, hd.only h.ns hg, h.has.secOnly h.ns hg, h.may.secOnly h.ns hg⟩, hg⟩
/-- A new state is stored. -/
theorem Wd.state (h : Wd w b A n c A' m c' f x hA hn hc mA mn mc q S V H M) {B : Option Addr} {p d : Nat} {B' : Option Addr} {r d' : Nat} {g : Int} {S' : List ByteArray} {V' : List Wr} (hd : Dev w B p d B' r d' g S' V') (y : Nm) {w' : World}
    (e : w' = (((((((((w.setCell ⟨b, 0, none⟩ (.slice B p d)).setCell ⟨b, 1, none⟩ (.slice B' r d')).setCell ⟨b, 2, none⟩ (.int .i64 g)).setCell ⟨b, 3, none⟩ (.int .i64 y.slot)).setCell ⟨b, 4, none⟩ (.int .i64 y.gen)).setCell ⟨b, 5, none⟩ (.int .i64 y.stamp)).setCell ⟨b, 6, none⟩ (.int .i64 y.at_)).setCell ⟨b, 7, none⟩ (.int .i64 y.no)).setCell ⟨b, 8, none⟩ (.bool y.live))) :
    Wd w' b B p d B' r d' g y hA hn hc mA mn mc q S' V' H M ∧ w.grownBy w' (some b) := by
  subst e
  have hg := grown_set (grown_set (grown_set (grown_set (grown_set (grown_set (grown_set (grown_set (grown_set (World.grownBy.refl w (some b)) 0 (.slice B p d)) 1 (.slice B' r d')) 2 (.int .i64 g)) 3 (.int .i64 y.slot)) 4 (.int .i64 y.gen)) 5 (.int .i64 y.stamp)) 6 (.int .i64 y.at_)) 7 (.int .i64 y.no)) 8 (.bool y.live)
  have hB := ((((((((h.blk.set_ 0 (.slice B p d)).set_ 1 (.slice B' r d')).set_ 2 (.int .i64 g)).set_ 3 (.int .i64 y.slot)).set_ 4 (.int .i64 y.gen)).set_ 5 (.int .i64 y.stamp)).set_ 6 (.int .i64 y.at_)).set_ 7 (.int .i64 y.no)).set_ 8 (.bool y.live)
  exact ⟨⟨by simpa using hB, hd.only h.ns hg, h.has.secOnly h.ns hg, h.may.secOnly h.ns hg⟩, hg⟩
/-- What was answered, and what was not yet, are stored. -/
theorem Wd.setHas (h : Wd w b A n c A' m c' f x hA hn hc mA mn mc q S V H M) {a : Option Addr} {k d : Nat} {L : List ByteArray} (hr : RV w a k 1 (SV L)) :
    Wd (w.setCell ⟨b, 9, none⟩ (.slice a k d)) b A n c A' m c' f x a k d mA mn mc q S V L M ∧ w.grownBy (w.setCell ⟨b, 9, none⟩ (.slice a k d)) (some b) := by
  have hg : w.grownBy (w.setCell ⟨b, 9, none⟩ (.slice a k d)) (some b) := grown_set (World.grownBy.refl w _) 9 _
  have hB := h.blk.set_ 9 (.slice a k d)
  exact ⟨⟨by simpa using hB, h.dev.only h.ns hg, hr.secOnly h.ns hg, h.may.secOnly h.ns hg⟩, hg⟩
theorem Wd.setMay (h : Wd w b A n c A' m c' f x hA hn hc mA mn mc q S V H M) {a : Option Addr} {k d : Nat} {L : List ByteArray} (hr : RV w a k 1 (SV L)) :
    Wd (w.setCell ⟨b, 10, none⟩ (.slice a k d)) b A n c A' m c' f x hA hn hc a k d q S V H L ∧ w.grownBy (w.setCell ⟨b, 10, none⟩ (.slice a k d)) (some b) := by
  have hg : w.grownBy (w.setCell ⟨b, 10, none⟩ (.slice a k d)) (some b) := grown_set (World.grownBy.refl w _) 10 _
  have hB := h.blk.set_ 10 (.slice a k d)
  exact ⟨⟨by simpa using hB, h.dev.only h.ns hg, h.has.secOnly h.ns hg, hr.secOnly h.ns hg⟩, hg⟩
end

theorem grown_trans {w w1 w2 : World} {b : Nat} (h1 : w.grownBy w1 (some b)) (h2 : w1.grownBy w2 (some b)) : w.grownBy w2 (some b) :=
  ⟨h2.os.trans h1.os, h2.tape.trans h1.tape, h2.output.trans h1.output, Nat.le_trans h1.size h2.size, fun k hk hne => (h2.block k (Nat.lt_of_lt_of_le hk h1.size) hne).trans (h1.block k hk hne)⟩
theorem grown_below {w w1 : World} (h : Below w.heap.size w w1) (b : Option Nat) : w.grownBy w1 b := ⟨h.os, h.tape, h.output, h.size, fun k hk _ => h.block k hk⟩

/-- The world is left so. -/
def WdP (w w' : World) (b : Nat) (x : Nm) (S : List ByteArray) (V : List Wr) (H M : List ByteArray) : Prop :=
  ∃ A n c A' m c' hA hn hc mA mn mc, Wd w' b A n c A' m c' (-1) x hA hn hc mA mn mc false S V H M ∧ w.grownBy w' (some b)

/-- Bytes that lie in another block than this one, since no cell of it is a byte. -/
def NoByte (w : World) (b : Nat) : Prop := ∀ j z, w.cell? ⟨b, j, none⟩ ≠ some (.int .u8 z)
theorem NoByte.of_blk {w : World} {b : Nat} {t : TypeId} {vs : List Value} (h : Blk w b t vs) (hv : ∀ v ∈ vs, ∀ z, v ≠ .int .u8 z) : NoByte w b := fun j z e => by
  rw [cell_of_row w b j _ t _ h, List.getElem?_toArray] at e
  exact hv _ (List.mem_of_getElem? e) z rfl
theorem uv_only {w w' : World} {a : Option Addr} {n : Nat} {cs : List UInt8} (h : RV w a n 1 (UV cs)) {b : Nat} (hn : NoByte w b) (hg : w.grownBy w' (some b)) : RV w' a n 1 (UV cs) := by
  refine ⟨h.1, fun h0 => ?_⟩
  obtain ⟨g, off, e, hl, hc⟩ := h.2 h0
  have hne : g ≠ b := fun e => by
    subst e
    have hl2 : cs.length = n := by have := h.1; rw [UV_length] at this; omega
    have h3 := hc 0 (by rw [UV_length]; omega)
    simp only [UV, List.getElem_map] at h3
    exact hn _ _ h3
  exact ⟨g, off, e, Nat.lt_of_lt_of_le hl hg.size, fun i hi => (World.cell?_of_block (a := ⟨g, off + i, none⟩) (hg.block g hl (by simpa using hne))).trans (hc i hi)⟩
theorem Wd.nb {w : World} {b : Nat} {A : Option Addr} {n c : Nat} {A' : Option Addr} {m c' : Nat} {f : Int} {x : Nm} {hA : Option Addr} {hn hc : Nat} {mA : Option Addr} {mn mc : Nat} {q : Bool} {S : List ByteArray} {V : List Wr} {H M : List ByteArray} (h : Wd w b A n c A' m c' f x hA hn hc mA mn mc q S V H M) : NoByte w b := NoByte.of_blk h.blk (by simp)
/-- The table lies in another block, too. -/
theorem Wd.tab {w : World} {b : Nat} {A : Option Addr} {n c : Nat} {A' : Option Addr} {m c' : Nat} {f : Int} {x : Nm} {hA : Option Addr} {hn hc : Nat} {mA : Option Addr} {mn mc : Nat} {q : Bool} {S : List ByteArray} {V : List Wr} {H M : List ByteArray} (h : Wd w b A n c A' m c' f x hA hn hc mA mn mc q S V H M)
    {w' : World} (hT : Crc.Tab w) (hg : w.grownBy w' (some b)) : Crc.Tab w' := by
  have hne : (1 : Nat) ≠ b := fun e => by
    have h0 := hT 0 (by decide)
    have hc := h.blk.cell (i := 0) (by simp)
    rw [← e] at hc
    rw [hc] at h0
    simp at h0
  intro i hi
  have hc := hT i hi
  exact (World.cell?_of_block (a := ⟨1, i, none⟩) (hg.block 1 (cell_lt hc) (by simpa using hne))).trans hc
theorem grown_far {w w1 w2 : World} {b g : Nat} (h1 : w.grownBy w1 (some b)) (h2 : w1.grownBy w2 (some g)) (hg : w.heap.size ≤ g) : w.grownBy w2 (some b) :=
  ⟨h2.os.trans h1.os, h2.tape.trans h1.tape, h2.output.trans h1.output, Nat.le_trans h1.size h2.size, fun k hk hne => (h2.block k (Nat.lt_of_lt_of_le hk h1.size) (by simp; omega)).trans (h1.block k hk hne)⟩

end Go.Proofs.YtkglolnghihegaaGreatDoor.Sto
