/- Variables that hold a device: they are apart from every device's rows, since no cell of theirs is a string. -/
import Derived.Test.YtaafkkmcpedeaaaDiskBlk
namespace Go.Proofs.Ytaafkkmcpedeaaa.Dsk
open Go.RowKit

/-- No cell of block b is a string. -/
def NoStr (w : World) (b : Nat) : Prop := ∀ j s, w.cell? ⟨b, j, none⟩ ≠ some (.string s)
theorem NoStr.of_block {w w' : World} {b : Nat} (h : NoStr w b) (e : w'.heap[b]? = w.heap[b]?) : NoStr w' b := fun j s => by rw [World.cell?_of_block (a := ⟨b, j, none⟩) e]; exact h j s
theorem NoStr.call {w w' : World} {b : Nat} (h : NoStr w b) (hb : Below w.heap.size w w') (hl : b < w.heap.size) : NoStr w' b := h.of_block (hb.block b hl)
theorem NoStr.of_blk {w : World} {b : Nat} {t : TypeId} {vs : List Value} (h : Blk w b t vs) (hv : ∀ v ∈ vs, ∀ s, v ≠ .string s) : NoStr w b := fun j s e => by
  rw [cell_of_row w b j _ t _ h, List.getElem?_toArray] at e
  exact hv _ (List.mem_of_getElem? e) s rfl
theorem NoStr.set {w : World} {b : Nat} (h : NoStr w b) {i : Nat} {u : Value} (hu : w.cell? ⟨b, i, none⟩ = some u) (v : Value) (hv : ∀ s, v ≠ .string s) : NoStr (w.setCell ⟨b, i, none⟩ v) b := fun j s e => by
  by_cases hj : (⟨b, i, none⟩ : Addr) = ⟨b, j, none⟩
  · rw [← hj, World.cell?_setCell_same w ⟨b, i, none⟩ v hu] at e
    injection e with e
    exact hv s e
  · rw [World.cell?_setCell_other w ⟨b, i, none⟩ ⟨b, j, none⟩ v hj] at e
    exact h j s e

/-- A slice whose first cells hold a string is not in such a block. -/
theorem RV.secOnly {w w' : World} {a : Option Addr} {n : Nat} {S : List ByteArray} (h : RV w a n 1 (SV S)) {b : Nat} (hn : NoStr w b) (hg : w.grownBy w' (some b)) : RV w' a n 1 (SV S) := by
  refine ⟨h.1, fun h0 => ?_⟩
  obtain ⟨g, off, e, hl, hc⟩ := h.2 h0
  have hne : g ≠ b := fun e => by
    subst e
    have hl2 := h.sec
    have h3 := hc 0 (by rw [SV_length]; omega)
    simp only [SV, List.getElem_map] at h3
    exact hn _ _ h3
  exact ⟨g, off, e, Nat.lt_of_lt_of_le hl hg.size, fun i hi => (World.cell?_of_block (a := ⟨g, off + i, none⟩) (hg.block g hl (by simpa using hne))).trans (hc i hi)⟩
theorem RV.wrOnly {w w' : World} {a : Option Addr} {n : Nat} {W : List Wr} (h : RV w a n 2 (WV W)) {b : Nat} (hn : NoStr w b) (hg : w.grownBy w' (some b)) : RV w' a n 2 (WV W) := by
  refine ⟨h.1, fun h0 => ?_⟩
  obtain ⟨g, off, e, hl, hc⟩ := h.2 h0
  have hne : g ≠ b := fun e2 => by
    subst e2
    have hl2 := h.wr
    obtain ⟨b', off', e', _, _, h4⟩ := h.wrAt h0 (by omega)
    rw [e] at e'
    injection e' with e'
    injection e' with e1 e2
    subst e1
    exact hn _ _ h4
  exact ⟨g, off, e, Nat.lt_of_lt_of_le hl hg.size, fun i hi => (World.cell?_of_block (a := ⟨g, off + i, none⟩) (hg.block g hl (by simpa using hne))).trans (hc i hi)⟩
theorem Dev.only {w w' : World} {A : Option Addr} {n c : Nat} {A' : Option Addr} {m c' : Nat} {f : Int} {S : List ByteArray} {W : List Wr} (h : Dev w A n c A' m c' f S W) {b : Nat} (hn : NoStr w b) (hg : w.grownBy w' (some b)) : Dev w' A n c A' m c' f S W :=
  ⟨h.sec.secOnly hn hg, h.wr.wrOnly hn hg, h.lo, h.hi, h.ns, h.nw⟩

theorem grown_set {w w' : World} {b : Nat} (h : w.grownBy w' (some b)) (i : Nat) (v : Value) : w.grownBy (w'.setCell ⟨b, i, none⟩ v) (some b) :=
  ⟨h.os, h.tape, h.output, by simpa [World.setCell] using h.size, fun k hk hne => (Below.heap_setCell w' ⟨b, i, none⟩ v k (by rintro rfl; exact hne rfl)).trans (h.block k hk hne)⟩
/-- A store of three cells. -/
abbrev set3 (w : World) (b : Nat) (x y z : Value) : World := ((w.setCell ⟨b, 0, none⟩ x).setCell ⟨b, 1, none⟩ y).setCell ⟨b, 2, none⟩ z
theorem grown_set3 (w : World) (b : Nat) (x y z : Value) : w.grownBy (set3 w b x y z) (some b) := grown_set (grown_set (grown_set (World.grownBy.refl w _) 0 x) 1 y) 2 z

/-- Block b is a variable that holds this device's value. -/
structure St (w : World) (b : Nat) (A : Option Addr) (n c : Nat) (A' : Option Addr) (m c' : Nat) (f : Int) : Prop where
  box : Box w b (.slice A n c) (.slice A' m c') (.int .i64 f)
  ns : NoStr w b
section
variable {w w' : World} {b : Nat} {A : Option Addr} {n c : Nat} {A' : Option Addr} {m c' : Nat} {f : Int}
theorem St.lt (h : St w b A n c A' m c' f) : b < w.heap.size := h.box.lt
theorem St.of_block (h : St w b A n c A' m c' f) (e : w'.heap[b]? = w.heap[b]?) : St w' b A n c A' m c' f := ⟨h.box.of_block e, h.ns.of_block e⟩
theorem St.call (h : St w b A n c A' m c' f) (hb : Below w.heap.size w w') : St w' b A n c A' m c' f := h.of_block (hb.block b h.lt)
theorem St.alloc (h : St w b A n c A' m c' f) (o : Obj) : St (w.alloc o) b A n c A' m c' f := h.call (new1 w o)
theorem St.drew (h : St w b A n c A' m c' f) : St w.drew b A n c A' m c' f := ⟨h.box.drew, h.ns⟩
theorem St.new (w : World) (A : Option Addr) (n c : Nat) (A' : Option Addr) (m c' : Nat) (f : Int) (t : TypeId) : St (w.alloc (.cells #[.slice A n c, .slice A' m c', .int .i64 f] t)) w.heap.size A n c A' m c' f :=
  ⟨Box.new _ _ _ _ _, NoStr.of_blk (Blk.new w t #[.slice A n c, .slice A' m c', .int .i64 f]) (by simp)⟩
theorem St.set3 (h : St w b A n c A' m c' f) (B : Option Addr) (p d : Nat) (B' : Option Addr) (q d' : Nat) (g : Int) : St (set3 w b (.slice B p d) (.slice B' q d') (.int .i64 g)) b B p d B' q d' g := by
  refine ⟨h.box.set3 _ _ _, ?_⟩
  obtain ⟨c0, c1, c2, f0, f1, f2⟩ := h.box
  have n1 := h.ns.set c0 (.slice B p d) (by simp)
  have n2 := n1.set (i := 1) (u := .slice A' m c') (by simp [go_sem, c1]) (.slice B' q d') (by simp)
  exact n2.set (i := 2) (u := .int .i64 f) (by simp [go_sem, c2]) (.int .i64 g) (by simp)
theorem St.other (h : St w b A n c A' m c' f) {g : Nat} (hg : w.grownBy w' (some g)) (hne : b ≠ g) : St w' b A n c A' m c' f := h.of_block (hg.block b h.lt (by simpa using hne))
end

end Go.Proofs.Ytaafkkmcpedeaaa.Dsk
