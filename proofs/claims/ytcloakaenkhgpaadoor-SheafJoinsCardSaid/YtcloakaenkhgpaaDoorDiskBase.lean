/- Words for memory: slices that read as lists, boxes of two and three cells, devices. -/
import Derived.Test.YtcloakaenkhgpaaDoorMem
import Derived.Test.YtcloakaenkhgpaaDoorDiskPure
import Derived.WalkKit
import Derived.WalkLawsBesides
import Derived.WalkSpells
import Derived.Below
import Derived.Lib.Hide
import Derived.Outline
import Derived.Laws.OwnMore
import Derived.Laws.Rows
import Derived.Deep.Draws
import Derived.Maps.AppendAt
namespace Go.Proofs.YtcloakaenkhgpaaDoor.Dsk
open Go.RowKit

theorem bcell {W w1 : World} (hb : Below W.heap.size W w1) : (∀ b o, b < W.heap.size → w1.cell? ⟨b, o, none⟩ = W.cell? ⟨b, o, none⟩) ∧ (∀ b o, b < W.heap.size → w1.frozen? ⟨b, o, none⟩ = W.frozen? ⟨b, o, none⟩) :=
  ⟨fun b o h => hb.cell (p := ⟨b, o, none⟩) h, fun b o h => hb.frozen (p := ⟨b, o, none⟩) h⟩
theorem cell_lt {w : World} {p : Addr} {v : Value} (h : w.cell? p = some v) : p.block < w.heap.size := by
  by_cases hl : p.block < w.heap.size
  · exact hl
  · have : w.heap[p.block]? = none := Array.getElem?_eq_none (by omega)
    unfold World.cell? at h
    split at h
    · rename_i h1; rw [this] at h1; cases h1
    · cases h
theorem undrew {w w' : World} (h : Below w.drew.heap.size w.drew w') : Below w.heap.size w w' := ⟨h.os, h.tape, h.output, h.size, h.block⟩
theorem new1 (w : World) (o : Obj) : Below w.heap.size w (w.alloc o) := (Below.refl _ _).alloc (Nat.le_refl _) _

/-- A slice of n elements of k cells each reads as these values. -/
def RV (w : World) (a : Option Addr) (n k : Nat) (vs : List Value) : Prop :=
  vs.length = n * k ∧ (0 < n → ∃ b off, a = some ⟨b, off, none⟩ ∧ b < w.heap.size ∧ ∀ i, (hi : i < vs.length) → w.cell? ⟨b, off + i, none⟩ = some vs[i])
theorem RV.nil (w : World) (a : Option Addr) (k : Nat) : RV w a 0 k [] := ⟨by simp, fun h => absurd h (by omega)⟩
theorem RV.below {w w' : World} {a : Option Addr} {n k : Nat} {vs : List Value} (h : RV w a n k vs) (hb : Below w.heap.size w w') : RV w' a n k vs :=
  ⟨h.1, fun hn => by
    obtain ⟨b, off, e, hl, hc⟩ := h.2 hn
    exact ⟨b, off, e, Nat.lt_of_lt_of_le hl hb.size, fun i hi => (hb.cell (p := ⟨b, off + i, none⟩) hl).trans (hc i hi)⟩⟩
theorem add_none (b off i : Nat) : (⟨b, off, none⟩ : Addr).add i = ⟨b, off + i, none⟩ := by by_cases h0 : i = 0 <;> simp [Addr.add, h0]
theorem rv_of {w : World} {x : Addr} {n k : Nat} {vs : List Value} (hk : 0 < k) (hl : vs.length = n * k) (h : ∀ i, (hi : i < vs.length) → w.cell? (x.add i) = some vs[i]) : RV w (some x) n k vs := by
  refine ⟨hl, fun hn => ?_⟩
  have hp : 0 < vs.length := by rw [hl]; exact Nat.mul_pos hn hk
  obtain ⟨b, off, spot⟩ := x
  have hc := h 0 hp
  have hspot : spot = none := by simpa [Addr.add] using World.cell?_spot hc
  subst hspot
  refine ⟨b, off, rfl, ?_, fun i hi => ?_⟩
  · have := cell_lt hc
    simpa [Addr.add] using this
  · have := h i hi
    rwa [add_none] at this
theorem RV.of_own {w : World} {base : Nat} {e : TypeId} {k n c : Nat} {a : Option Addr} {vs : List Value} (h : w.ownsRow base e k (.slice a n c) n vs) : RV w a n k vs := by
  refine ⟨h.1, fun hn => ?_⟩
  rcases h.2 with ⟨-, rfl⟩ | ⟨g, cap, cur, hv, -, hh, hnc, hm, hs, ht⟩
  · omega
  · injection hv with hA _ _
    subst hA
    have hl : g < w.heap.size := by
      by_cases hl : g < w.heap.size
      · exact hl
      · rw [Array.getElem?_eq_none (by omega)] at hh; cases hh
    refine ⟨g, 0, rfl, hl, fun i hi => ?_⟩
    have := h.cells (g := g) rfl i vs[i] (List.getElem?_eq_getElem hi)
    rwa [add_none] at this

/-- Sectors and writes as cells. -/
def SV (S : List ByteArray) : List Value := S.map .string
def WV (W : List Wr) : List Value := W.flatMap fun x => [.int .i64 x.1, .string x.2]
def IV (zs : List Int) : List Value := zs.map (.int .i64)
theorem SV_length (S : List ByteArray) : (SV S).length = S.length := by simp [SV]
theorem IV_length (S : List Int) : (IV S).length = S.length := by simp [IV]
theorem WV_length (W : List Wr) : (WV W).length = W.length * 2 := by
  induction W with
  | nil => rfl
  | cons x W ih => simp only [WV, List.flatMap_cons, List.length_append, List.length_cons, List.length_nil] at ih ⊢; omega
theorem WV_append (W V : List Wr) : WV (W ++ V) = WV W ++ WV V := by simp [WV]
theorem SV_append (W V : List ByteArray) : SV (W ++ V) = SV W ++ SV V := by simp [SV]
theorem WV_get (W : List Wr) (i : Nat) (hi : i < W.length) : (WV W)[i * 2]? = some (.int .i64 W[i].1) ∧ (WV W)[i * 2 + 1]? = some (.string W[i].2) := by
  induction W generalizing i with
  | nil => simp at hi
  | cons x W ih =>
    have e : WV (x :: W) = .int .i64 x.1 :: .string x.2 :: WV W := rfl
    rw [e]
    cases i with
    | zero => exact ⟨rfl, rfl⟩
    | succ i =>
      have := ih i (by simpa using hi)
      rw [show (i + 1) * 2 = i * 2 + 1 + 1 by omega]
      simpa using this
theorem WV_one (W : List Wr) : ∀ v ∈ WV W, v.oneCell' = true := by
  intro v hv
  obtain ⟨x, _, hx⟩ := List.mem_flatMap.1 hv
  simp at hx
  rcases hx with rfl | rfl <;> rfl
theorem SV_one (W : List ByteArray) : ∀ v ∈ SV W, v.oneCell' = true := by
  intro v hv
  obtain ⟨x, _, rfl⟩ := List.mem_map.1 hv
  rfl
theorem IV_one (W : List Int) : ∀ v ∈ IV W, v.oneCell' = true := by
  intro v hv
  obtain ⟨x, _, rfl⟩ := List.mem_map.1 hv
  rfl

theorem RV.sec {w : World} {a : Option Addr} {n : Nat} {S : List ByteArray} (h : RV w a n 1 (SV S)) : S.length = n := by have := h.1; rw [SV_length] at this; omega
theorem RV.wr {w : World} {a : Option Addr} {n : Nat} {W : List Wr} (h : RV w a n 2 (WV W)) : W.length = n := by have := h.1; rw [WV_length] at this; omega
theorem RV.ints {w : World} {a : Option Addr} {n : Nat} {W : List Int} (h : RV w a n 1 (IV W)) : W.length = n := by have := h.1; rw [IV_length] at this; omega
theorem RV.secAt {w : World} {a : Option Addr} {n : Nat} {S : List ByteArray} (h : RV w a n 1 (SV S)) {k : Nat} (hk : k < n) (hl : k < S.length) :
    ∃ b off, a = some ⟨b, off, none⟩ ∧ b < w.heap.size ∧ w.cell? ⟨b, off + k, none⟩ = some (.string S[k]) := by
  obtain ⟨b, off, e, hb, hc⟩ := h.2 (by omega)
  refine ⟨b, off, e, hb, ?_⟩
  rw [hc k (by rw [SV_length]; exact hl)]
  simp [SV]
theorem RV.intAt {w : World} {a : Option Addr} {n : Nat} {S : List Int} (h : RV w a n 1 (IV S)) {k : Nat} (hk : k < n) (hl : k < S.length) :
    ∃ b off, a = some ⟨b, off, none⟩ ∧ b < w.heap.size ∧ w.cell? ⟨b, off + k, none⟩ = some (.int .i64 S[k]) := by
  obtain ⟨b, off, e, hb, hc⟩ := h.2 (by omega)
  refine ⟨b, off, e, hb, ?_⟩
  rw [hc k (by rw [IV_length]; exact hl)]
  simp [IV]
theorem RV.wrAt {w : World} {a : Option Addr} {n : Nat} {W : List Wr} (h : RV w a n 2 (WV W)) {k : Nat} (hk : k < n) (hl : k < W.length) :
    ∃ b off, a = some ⟨b, off, none⟩ ∧ b < w.heap.size ∧ w.cell? ⟨b, off + k * 2, none⟩ = some (.int .i64 W[k].1) ∧ w.cell? ⟨b, off + k * 2 + 1, none⟩ = some (.string W[k].2) := by
  obtain ⟨b, off, e, hb, hc⟩ := h.2 (by omega)
  obtain ⟨h1, h2⟩ := WV_get W k hl
  have l1 : k * 2 < (WV W).length := by rw [WV_length]; omega
  have l2 : k * 2 + 1 < (WV W).length := by rw [WV_length]; omega
  rw [List.getElem?_eq_getElem l1] at h1
  rw [List.getElem?_eq_getElem l2] at h2
  exact ⟨b, off, e, hb, (hc _ l1).trans h1, (by rw [Nat.add_assoc]; exact (hc _ l2).trans h2)⟩

/-- A device's value. -/
abbrev DV (A : Option Addr) (n c : Nat) (A' : Option Addr) (m c' : Nat) (f : Int) : Value := .agg #[.slice A n c, .slice A' m c', .int .i64 f]
/-- A device's value reads as these sectors and writes. -/
structure Dev (w : World) (A : Option Addr) (n c : Nat) (A' : Option Addr) (m c' : Nat) (f : Int) (S : List ByteArray) (W : List Wr) : Prop where
  sec : RV w A n 1 (SV S)
  wr : RV w A' m 2 (WV W)
  lo : -9223372036854775808 ≤ f
  hi : f ≤ 9223372036854775807
  ns : S.length ≤ 2000
  nw : W.length ≤ 2000
theorem Dev.below {w w' : World} {A : Option Addr} {n c : Nat} {A' : Option Addr} {m c' : Nat} {f : Int} {S : List ByteArray} {W : List Wr} (h : Dev w A n c A' m c' f S W) (hb : Below w.heap.size w w') : Dev w' A n c A' m c' f S W :=
  ⟨h.sec.below hb, h.wr.below hb, h.lo, h.hi, h.ns, h.nw⟩
theorem Dev.new {w : World} {A : Option Addr} {n c : Nat} {A' : Option Addr} {m c' : Nat} {f : Int} {S : List ByteArray} {W : List Wr} (h : Dev w A n c A' m c' f S W) (o : Obj) : Dev (w.alloc o) A n c A' m c' f S W := h.below (new1 w o)

/-- A block of three cells that may be written. -/
structure Box (w : World) (b : Nat) (x y z : Value) : Prop where
  c0 : w.cell? ⟨b, 0, none⟩ = some x
  c1 : w.cell? ⟨b, 1, none⟩ = some y
  c2 : w.cell? ⟨b, 2, none⟩ = some z
  f0 : w.frozen? ⟨b, 0, none⟩ = false
  f1 : w.frozen? ⟨b, 1, none⟩ = false
  f2 : w.frozen? ⟨b, 2, none⟩ = false
theorem Box.below {w w' : World} {B b : Nat} {x y z : Value} (h : Box w b x y z) (hb : Below B w w') (hl : b < B) : Box w' b x y z :=
  ⟨(hb.cell (p := ⟨b, 0, none⟩) hl).trans h.c0, (hb.cell (p := ⟨b, 1, none⟩) hl).trans h.c1, (hb.cell (p := ⟨b, 2, none⟩) hl).trans h.c2,
   (hb.frozen (p := ⟨b, 0, none⟩) hl).trans h.f0, (hb.frozen (p := ⟨b, 1, none⟩) hl).trans h.f1, (hb.frozen (p := ⟨b, 2, none⟩) hl).trans h.f2⟩
theorem Box.new (w : World) (x y z : Value) (t : TypeId) : Box (w.alloc (.cells #[x, y, z] t)) w.heap.size x y z := by
  constructor <;> simp [go_sem]
theorem Box.lt {w : World} {b : Nat} {x y z : Value} (h : Box w b x y z) : b < w.heap.size := cell_lt h.c0
theorem Box.alloc {w : World} {b : Nat} {x y z : Value} (h : Box w b x y z) (o : Obj) : Box (w.alloc o) b x y z := h.below (new1 w o) h.lt
theorem Box.call {w w' : World} {b : Nat} {x y z : Value} (h : Box w b x y z) (hb : Below w.heap.size w w') : Box w' b x y z := h.below hb h.lt
theorem Box.of_block {w w' : World} {b : Nat} {x y z : Value} (h : Box w b x y z) (e : w'.heap[b]? = w.heap[b]?) : Box w' b x y z :=
  ⟨(World.cell?_of_block (a := ⟨b, 0, none⟩) e).trans h.c0, (World.cell?_of_block (a := ⟨b, 1, none⟩) e).trans h.c1, (World.cell?_of_block (a := ⟨b, 2, none⟩) e).trans h.c2,
   (World.frozen?_of_block (a := ⟨b, 0, none⟩) e).trans h.f0, (World.frozen?_of_block (a := ⟨b, 1, none⟩) e).trans h.f1, (World.frozen?_of_block (a := ⟨b, 2, none⟩) e).trans h.f2⟩
theorem Box.far {w : World} {b : Nat} {x y z : Value} (h : Box w b x y z) {p : Addr} (hp : b ≠ p.block) (v : Value) : Box (w.setCell p v) b x y z :=
  h.of_block (Below.heap_setCell _ _ _ _ hp)
theorem Box.set3 {w : World} {b : Nat} {x y z : Value} (h : Box w b x y z) (x' y' z' : Value) : Box (((w.setCell ⟨b, 0, none⟩ x').setCell ⟨b, 1, none⟩ y').setCell ⟨b, 2, none⟩ z') b x' y' z' := by
  obtain ⟨c0, c1, c2, f0, f1, f2⟩ := h
  constructor <;> simp [go_sem, *]

theorem Box.drew {w : World} {b : Nat} {x y z : Value} (h : Box w b x y z) : Box w.drew b x y z := ⟨h.c0, h.c1, h.c2, h.f0, h.f1, h.f2⟩

end Go.Proofs.YtcloakaenkhgpaaDoor.Dsk
