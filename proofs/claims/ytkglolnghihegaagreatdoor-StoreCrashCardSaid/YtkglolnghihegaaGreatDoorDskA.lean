import Derived.Test.YtkglolnghihegaaGreatDoorRows
import Derived.WalkKit
import Derived.Below
import Derived.Deep.Draws
import Derived.WalkLawsBesides
import Derived.WalkSpells
import Derived.Lib.Hide
import Derived.Outline
import Derived.Laws.OwnMore
import Derived.Laws.Rows
import Derived.Maps.AppendAt
import Derived.Laws.CopyOwn
import Derived.Laws.MakeOwn

/- Words for memory that all template sets use. -/
namespace Go.Proofs.YtkglolnghihegaaGreatDoor
open Go.RowKit

theorem _root_.Go.RowKit.Below.push {a w : World} (h : Below a.heap.size a w) (o : Obj) : Below a.heap.size a (w.alloc o) := h.alloc h.size o
theorem _root_.Go.RowKit.Below.call {a w w' : World} (h : Below a.heap.size a w) (hb : Below w.heap.size w w') : Below a.heap.size a w' := h.trans (hb.mono h.size)
theorem _root_.Go.RowKit.Below.drewN {B : Nat} {a w : World} (h : Below B a w) (n : Nat) : Below B a (w.drewN n) := ⟨h.os, h.tape, h.output, h.size, h.block⟩
theorem _root_.Go.RowKit.Below.set3 {B g : Nat} {a w : World} (h : Below B a w) (hg : B ≤ g) (x0 x1 x2 : Value) :
    Below B a (((w.setCell ⟨g, 0, none⟩ x0).setCell ⟨g, 1, none⟩ x1).setCell ⟨g, 2, none⟩ x2) := ((h.setCell hg _).setCell hg _).setCell hg _
theorem _root_.Go.RowKit.Below.set6 {B g : Nat} {a w : World} (h : Below B a w) (hg : B ≤ g) (x0 x1 x2 x3 x4 x5 : Value) :
    Below B a ((((((w.setCell ⟨g, 0, none⟩ x0).setCell ⟨g, 1, none⟩ x1).setCell ⟨g, 2, none⟩ x2).setCell ⟨g, 3, none⟩ x3).setCell ⟨g, 4, none⟩ x4).setCell ⟨g, 5, none⟩ x5) :=
  (((((h.setCell hg _).setCell hg _).setCell hg _).setCell hg _).setCell hg _).setCell hg _

end Go.Proofs.YtkglolnghihegaaGreatDoor

/- Plain facts on devices: what each function of the layer answers, as functions of lists. -/
namespace Go.Proofs.YtkglolnghihegaaGreatDoor.Dsk

/-- A write: a place and its bytes. -/
abbrev Wr := Int × ByteArray

/-- Have all sectors 64 bytes? -/
def secOk (S : List ByteArray) : Bool := S.all fun s => s.size == 64
/-- May a write wait at a device of n sectors? -/
def wrOk (n : Nat) (x : Wr) : Bool := (decide (0 ≤ x.1) && decide (x.1 < n)) && (x.2.size == 64)
/-- Check. -/
def chk (S : List ByteArray) (W : List Wr) (f : Int) : Int :=
  if 16 ≤ S.length ∧ S.length ≤ 512 ∧ -1 ≤ f then (if secOk S = true then (if W.length ≤ 1024 then (if W.all (wrOk S.length) = true then 0 else 2) else 20) else 5) else 8

theorem chk8 {S : List ByteArray} {W : List Wr} {f : Int} (h : ¬ (16 ≤ S.length ∧ S.length ≤ 512 ∧ -1 ≤ f)) : chk S W f = 8 := by unfold chk; rw [if_neg h]
theorem chk5 {S : List ByteArray} {W : List Wr} {f : Int} (h : 16 ≤ S.length ∧ S.length ≤ 512 ∧ -1 ≤ f) (h2 : secOk S = false) : chk S W f = 5 := by unfold chk; rw [if_pos h, if_neg (by simp [h2])]
theorem chk20 {S : List ByteArray} {W : List Wr} {f : Int} (h : 16 ≤ S.length ∧ S.length ≤ 512 ∧ -1 ≤ f) (h2 : secOk S = true) (h3 : 1024 < W.length) : chk S W f = 20 := by unfold chk; rw [if_pos h, if_pos h2, if_neg (by omega)]
theorem chk2 {S : List ByteArray} {W : List Wr} {f : Int} (h : 16 ≤ S.length ∧ S.length ≤ 512 ∧ -1 ≤ f) (h2 : secOk S = true) (h3 : W.length ≤ 1024) (h4 : W.all (wrOk S.length) = false) : chk S W f = 2 := by unfold chk; rw [if_pos h, if_pos h2, if_pos h3, if_neg (by simp [h4])]
theorem chk0 {S : List ByteArray} {W : List Wr} {f : Int} (h : 16 ≤ S.length ∧ S.length ≤ 512 ∧ -1 ≤ f) (h2 : secOk S = true) (h3 : W.length ≤ 1024) (h4 : W.all (wrOk S.length) = true) : chk S W f = 0 := by unfold chk; rw [if_pos h, if_pos h2, if_pos h3, if_pos h4]

theorem chk_ok {S : List ByteArray} {W : List Wr} {f : Int} (h : chk S W f = 0) : (16 ≤ S.length ∧ S.length ≤ 512 ∧ -1 ≤ f) ∧ secOk S = true ∧ W.length ≤ 1024 ∧ W.all (wrOk S.length) = true := by
  unfold chk at h
  split at h
  · split at h
    · split at h
      · split at h
        · exact ⟨‹_›, ‹_›, ‹_›, ‹_›⟩
        · omega
      · omega
    · omega
  · omega

theorem all_take_succ {α : Type} (p : α → Bool) (l : List α) (k : Nat) (h : k < l.length) : (l.take (k + 1)).all p = ((l.take k).all p && p l[k]) := by
  rw [List.take_succ_eq_append_getElem h, List.all_append]; simp
theorem all_false_of {α : Type} (p : α → Bool) (l : List α) (k : Nat) (h : k < l.length) (hp : p l[k] = false) : l.all p = false := by
  rw [List.all_eq_false]; exact ⟨_, List.getElem_mem h, by simp [hp]⟩
theorem all_of_take {α : Type} (p : α → Bool) (l : List α) (k : Nat) (h : l.length ≤ k) (hp : (l.take k).all p = true) : l.all p = true := by
  rwa [List.take_of_length_le h] at hp

/-- The data of the last write of a place. -/
def lastW (W : List Wr) (at_ : Int) (s : ByteArray) : ByteArray := W.foldl (fun s x => if x.1 = at_ then x.2 else s) s
theorem lastW_snoc (W : List Wr) (x : Wr) (p : Int) (s : ByteArray) : lastW (W ++ [x]) p s = if x.1 = p then x.2 else lastW W p s := by simp [lastW]
theorem lastW_none (W : List Wr) (p : Int) (s : ByteArray) (h : ∀ x ∈ W, x.1 ≠ p) : lastW W p s = s := by
  induction W generalizing s with
  | nil => rfl
  | cons x W ih => show lastW W p (if x.1 = p then x.2 else s) = s; rw [if_neg (h x (by simp))]; exact ih s fun y hy => h y (by simp [hy])
theorem lastW_append (W V : List Wr) (p : Int) (s : ByteArray) : lastW (W ++ V) p s = lastW V p (lastW W p s) := by simp [lastW]
theorem lastW_hit (W : List Wr) (p : Int) (s : ByteArray) (k : Nat) (h : k < W.length) (hp : W[k].1 = p) (hn : ∀ x ∈ W.drop (k + 1), x.1 ≠ p) : lastW W p s = W[k].2 := by
  have e : W = W.take k ++ [W[k]] ++ W.drop (k + 1) := by
    rw [← List.take_succ_eq_append_getElem h, List.take_append_drop]
  rw [show lastW W p s = lastW (W.take k ++ [W[k]] ++ W.drop (k + 1)) p s from by rw [← e], lastW_append, lastW_none _ _ _ hn, lastW_snoc, if_pos hp]

/-- A sector by its place. -/
def secAt (S : List ByteArray) (p : Nat) : ByteArray := S.getD p ByteArray.empty
theorem secAt_eq {S : List ByteArray} {p : Nat} (h : p < S.length) : secAt S p = S[p] := by simp [secAt, List.getD, h]

/-- Read. -/
def rdS (S : List ByteArray) (W : List Wr) (f p : Int) : ByteArray :=
  if chk S W f = 0 ∧ 0 ≤ p ∧ p < S.length then lastW W p (secAt S p.toNat) else ByteArray.empty
def rdE (S : List ByteArray) (W : List Wr) (f p : Int) : Int :=
  if chk S W f = 0 then (if 0 ≤ p ∧ p < S.length then 0 else 8) else 2

/-- A fuse behind one more act. -/
def burnt (f : Int) : Int := if 0 < f then f - 1 else f

/-- What stands against a put. -/
def putE (S : List ByteArray) (W : List Wr) (f p : Int) (s : ByteArray) : Int :=
  if chk S W f = 0 then (if 0 ≤ p ∧ p < S.length then (if s.size = 64 then (if f = 0 then 21 else (if W.length = 1024 then 20 else 0)) else 5) else 8) else 2
def flushE (S : List ByteArray) (W : List Wr) (f : Int) : Int := if chk S W f = 0 then (if f = 0 then 21 else 0) else 2

/-- One write goes with its first n bytes. -/
def goOne (S : List ByteArray) (x : Wr) (n : Nat) : List ByteArray :=
  S.set x.1.toNat (x.2.extract 0 n ++ (secAt S x.1.toNat).extract n (secAt S x.1.toNat).size)
/-- All writes go, the k-th with its first c k bytes. -/
def goAll (S : List ByteArray) (W : List Wr) (c : Nat → Nat) : List ByteArray := (W.zipIdx).foldl (fun S p => goOne S p.1 (c p.2)) S
theorem goAll_snoc (S : List ByteArray) (W : List Wr) (x : Wr) (c : Nat → Nat) : goAll S (W ++ [x]) c = goOne (goAll S W c) x (c W.length) := by
  simp [goAll, List.zipIdx_append]
theorem goAll_take (S : List ByteArray) (W : List Wr) (k : Nat) (h : k < W.length) (c : Nat → Nat) : goAll S (W.take (k + 1)) c = goOne (goAll S (W.take k) c) W[k] (c k) := by
  rw [List.take_succ_eq_append_getElem h, goAll_snoc, List.length_take, Nat.min_eq_left (by omega)]
theorem goAll_nil (S : List ByteArray) (c : Nat → Nat) : goAll S [] c = S := rfl
theorem goOne_length (S : List ByteArray) (x : Wr) (n : Nat) : (goOne S x n).length = S.length := by simp [goOne]

/-- How many bytes of the k-th write go. -/
def clamp (z : Int) : Nat := (min (max z 0) 64).toNat
def cutAt (cs : List Int) (k : Nat) : Nat := if h : k < cs.length then clamp cs[k] else 0
theorem clamp_le (z : Int) : clamp z ≤ 64 := by unfold clamp; omega
theorem cutAt_le (cs : List Int) (k : Nat) : cutAt cs k ≤ 64 := by unfold cutAt; split; exact clamp_le _; omega

theorem goAll_congr (S : List ByteArray) (W : List Wr) (c d : Nat → Nat) (h : ∀ k, k < W.length → c k = d k) : goAll S W c = goAll S W d := by
  suffices H : ∀ k, k ≤ W.length → goAll S (W.take k) c = goAll S (W.take k) d by
    have := H W.length (Nat.le_refl _)
    rwa [List.take_of_length_le (Nat.le_refl _)] at this
  intro k
  induction k with
  | zero => intro _; rfl
  | succ k ih => intro hk; rw [goAll_take S W k (by omega), goAll_take S W k (by omega), ih (by omega), h k (by omega)]

theorem secOk_iff (S : List ByteArray) : secOk S = true ↔ ∀ s ∈ S, s.size = 64 := by simp [secOk]
theorem wrOk_iff (n : Nat) (x : Wr) : wrOk n x = true ↔ 0 ≤ x.1 ∧ x.1 < n ∧ x.2.size = 64 := by simp [wrOk, and_assoc]

theorem goOne_ok {S : List ByteArray} {x : Wr} {n : Nat} (hs : secOk S = true) (hx : wrOk S.length x = true) (hn : n ≤ 64) : secOk (goOne S x n) = true := by
  rw [secOk_iff] at hs ⊢
  rw [wrOk_iff] at hx
  intro s hm
  unfold goOne at hm
  rcases List.mem_or_eq_of_mem_set hm with h | h
  · exact hs s h
  · subst h
    have hk : x.1.toNat < S.length := by omega
    have e : secAt S x.1.toNat = S[x.1.toNat] := secAt_eq hk
    have h2 := hs _ (List.getElem_mem hk)
    rw [e, ByteArray.size_append, ByteArray.size_extract, ByteArray.size_extract, h2]
    omega

theorem goAll_ok {S : List ByteArray} {W : List Wr} {c : Nat → Nat} (hs : secOk S = true) (hw : W.all (wrOk S.length) = true) (hc : ∀ k, c k ≤ 64) (k : Nat) :
    secOk (goAll S (W.take k) c) = true ∧ (goAll S (W.take k) c).length = S.length := by
  induction k with
  | zero => exact ⟨hs, rfl⟩
  | succ k ih =>
    by_cases hk : k < W.length
    · rw [goAll_take S W k hk]
      refine ⟨goOne_ok ih.1 ?_ (hc k), by rw [goOne_length]; exact ih.2⟩
      rw [ih.2]
      exact List.all_eq_true.1 hw _ (List.getElem_mem hk)
    · rw [List.take_of_length_le (by omega)] at ih ⊢
      exact ih

theorem goAll_all {S : List ByteArray} {W : List Wr} {c : Nat → Nat} (hs : secOk S = true) (hw : W.all (wrOk S.length) = true) (hc : ∀ k, c k ≤ 64) :
    secOk (goAll S W c) = true ∧ (goAll S W c).length = S.length := by
  have := goAll_ok (c := c) hs hw hc W.length
  rwa [List.take_of_length_le (Nat.le_refl _)] at this

/-- The fuse that Arm sets. -/
def armF (n : Int) : Int := min (max n (-1)) 1073741824

end Go.Proofs.YtkglolnghihegaaGreatDoor.Dsk
namespace Go.Proofs.YtkglolnghihegaaGreatDoor.Dsk
/-- Same. -/
def sameD (S : List ByteArray) (W : List Wr) (f : Int) (T : List ByteArray) (V : List Wr) (g : Int) : Bool := decide (f = g) && (decide (S = T) && decide (W = V))
theorem take_step {α : Type} {l m : List α} {k : Nat} (h : l.take k = m.take k) (h1 : k < l.length) (h2 : k < m.length) (e : l[k] = m[k]) : l.take (k + 1) = m.take (k + 1) := by
  rw [List.take_succ_eq_append_getElem h1, List.take_succ_eq_append_getElem h2, h, e]
theorem take_all {α : Type} {l m : List α} {k : Nat} (h : l.take k = m.take k) (h1 : l.length ≤ k) (h2 : m.length ≤ k) : l = m := by
  rwa [List.take_of_length_le h1, List.take_of_length_le h2] at h
theorem ne_at {α : Type} {l m : List α} {k : Nat} (h1 : k < l.length) (h2 : k < m.length) (e : ¬ l[k] = m[k]) : ¬ l = m := fun h => e (by subst h; rfl)
end Go.Proofs.YtkglolnghihegaaGreatDoor.Dsk
namespace Go.Proofs.YtkglolnghihegaaGreatDoor.Dsk
theorem putE_ok {S : List ByteArray} {W : List Wr} {f p : Int} {s : ByteArray} (h : putE S W f p s = 0) : chk S W f = 0 ∧ 0 ≤ p ∧ p < S.length ∧ s.size = 64 ∧ f ≠ 0 ∧ W.length < 1024 := by
  unfold putE at h
  split at h
  · split at h
    · split at h
      · split at h
        · omega
        · split at h
          · omega
          · rename_i h1 h2 h3 h4 h5
            have := (chk_ok h1).2.2.1
            exact ⟨h1, h2.1, h2.2, h3, h4, by omega⟩
      · omega
    · omega
  · omega
theorem burnt_lo {f : Int} (h : -9223372036854775808 ≤ f) : -9223372036854775808 ≤ burnt f := by unfold burnt; split <;> omega
theorem burnt_hi {f : Int} (h : f ≤ 9223372036854775807) : burnt f ≤ 9223372036854775807 := by unfold burnt; split <;> omega
end Go.Proofs.YtkglolnghihegaaGreatDoor.Dsk
namespace Go.Proofs.YtkglolnghihegaaGreatDoor.Dsk
/-- A sector of one byte. -/
def fillS (b : UInt8) : ByteArray := ⟨(List.replicate 64 b).toArray⟩
theorem fillS_size (b : UInt8) : (fillS b).size = 64 := by simp [fillS, ByteArray.size]
/-- A new device's sectors. -/
def newS (n : Nat) : List ByteArray := List.replicate n (fillS 0)
end Go.Proofs.YtkglolnghihegaaGreatDoor.Dsk

/- Words for memory: slices that read as lists, boxes of two and three cells, devices. -/
namespace Go.Proofs.YtkglolnghihegaaGreatDoor.Dsk
open Go.RowKit

theorem bcell {W w1 : World} (hb : Below W.heap.size W w1) : (∀ b o, b < W.heap.size → w1.cell? ⟨b, o, none⟩ = W.cell? ⟨b, o, none⟩) ∧ (∀ b o, b < W.heap.size → w1.frozen? ⟨b, o, none⟩ = W.frozen? ⟨b, o, none⟩) :=
  ⟨fun b o h => hb.cell (p := ⟨b, o, none⟩) h, fun b o h => hb.frozen (p := ⟨b, o, none⟩) h⟩
theorem cell_lt {w : World} {p : Addr} {v : Value} (h : w.cell? p = some v) : p.block < w.heap.size := by
  by_cases hl : p.block < w.heap.size
  · exact hl
  · have : w.heap[p.block]? = none := Array.getElem?_eq_none (by omega)
    unfold World.cell? at h
    split at h
    · rename_i h1; rw [this] at h1; cases h1
    · cases h
theorem undrew {w w' : World} (h : Below w.drew.heap.size w.drew w') : Below w.heap.size w w' := ⟨h.os, h.tape, h.output, h.size, h.block⟩
theorem new1 (w : World) (o : Obj) : Below w.heap.size w (w.alloc o) := (Below.refl _ _).alloc (Nat.le_refl _) _

/-- A slice of n elements of k cells each reads as these values. -/
def RV (w : World) (a : Option Addr) (n k : Nat) (vs : List Value) : Prop :=
  vs.length = n * k ∧ (0 < n → ∃ b off, a = some ⟨b, off, none⟩ ∧ b < w.heap.size ∧ ∀ i, (hi : i < vs.length) → w.cell? ⟨b, off + i, none⟩ = some vs[i])
theorem RV.nil (w : World) (a : Option Addr) (k : Nat) : RV w a 0 k [] := ⟨by simp, fun h => absurd h (by omega)⟩
theorem RV.below {w w' : World} {a : Option Addr} {n k : Nat} {vs : List Value} (h : RV w a n k vs) (hb : Below w.heap.size w w') : RV w' a n k vs :=
  ⟨h.1, fun hn => by
    obtain ⟨b, off, e, hl, hc⟩ := h.2 hn
    exact ⟨b, off, e, Nat.lt_of_lt_of_le hl hb.size, fun i hi => (hb.cell (p := ⟨b, off + i, none⟩) hl).trans (hc i hi)⟩⟩
theorem add_none (b off i : Nat) : (⟨b, off, none⟩ : Addr).add i = ⟨b, off + i, none⟩ := by by_cases h0 : i = 0 <;> simp [Addr.add, h0]
theorem rv_of {w : World} {x : Addr} {n k : Nat} {vs : List Value} (hk : 0 < k) (hl : vs.length = n * k) (h : ∀ i, (hi : i < vs.length) → w.cell? (x.add i) = some vs[i]) : RV w (some x) n k vs := by
  refine ⟨hl, fun hn => ?_⟩
  have hp : 0 < vs.length := by rw [hl]; exact Nat.mul_pos hn hk
  obtain ⟨b, off, spot⟩ := x
  have hc := h 0 hp
  have hspot : spot = none := by simpa [Addr.add] using World.cell?_spot hc
  subst hspot
  refine ⟨b, off, rfl, ?_, fun i hi => ?_⟩
  · have := cell_lt hc
    simpa [Addr.add] using this
  · have := h i hi
    rwa [add_none] at this
theorem RV.of_own {w : World} {base : Nat} {e : TypeId} {k n c : Nat} {a : Option Addr} {vs : List Value} (h : w.ownsRow base e k (.slice a n c) n vs) : RV w a n k vs := by
  refine ⟨h.1, fun hn => ?_⟩
  rcases h.2 with ⟨-, rfl⟩ | ⟨g, cap, cur, hv, -, hh, hnc, hm, hs, ht⟩
  · omega
  · injection hv with hA _ _
    subst hA
    have hl : g < w.heap.size := by
      by_cases hl : g < w.heap.size
      · exact hl
      · rw [Array.getElem?_eq_none (by omega)] at hh; cases hh
    refine ⟨g, 0, rfl, hl, fun i hi => ?_⟩
    have := h.cells (g := g) rfl i vs[i] (List.getElem?_eq_getElem hi)
    rwa [add_none] at this

/-- Sectors and writes as cells. -/
def SV (S : List ByteArray) : List Value := S.map .string
def WV (W : List Wr) : List Value := W.flatMap fun x => [.int .i64 x.1, .string x.2]
def IV (zs : List Int) : List Value := zs.map (.int .i64)
theorem SV_length (S : List ByteArray) : (SV S).length = S.length := by simp [SV]
theorem IV_length (S : List Int) : (IV S).length = S.length := by simp [IV]
theorem WV_length (W : List Wr) : (WV W).length = W.length * 2 := by
  induction W with
  | nil => rfl
  | cons x W ih => simp only [WV, List.flatMap_cons, List.length_append, List.length_cons, List.length_nil] at ih ⊢; omega
theorem WV_append (W V : List Wr) : WV (W ++ V) = WV W ++ WV V := by simp [WV]
theorem SV_append (W V : List ByteArray) : SV (W ++ V) = SV W ++ SV V := by simp [SV]
theorem WV_get (W : List Wr) (i : Nat) (hi : i < W.length) : (WV W)[i * 2]? = some (.int .i64 W[i].1) ∧ (WV W)[i * 2 + 1]? = some (.string W[i].2) := by
  induction W generalizing i with
  | nil => simp at hi
  | cons x W ih =>
    have e : WV (x :: W) = .int .i64 x.1 :: .string x.2 :: WV W := rfl
    rw [e]
    cases i with
    | zero => exact ⟨rfl, rfl⟩
    | succ i =>
      have := ih i (by simpa using hi)
      rw [show (i + 1) * 2 = i * 2 + 1 + 1 by omega]
      simpa using this
theorem WV_one (W : List Wr) : ∀ v ∈ WV W, v.oneCell' = true := by
  intro v hv
  obtain ⟨x, _, hx⟩ := List.mem_flatMap.1 hv
  simp at hx
  rcases hx with rfl | rfl <;> rfl
theorem SV_one (W : List ByteArray) : ∀ v ∈ SV W, v.oneCell' = true := by
  intro v hv
  obtain ⟨x, _, rfl⟩ := List.mem_map.1 hv
  rfl
theorem IV_one (W : List Int) : ∀ v ∈ IV W, v.oneCell' = true := by
  intro v hv
  obtain ⟨x, _, rfl⟩ := List.mem_map.1 hv
  rfl

theorem RV.sec {w : World} {a : Option Addr} {n : Nat} {S : List ByteArray} (h : RV w a n 1 (SV S)) : S.length = n := by have := h.1; rw [SV_length] at this; omega
theorem RV.wr {w : World} {a : Option Addr} {n : Nat} {W : List Wr} (h : RV w a n 2 (WV W)) : W.length = n := by have := h.1; rw [WV_length] at this; omega
theorem RV.ints {w : World} {a : Option Addr} {n : Nat} {W : List Int} (h : RV w a n 1 (IV W)) : W.length = n := by have := h.1; rw [IV_length] at this; omega
theorem RV.secAt {w : World} {a : Option Addr} {n : Nat} {S : List ByteArray} (h : RV w a n 1 (SV S)) {k : Nat} (hk : k < n) (hl : k < S.length) :
    ∃ b off, a = some ⟨b, off, none⟩ ∧ b < w.heap.size ∧ w.cell? ⟨b, off + k, none⟩ = some (.string S[k]) := by
  obtain ⟨b, off, e, hb, hc⟩ := h.2 (by omega)
  refine ⟨b, off, e, hb, ?_⟩
  rw [hc k (by rw [SV_length]; exact hl)]
  simp [SV]
theorem RV.intAt {w : World} {a : Option Addr} {n : Nat} {S : List Int} (h : RV w a n 1 (IV S)) {k : Nat} (hk : k < n) (hl : k < S.length) :
    ∃ b off, a = some ⟨b, off, none⟩ ∧ b < w.heap.size ∧ w.cell? ⟨b, off + k, none⟩ = some (.int .i64 S[k]) := by
  obtain ⟨b, off, e, hb, hc⟩ := h.2 (by omega)
  refine ⟨b, off, e, hb, ?_⟩
  rw [hc k (by rw [IV_length]; exact hl)]
  simp [IV]
theorem RV.wrAt {w : World} {a : Option Addr} {n : Nat} {W : List Wr} (h : RV w a n 2 (WV W)) {k : Nat} (hk : k < n) (hl : k < W.length) :
    ∃ b off, a = some ⟨b, off, none⟩ ∧ b < w.heap.size ∧ w.cell? ⟨b, off + k * 2, none⟩ = some (.int .i64 W[k].1) ∧ w.cell? ⟨b, off + k * 2 + 1, none⟩ = some (.string W[k].2) := by
  obtain ⟨b, off, e, hb, hc⟩ := h.2 (by omega)
  obtain ⟨h1, h2⟩ := WV_get W k hl
  have l1 : k * 2 < (WV W).length := by rw [WV_length]; omega
  have l2 : k * 2 + 1 < (WV W).length := by rw [WV_length]; omega
  rw [List.getElem?_eq_getElem l1] at h1
  rw [List.getElem?_eq_getElem l2] at h2
  exact ⟨b, off, e, hb, (hc _ l1).trans h1, (by rw [Nat.add_assoc]; exact (hc _ l2).trans h2)⟩

/-- A device's value. -/
abbrev DV (A : Option Addr) (n c : Nat) (A' : Option Addr) (m c' : Nat) (f : Int) : Value := .agg #[.slice A n c, .slice A' m c', .int .i64 f]
abbrev D33 (A : Option Addr) (n c : Nat) (A' : Option Addr) (m c' : Nat) (f : Int) : Obj := .cells #[.slice A n c, .slice A' m c', .int .i64 f] 29
abbrev D25 (A : Option Addr) (n c : Nat) (A' : Option Addr) (m c' : Nat) (f : Int) : Obj := .cells #[.slice A n c, .slice A' m c', .int .i64 f] 25

/-- A device's value reads as these sectors and writes. -/
structure Dev (w : World) (A : Option Addr) (n c : Nat) (A' : Option Addr) (m c' : Nat) (f : Int) (S : List ByteArray) (W : List Wr) : Prop where
  sec : RV w A n 1 (SV S)
  wr : RV w A' m 2 (WV W)
  lo : -9223372036854775808 ≤ f
  hi : f ≤ 9223372036854775807
  ns : S.length ≤ 2000
  nw : W.length ≤ 2000
theorem Dev.below {w w' : World} {A : Option Addr} {n c : Nat} {A' : Option Addr} {m c' : Nat} {f : Int} {S : List ByteArray} {W : List Wr} (h : Dev w A n c A' m c' f S W) (hb : Below w.heap.size w w') : Dev w' A n c A' m c' f S W :=
  ⟨h.sec.below hb, h.wr.below hb, h.lo, h.hi, h.ns, h.nw⟩
theorem Dev.new {w : World} {A : Option Addr} {n c : Nat} {A' : Option Addr} {m c' : Nat} {f : Int} {S : List ByteArray} {W : List Wr} (h : Dev w A n c A' m c' f S W) (o : Obj) : Dev (w.alloc o) A n c A' m c' f S W := h.below (new1 w o)

/-- A block of three cells that may be written. -/
structure Box (w : World) (b : Nat) (x y z : Value) : Prop where
  c0 : w.cell? ⟨b, 0, none⟩ = some x
  c1 : w.cell? ⟨b, 1, none⟩ = some y
  c2 : w.cell? ⟨b, 2, none⟩ = some z
  f0 : w.frozen? ⟨b, 0, none⟩ = false
  f1 : w.frozen? ⟨b, 1, none⟩ = false
  f2 : w.frozen? ⟨b, 2, none⟩ = false
theorem Box.below {w w' : World} {B b : Nat} {x y z : Value} (h : Box w b x y z) (hb : Below B w w') (hl : b < B) : Box w' b x y z :=
  ⟨(hb.cell (p := ⟨b, 0, none⟩) hl).trans h.c0, (hb.cell (p := ⟨b, 1, none⟩) hl).trans h.c1, (hb.cell (p := ⟨b, 2, none⟩) hl).trans h.c2,
   (hb.frozen (p := ⟨b, 0, none⟩) hl).trans h.f0, (hb.frozen (p := ⟨b, 1, none⟩) hl).trans h.f1, (hb.frozen (p := ⟨b, 2, none⟩) hl).trans h.f2⟩
theorem Box.new (w : World) (x y z : Value) (t : TypeId) : Box (w.alloc (.cells #[x, y, z] t)) w.heap.size x y z := by
  constructor <;> simp [go_sem]
theorem Box.lt {w : World} {b : Nat} {x y z : Value} (h : Box w b x y z) : b < w.heap.size := cell_lt h.c0
theorem Box.alloc {w : World} {b : Nat} {x y z : Value} (h : Box w b x y z) (o : Obj) : Box (w.alloc o) b x y z := h.below (new1 w o) h.lt
theorem Box.call {w w' : World} {b : Nat} {x y z : Value} (h : Box w b x y z) (hb : Below w.heap.size w w') : Box w' b x y z := h.below hb h.lt
theorem Box.of_block {w w' : World} {b : Nat} {x y z : Value} (h : Box w b x y z) (e : w'.heap[b]? = w.heap[b]?) : Box w' b x y z :=
  ⟨(World.cell?_of_block (a := ⟨b, 0, none⟩) e).trans h.c0, (World.cell?_of_block (a := ⟨b, 1, none⟩) e).trans h.c1, (World.cell?_of_block (a := ⟨b, 2, none⟩) e).trans h.c2,
   (World.frozen?_of_block (a := ⟨b, 0, none⟩) e).trans h.f0, (World.frozen?_of_block (a := ⟨b, 1, none⟩) e).trans h.f1, (World.frozen?_of_block (a := ⟨b, 2, none⟩) e).trans h.f2⟩
theorem Box.far {w : World} {b : Nat} {x y z : Value} (h : Box w b x y z) {p : Addr} (hp : b ≠ p.block) (v : Value) : Box (w.setCell p v) b x y z :=
  h.of_block (Below.heap_setCell _ _ _ _ hp)
theorem Box.set3 {w : World} {b : Nat} {x y z : Value} (h : Box w b x y z) (x' y' z' : Value) : Box (((w.setCell ⟨b, 0, none⟩ x').setCell ⟨b, 1, none⟩ y').setCell ⟨b, 2, none⟩ z') b x' y' z' := by
  obtain ⟨c0, c1, c2, f0, f1, f2⟩ := h
  constructor <;> simp [go_sem, *]

theorem Box.drew {w : World} {b : Nat} {x y z : Value} (h : Box w b x y z) : Box w.drew b x y z := ⟨h.c0, h.c1, h.c2, h.f0, h.f1, h.f2⟩

end Go.Proofs.YtkglolnghihegaaGreatDoor.Dsk

/- Contracts of mayHave, isPlace, burnt, Check of package disk. -/
namespace Go.Proofs.YtkglolnghihegaaGreatDoor.Dsk
open Go.RowKit

theorem mayHave_yes (n : Int) (w : World) (h1 : 16 ≤ n) (h2 : n ≤ 512) : Calls Tryz.prog 51 #[.int .i64 n] w fun e w' => e = .returned (.bool true) ∧ w = w' := by
  go_enter Tryz.func51, Tryz.ntmps51
  go_wp2
  go_ret
  exact ⟨rfl, rfl⟩
theorem mayHave_no (n : Int) (w : World) (h : n < 16 ∨ 512 < n) : Calls Tryz.prog 51 #[.int .i64 n] w fun e w' => e = .returned (.bool false) ∧ w = w' := by
  rcases h with h | h
  · have h' : ¬ 16 ≤ n := by omega
    go_enter Tryz.func51, Tryz.ntmps51
    go_wp2
    go_ret
    exact ⟨rfl, rfl⟩
  · have h' : ¬ n ≤ 512 := by omega
    go_enter Tryz.func51, Tryz.ntmps51
    go_wp2
    go_ret
    exact ⟨rfl, rfl⟩
theorem isPlace_yes (A : Option Addr) (n c : Nat) (A' : Option Addr) (m c' : Nat) (f p : Int) (w : World) (h1 : 0 ≤ p) (h2 : p < n) :
    Calls Tryz.prog 63 #[DV A n c A' m c' f, .int .i64 p] w fun e w' => e = .returned (.bool true) ∧ Below w.heap.size w w' := by
  go_enter Tryz.func63, Tryz.ntmps63
  go_wp2
  go_ret
  exact ⟨rfl, new1 _ _⟩
theorem isPlace_no (A : Option Addr) (n c : Nat) (A' : Option Addr) (m c' : Nat) (f p : Int) (w : World) (h : p < 0 ∨ n ≤ p) :
    Calls Tryz.prog 63 #[DV A n c A' m c' f, .int .i64 p] w fun e w' => e = .returned (.bool false) ∧ Below w.heap.size w w' := by
  rcases h with h | h
  · have h' : ¬ 0 ≤ p := by omega
    go_enter Tryz.func63, Tryz.ntmps63
    go_wp2
    go_ret
    exact ⟨rfl, new1 _ _⟩
  · have h0 : 0 ≤ p := by omega
    have h' : ¬ p < n := by omega
    go_enter Tryz.func63, Tryz.ntmps63
    go_wp2
    go_ret
    exact ⟨rfl, new1 _ _⟩
theorem burnt_any (f : Int) (w : World) (h1 : -9223372036854775808 ≤ f) (h2 : f ≤ 9223372036854775807) : Calls Tryz.prog 162 #[.int .i64 f] w fun e w' => e = .returned (.int .i64 (burnt f)) ∧ w = w' := by
  unfold burnt
  by_cases h : 0 < f
  · rw [if_pos h]
    go_enter Tryz.func162, Tryz.ntmps162
    go_wp2
    go_ret
    exact ⟨rfl, rfl⟩
  · rw [if_neg h]
    go_enter Tryz.func162, Tryz.ntmps162
    go_wp2
    go_ret
    exact ⟨rfl, rfl⟩

theorem ret_int {a b : Int} (h : a = b) : Ending.returned (.int .i64 a) = .returned (.int .i64 b) := by rw [h]

/-- Check of a device with a wrong count of sectors, or a wrong fuse. -/
theorem check8 (A : Option Addr) (n c : Nat) (A' : Option Addr) (m c' : Nat) (f : Int) (w : World) (h : (n : Int) < 16 ∨ (512 : Int) < n ∨ f < -1) :
    Calls Tryz.prog 31 #[DV A n c A' m c' f] w fun e w' => e = .returned (.int .i64 8) ∧ Below w.heap.size w w' := by
  by_cases hn : 16 ≤ (n : Int) ∧ (n : Int) ≤ 512
  · have hf : f < -1 := by omega
    have H := Lib.hid hn
    clear h hn
    go_enter Tryz.func31, Tryz.ntmps31
    go_wp2_with (go_at_call 51; ((with_reducible refine (mayHave_yes _ _ H.out.1 H.out.2).mono ?_); rintro e w' ⟨rfl, rfl⟩))
    go_ret
    exact ⟨rfl, new1 _ _⟩
  · have H := Lib.hid hn
    clear h hn
    go_enter Tryz.func31, Tryz.ntmps31
    go_wp2_with (go_at_call 51; ((with_reducible refine (mayHave_no _ _ (by have := H.out; omega)).mono ?_); rintro e w' ⟨rfl, rfl⟩))
    go_ret
    exact ⟨rfl, new1 _ _⟩

set_option maxHeartbeats 1000000 in
theorem check_in (A : Option Addr) (n c : Nat) (A' : Option Addr) (m c' : Nat) (f : Int) (S : List ByteArray) (W : List Wr) (w : World) (hD : Dev w A n c A' m c' f S W)
    (h1 : 16 ≤ (n : Int)) (h2 : (n : Int) ≤ 512) (h3 : -1 ≤ f) :
    Calls Tryz.prog 31 #[DV A n c A' m c' f] w fun e w' => e = .returned (.int .i64 (chk S W f)) ∧ Below w.heap.size w w' := by
  have hS := hD.sec.sec
  have hW := hD.wr.wr
  have HC := Lib.hid (show 16 ≤ S.length ∧ S.length ≤ 512 ∧ -1 ≤ f from ⟨by omega, by omega, h3⟩)
  have hm : (m : Int) ≤ 2000 := by have := hD.nw; omega
  have HD0 := Lib.hid hD
  have HD := Lib.hid (hD.new (D33 A n c A' m c' f))
  have HS := Lib.hid hS
  have HW := Lib.hid hW
  clear hD hS hW
  have hf : decide (f < -1) = false := by simpa using h3
  go_enter Tryz.func31, Tryz.ntmps31
  go_wp2_with (go_at_call 51; ((with_reducible refine (mayHave_yes _ _ h1 h2).mono ?_); rintro e w' ⟨rfl, rfl⟩))
  go_loop [20] (fun i => ∃ k : Nat, k ≤ n ∧ i = .int .i64 k ∧ Hid ((S.take k).all (fun s => s.size == 64) = true)) (fun i => n - (intOf i).toNat)
  case atStart => exact ⟨0, Nat.zero_le _, rfl, by simp [Hid]⟩
  case round =>
    obtain ⟨k, hk, rfl, HA⟩ := hrel
    by_cases hlt : k < n
    · have hl : k < S.length := by have := HS.out; omega
      obtain ⟨b, off, rfl, hb, hc⟩ := HD.out.sec.secAt hlt hl
      have HN := Lib.hid (all_take_succ (fun s : ByteArray => s.size == 64) S k hl)
      have HF := Lib.hid (all_false_of (fun s : ByteArray => s.size == 64) S k hl)
      generalize S[k] = s at *
      clear hl
      by_cases hs : s.size = 64
      · have hsb : ((s.size : Int) != 64) = false := by simp; omega
        have HSZ := Lib.hid hs
        clear hs
        go_wp2
        go_round
        case rel => exact ⟨k + 1, by omega, by go_num, by show _ = true; rw [HN.out, HA.out]; simpa using HSZ.out⟩
        case measure => simp [intOf]; omega
      · have hsb : ((s.size : Int) != 64) = true := by simp; omega
        have HE := Lib.hid (chk5 (W := W) HC.out (HF.out (by simpa using hs)))
        clear hs
        go_wp2
        go_ret
        exact ⟨ret_int HE.out.symm, new1 _ _⟩
    · have HSO := Lib.hid (show secOk S = true from all_of_take _ S k (by have := HS.out; omega) HA.out)
      clear HA
      by_cases hm2 : (1024 : Int) < m
      · have HE := Lib.hid (chk20 (W := W) HC.out HSO.out (by have := HW.out; omega))
        go_wp2
        go_ret
        exact ⟨ret_int HE.out.symm, new1 _ _⟩
      · go_wp2
        go_loopw [35] (fun i wr => ∃ j : Nat, j ≤ m ∧ i = .int .i64 j ∧ Hid ((W.take j).all (wrOk S.length) = true) ∧ Below w.heap.size w wr ∧ Box wr w.heap.size (.slice A n c) (.slice A' m c') (.int .i64 f)) (fun i _ => m - (intOf i).toNat)
        case atStart => exact ⟨0, Nat.zero_le _, rfl, by simp [Hid], new1 _ _, Box.new _ _ _ _ _⟩
        case round =>
          obtain ⟨j, hj, rfl, HA, hbel, hbox⟩ := hrel
          by_cases hlt2 : j < m
          · have hl : j < W.length := by have := HW.out; omega
            obtain ⟨b, off, rfl, hb, hc0, hc1⟩ := (HD0.out.wr.below hbel).wrAt hlt2 hl
            have HN := Lib.hid (all_take_succ (wrOk S.length) W j hl)
            have HF := Lib.hid (all_false_of (wrOk S.length) W j hl)
            generalize W[j] = x at *
            clear hl
            obtain ⟨p, s⟩ := x
            dsimp only at hc0 hc1
            have HBel := Lib.hid hbel
            have HBox := Lib.hid hbox
            have hzw : w.heap.size < wr.heap.size := hbox.lt
            obtain ⟨c0, c1, c2, f0, f1, f2⟩ := hbox
            clear hbel
            by_cases hp : 0 ≤ p ∧ p < (n : Int)
            · by_cases hs : s.size = 64
              · have hsb : ((s.size : Int) != 64) = false := by simp; omega
                have HX := Lib.hid (show wrOk S.length (p, s) = true from (wrOk_iff _ _).2 ⟨hp.1, by have := HS.out; simp only; omega, hs⟩)
                have HP := Lib.hid hp
                clear hs hp
                go_wp2_with fail
                refine (isPlace_yes A n c _ m c' f p _ HP.out.1 HP.out.2).mono ?_
                rintro e w1 ⟨rfl, hb1⟩
                have HX2 := Lib.hid ((HBox.out.alloc _).call hb1)
                have HB2 := Lib.hid ((HBel.out.push _).call hb1)
                obtain ⟨hc, hf⟩ := bcell hb1
                clear hb1
                go_wp2
                go_roundw
                case rel => exact ⟨j + 1, by omega, by go_num, by show _ = true; rw [HN.out, HA.out, HX.out]; rfl, HB2.out, HX2.out⟩
                case measure => simp [intOf]; omega
              · have hsb : ((s.size : Int) != 64) = true := by simp; omega
                have HE := Lib.hid (chk2 (W := W) HC.out HSO.out (by have := HW.out; omega) (HF.out (by simp [wrOk, hs])))
                have HP := Lib.hid hp
                clear hs hp
                go_wp2_with fail
                refine (isPlace_yes A n c _ m c' f p _ HP.out.1 HP.out.2).mono ?_
                rintro e w1 ⟨rfl, hb1⟩
                have HB2 := Lib.hid ((HBel.out.push _).call hb1)
                obtain ⟨hc, hf⟩ := bcell hb1
                clear hb1
                go_wp2
                go_ret
                exact ⟨ret_int HE.out.symm, HB2.out⟩
            · have HE := Lib.hid (chk2 (W := W) HC.out HSO.out (by have := HW.out; omega) (HF.out (by have := HS.out; simp [wrOk]; intro a b; omega)))
              have HP := Lib.hid hp
              clear hp
              go_wp2_with fail
              refine (isPlace_no A n c _ m c' f p _ (by have := HP.out; omega)).mono ?_
              rintro e w1 ⟨rfl, hb1⟩
              have HB2 := Lib.hid ((HBel.out.push _).call hb1)
              clear hb1
              go_wp2
              go_ret
              exact ⟨ret_int HE.out.symm, HB2.out⟩
          · have HE := Lib.hid (chk0 (W := W) HC.out HSO.out (by have := HW.out; omega) (all_of_take _ W j (by have := HW.out; omega) HA.out))
            have HBel := Lib.hid hbel
            clear hbel hbox HA
            go_wp2
            go_ret
            exact ⟨ret_int HE.out.symm, HBel.out⟩

theorem check_any (A : Option Addr) (n c : Nat) (A' : Option Addr) (m c' : Nat) (f : Int) (S : List ByteArray) (W : List Wr) (w : World) (hD : Dev w A n c A' m c' f S W) :
    Calls Tryz.prog 31 #[DV A n c A' m c' f] w fun e w' => e = .returned (.int .i64 (chk S W f)) ∧ Below w.heap.size w w' := by
  have hS := hD.sec.sec
  by_cases h : 16 ≤ S.length ∧ S.length ≤ 512 ∧ -1 ≤ f
  · exact check_in A n c A' m c' f S W w hD (by omega) (by omega) h.2.2
  · rw [chk8 h]
    exact check8 A n c A' m c' f w (by omega)

end Go.Proofs.YtkglolnghihegaaGreatDoor.Dsk

/- Contracts of Read and mayPut of package disk. -/
namespace Go.Proofs.YtkglolnghihegaaGreatDoor.Dsk
open Go.RowKit

theorem neq0 {z : Int} (h : ¬ z = 0) : (z != 0) = true := by simpa using h

theorem ret_str {a b : ByteArray} {e : Int} (h : a = b) : Ending.returned (.tuple #[.string a, .int .i64 e]) = .returned (.tuple #[.string b, .int .i64 e]) := by rw [h]

theorem read2 (A : Option Addr) (n c : Nat) (A' : Option Addr) (m c' : Nat) (f : Int) (S : List ByteArray) (W : List Wr) (p : Int) (w : World) (hD : Dev w A n c A' m c' f S W) (h : ¬ chk S W f = 0) :
    Calls Tryz.prog 100 #[DV A n c A' m c' f, .int .i64 p] w fun e w' => e = .returned (.tuple #[.string ByteArray.empty, .int .i64 2]) ∧ Below w.heap.size w w' := by
  have HC := Lib.hid (check_any A n c A' m c' f S W _ (hD.new (D33 A n c A' m c' f)))
  have hne := neq0 h
  generalize chk S W f = e0 at *
  clear hD h
  go_enter Tryz.func100, Tryz.ntmps100
  go_wp2_with (go_at_call 31; ((with_reducible refine HC.out.mono ?_); rintro e w1 ⟨rfl, hb1⟩; have HB := Lib.hid hb1; clear hb1))
  go_ret2
  exact ⟨rfl, (new1 _ _).call HB.out⟩

theorem read8 (A : Option Addr) (n c : Nat) (A' : Option Addr) (m c' : Nat) (f : Int) (S : List ByteArray) (W : List Wr) (p : Int) (w : World) (hD : Dev w A n c A' m c' f S W) (h : chk S W f = 0) (hp : p < 0 ∨ (n : Int) ≤ p) :
    Calls Tryz.prog 100 #[DV A n c A' m c' f, .int .i64 p] w fun e w' => e = .returned (.tuple #[.string ByteArray.empty, .int .i64 8]) ∧ Below w.heap.size w w' := by
  have hc := check_any A n c A' m c' f S W _ (hD.new (D33 A n c A' m c' f))
  rw [h] at hc
  have HC := Lib.hid hc
  have HP := Lib.hid hp
  clear hD h hp hc
  go_enter Tryz.func100, Tryz.ntmps100
  go_wp2_with fail
  refine HC.out.mono ?_
  rintro e w1 ⟨rfl, hb1⟩
  have HB := Lib.hid ((new1 _ _).call hb1)
  obtain ⟨hc, hf⟩ := bcell hb1
  clear hb1
  go_wp2_with fail
  refine (isPlace_no _ _ _ _ _ _ _ _ _ HP.out).mono ?_
  rintro e w2 ⟨rfl, hb2⟩
  have HB2 := Lib.hid (HB.out.call hb2)
  clear hb2
  go_wp2
  go_ret2
  exact ⟨rfl, HB2.out⟩

set_option maxHeartbeats 1000000 in
theorem read0 (A : Option Addr) (n c : Nat) (A' : Option Addr) (m c' : Nat) (f : Int) (S : List ByteArray) (W : List Wr) (p : Nat) (w : World) (hD : Dev w A n c A' m c' f S W) (h : chk S W f = 0) (hp : p < n) :
    Calls Tryz.prog 100 #[DV A n c A' m c' f, .int .i64 p] w fun e w' => e = .returned (.tuple #[.string (lastW W p (secAt S p)), .int .i64 0]) ∧ Below w.heap.size w w' := by
  have hc := check_any A n c A' m c' f S W _ (hD.new (D33 A n c A' m c' f))
  rw [h] at hc
  have HC := Lib.hid hc
  have HS := Lib.hid hD.sec.sec
  have HW := Lib.hid hD.wr.wr
  have hm : (m : Int) ≤ 2000 := by have := hD.nw; have := hD.wr.wr; omega
  have HD := Lib.hid hD
  clear hD h hc
  go_enter Tryz.func100, Tryz.ntmps100
  go_wp2_with fail
  refine HC.out.mono ?_
  rintro e w1 ⟨rfl, hb1⟩
  have HB := Lib.hid ((new1 _ _).call hb1)
  have HX := Lib.hid ((Box.new w (.slice A n c) (.slice A' m c') (.int .i64 f) 29).call hb1)
  obtain ⟨hc, hf⟩ := bcell hb1
  clear hb1
  go_wp2_with fail
  refine (isPlace_yes _ _ _ _ _ _ _ _ _ (by omega) (by omega)).mono ?_
  rintro e w2 ⟨rfl, hb2⟩
  have HB2 := Lib.hid (HB.out.call hb2)
  have HX2 := HX.out.call hb2
  have hzz : w.heap.size < w2.heap.size := HX2.lt
  obtain ⟨c0, c1, c2, f0, f1, f2⟩ := HX2
  clear hb2 hc hf
  go_wp2
  go_loop [6] (fun i => ∃ z : Int, -1 ≤ z ∧ z < m ∧ i = .int .i64 z ∧ Hid (∀ x ∈ W.drop (z + 1).toNat, x.1 ≠ (p : Int))) (fun i => (intOf i + 1).toNat)
  case atStart => exact ⟨(m : Int) - 1, by omega, by omega, rfl, by intro x hx; rw [List.drop_of_length_le (by have := HW.out; omega)] at hx; simp at hx⟩
  case round =>
    obtain ⟨z, hz1, hz2, rfl, HA⟩ := hrel
    by_cases hlt : 0 ≤ z
    · obtain ⟨j, rfl⟩ := Int.eq_ofNat_of_zero_le hlt
      have hl : j < W.length := by have := HW.out; omega
      obtain ⟨b, off, rfl, hb, hc0, hc1⟩ := (HD.out.wr.below HB2.out).wrAt (show j < m by omega) hl
      have HH := Lib.hid (fun s hx => lastW_hit W p s j hl hx (by have := HA.out; rwa [show ((j : Int) + 1).toNat = j + 1 by omega] at this))
      have HN := Lib.hid (show W.drop j = W[j] :: W.drop (j + 1) from List.drop_eq_getElem_cons hl)
      generalize W[j] = x at *
      obtain ⟨q, s⟩ := x
      dsimp only at hc0 hc1
      by_cases hq : q = (p : Int)
      · have HE := Lib.hid (HH.out (secAt S p) hq)
        have hqb : (q == (p : Int)) = true := by simpa using hq
        clear hq hl
        go_wp2
        go_ret2
        exact ⟨ret_str HE.out.symm, HB2.out⟩
      · have hqb : (q == (p : Int)) = false := by simpa using hq
        have HQ := Lib.hid hq
        clear hq hl
        go_wp2
        go_round
        case rel =>
          refine ⟨(j : Int) - 1, by omega, by omega, by go_num, ?_⟩
          intro x hx
          rw [show ((j : Int) - 1 + 1).toNat = j by omega, HN.out] at hx
          rcases List.mem_cons.1 hx with rfl | hx
          · exact HQ.out
          · exact HA.out x (by rwa [show ((j : Int) + 1).toNat = j + 1 by omega])
        case measure => simp [intOf]
    · obtain rfl : z = -1 := by omega
      have HE := Lib.hid (lastW_none W p (secAt S p) (by have := HA.out; rwa [show ((-1 : Int) + 1).toNat = 0 by omega, List.drop_zero] at this))
      have hl : p < S.length := by have := HS.out; omega
      obtain ⟨b, off, rfl, hb, hc0⟩ := (HD.out.sec.below HB2.out).secAt hp hl
      have HG := Lib.hid (secAt_eq hl)
      generalize S[p] = s at *
      clear hl HA
      go_wp2
      go_ret2
      exact ⟨ret_str (HE.out.trans HG.out).symm, HB2.out⟩

theorem read_any (A : Option Addr) (n c : Nat) (A' : Option Addr) (m c' : Nat) (f : Int) (S : List ByteArray) (W : List Wr) (p : Int) (w : World) (hD : Dev w A n c A' m c' f S W) :
    Calls Tryz.prog 100 #[DV A n c A' m c' f, .int .i64 p] w fun e w' => e = .returned (.tuple #[.string (rdS S W f p), .int .i64 (rdE S W f p)]) ∧ Below w.heap.size w w' := by
  have hS := hD.sec.sec
  unfold rdS rdE
  by_cases h : chk S W f = 0
  · by_cases hp : 0 ≤ p ∧ p < S.length
    · rw [if_pos ⟨h, hp⟩, if_pos h, if_pos hp]
      obtain ⟨q, rfl⟩ := Int.eq_ofNat_of_zero_le hp.1
      exact read0 A n c A' m c' f S W q w hD h (by omega)
    · rw [if_neg (fun x => hp x.2), if_pos h, if_neg hp]
      exact read8 A n c A' m c' f S W p w hD h (by omega)
  · rw [if_neg (fun x => h x.1), if_neg h]
    exact read2 A n c A' m c' f S W p w hD h

/-- mayPut, of a device that may be. -/
theorem mayPut_ok (A : Option Addr) (n c : Nat) (A' : Option Addr) (m c' : Nat) (f : Int) (p : Int) (s : ByteArray) (w : World)
    (hc : Calls Tryz.prog 31 #[DV A n c A' m c' f] (w.alloc (D33 A n c A' m c' f)) fun e w' => e = .returned (.int .i64 0) ∧ Below (w.alloc (D33 A n c A' m c' f)).heap.size (w.alloc (D33 A n c A' m c' f)) w')
    (hp : 0 ≤ p ∧ p < (n : Int)) (z : Int)
    (hz : (((s.size : Int) != 64) = true ∧ z = 5) ∨ (((s.size : Int) != 64) = false ∧ (f == 0) = true ∧ z = 21) ∨ (((s.size : Int) != 64) = false ∧ (f == 0) = false ∧ decide ((1024 : Int) ≤ m) = true ∧ z = 20) ∨ (((s.size : Int) != 64) = false ∧ (f == 0) = false ∧ decide ((1024 : Int) ≤ m) = false ∧ z = 0)) :
    Calls Tryz.prog 161 #[DV A n c A' m c' f, .int .i64 p, .string s] w fun e w' => e = .returned (.int .i64 z) ∧ Below w.heap.size w w' := by
  have HC := Lib.hid hc
  have HP := Lib.hid hp
  clear hc hp
  rcases hz with ⟨h1, rfl⟩ | ⟨h1, h2, rfl⟩ | ⟨h1, h2, h3, rfl⟩ | ⟨h1, h2, h3, rfl⟩
  all_goals
    go_enter Tryz.func161, Tryz.ntmps161
    go_wp2_with fail
    refine HC.out.mono ?_
    rintro e w1 ⟨rfl, hb1⟩
    have HB := Lib.hid ((new1 _ _).call hb1)
    have HX := Lib.hid ((Box.new w (.slice A n c) (.slice A' m c') (.int .i64 f) 29).call hb1)
    obtain ⟨hc, hf⟩ := bcell hb1
    clear hb1
    go_wp2_with fail
    refine (isPlace_yes _ _ _ _ _ _ _ _ _ HP.out.1 HP.out.2).mono ?_
    rintro e w2 ⟨rfl, hb2⟩
    have HB2 := Lib.hid (HB.out.call hb2)
    obtain ⟨c0, c1, c2, f0, f1, f2⟩ := HX.out.call hb2
    clear hb2 hc hf
    go_wp2
    go_ret
    exact ⟨rfl, HB2.out⟩

theorem mayPut8 (A : Option Addr) (n c : Nat) (A' : Option Addr) (m c' : Nat) (f : Int) (p : Int) (s : ByteArray) (w : World)
    (hc : Calls Tryz.prog 31 #[DV A n c A' m c' f] (w.alloc (D33 A n c A' m c' f)) fun e w' => e = .returned (.int .i64 0) ∧ Below (w.alloc (D33 A n c A' m c' f)).heap.size (w.alloc (D33 A n c A' m c' f)) w')
    (hp : p < 0 ∨ (n : Int) ≤ p) :
    Calls Tryz.prog 161 #[DV A n c A' m c' f, .int .i64 p, .string s] w fun e w' => e = .returned (.int .i64 8) ∧ Below w.heap.size w w' := by
  have HC := Lib.hid hc
  have HP := Lib.hid hp
  clear hc hp
  go_enter Tryz.func161, Tryz.ntmps161
  go_wp2_with fail
  refine HC.out.mono ?_
  rintro e w1 ⟨rfl, hb1⟩
  have HB := Lib.hid ((new1 _ _).call hb1)
  obtain ⟨hc, hf⟩ := bcell hb1
  clear hb1
  go_wp2_with fail
  refine (isPlace_no _ _ _ _ _ _ _ _ _ HP.out).mono ?_
  rintro e w2 ⟨rfl, hb2⟩
  have HB2 := Lib.hid (HB.out.call hb2)
  clear hb2 hc hf
  go_wp2
  go_ret
  exact ⟨rfl, HB2.out⟩

theorem mayPut2 (A : Option Addr) (n c : Nat) (A' : Option Addr) (m c' : Nat) (f : Int) (S : List ByteArray) (W : List Wr) (p : Int) (s : ByteArray) (w : World) (hD : Dev w A n c A' m c' f S W) (h : ¬ chk S W f = 0) :
    Calls Tryz.prog 161 #[DV A n c A' m c' f, .int .i64 p, .string s] w fun e w' => e = .returned (.int .i64 2) ∧ Below w.heap.size w w' := by
  have HC := Lib.hid (check_any A n c A' m c' f S W _ (hD.new (D33 A n c A' m c' f)))
  have hne := neq0 h
  generalize chk S W f = e0 at *
  clear hD h
  go_enter Tryz.func161, Tryz.ntmps161
  go_wp2_with (go_at_call 31; ((with_reducible refine HC.out.mono ?_); rintro e w1 ⟨rfl, hb1⟩; have HB := Lib.hid hb1; clear hb1))
  go_ret
  exact ⟨rfl, (new1 _ _).call HB.out⟩

theorem mayPut_any (A : Option Addr) (n c : Nat) (A' : Option Addr) (m c' : Nat) (f : Int) (S : List ByteArray) (W : List Wr) (p : Int) (s : ByteArray) (w : World) (hD : Dev w A n c A' m c' f S W) :
    Calls Tryz.prog 161 #[DV A n c A' m c' f, .int .i64 p, .string s] w fun e w' => e = .returned (.int .i64 (putE S W f p s)) ∧ Below w.heap.size w w' := by
  have hS := hD.sec.sec
  have hW := hD.wr.wr
  have hc := check_any A n c A' m c' f S W _ (hD.new (D33 A n c A' m c' f))
  unfold putE
  by_cases h : chk S W f = 0
  · have hm : m ≤ 1024 := by have := (chk_ok h).2.2.1; omega
    rw [h] at hc
    rw [if_pos h]
    by_cases hp : 0 ≤ p ∧ p < S.length
    · rw [if_pos hp]
      refine mayPut_ok A n c A' m c' f p s w hc (by omega) _ ?_
      by_cases hs : s.size = 64
      · rw [if_pos hs]
        have hsb : ((s.size : Int) != 64) = false := by simp; omega
        by_cases hf0 : f = 0
        · rw [if_pos hf0]; exact .inr (.inl ⟨hsb, by simpa using hf0, rfl⟩)
        · rw [if_neg hf0]
          by_cases hw : W.length = 1024
          · rw [if_pos hw]; exact .inr (.inr (.inl ⟨hsb, by simpa using hf0, by simp; omega, rfl⟩))
          · rw [if_neg hw]; exact .inr (.inr (.inr ⟨hsb, by simpa using hf0, by simp; omega, rfl⟩))
      · rw [if_neg hs]; exact .inl ⟨by simp; omega, rfl⟩
    · rw [if_neg hp]
      exact mayPut8 A n c A' m c' f p s w hc (by omega)
  · rw [if_neg h]
    exact mayPut2 A n c A' m c' f S W p s w hD h

end Go.Proofs.YtkglolnghihegaaGreatDoor.Dsk

/- Appends onto rows of the call's own; contracts of slices.Clone at []string and []Write. -/
namespace Go.Proofs.YtkglolnghihegaaGreatDoor.Dsk
open Go.RowKit

theorem info9 : (Tryz.prog.info? 9).map (fun i => (i.zero, i.size, i.bytes)) = some (some (.string ByteArray.empty), 1, 16) := by kernel_rfl
theorem info72 : (Tryz.prog.info? 84).map (fun i => (i.zero, i.size, i.bytes)) = some (some (.agg #[.int .i64 0, .string ByteArray.empty]), 2, 24) := by kernel_rfl
theorem info27 : (Tryz.prog.info? 85).map (fun i => (i.zero, i.size, i.bytes)) = some (some (.agg #[.int .i64 0, .string ByteArray.empty]), 2, 24) := by kernel_rfl
theorem info3 : (Tryz.prog.info? 3).map (fun i => (i.zero, i.size, i.bytes)) = some (some (.int .i64 0), 1, 8) := by kernel_rfl

/-- An append of whatever slice onto a row of the call's own, run. -/
theorem append_rv {P : Program} {w : World} {base : Nat} {t ty e : TypeId} {z : Value} {k bytes : Nat} (ht : P.underlying t = some (.slice e)) (hinfo : (P.info? e).map (fun i => (i.zero, i.size, i.bytes)) = some (some z, k, bytes))
    (hzs : z.cells.size = k) (hk : 0 < k) {v : Value} {n : Nat} {xs : List Value} (hown : w.ownsRow base e k v n xs) {a : Option Addr} {m : Nat} (c : Nat) {news : List Value} (hR : RV w a m k news) (h1 : ∀ u ∈ news, u.oneCell' = true)
    (h63 : n + m ≤ 1000000) (hby : bytes ≤ 1000) (hbase : base ≤ w.heap.size) :
    ∃ v' w', (Builtin.append_ #[t, t] ty #[v, .slice a m c]).run P w = .ok v' w' ∧ w'.ownsRow base e k v' (n + m) (xs ++ news) ∧ w.grownBy w' v.ownBlock ∧ (v'.ownBlock = v.ownBlock ∨ v'.ownBlock = some w.heap.size) := by
  obtain ⟨i, hi, hz⟩ := Option.map_eq_some_iff.1 hinfo
  simp only [Prod.mk.injEq] at hz
  obtain ⟨hz1, hz2, hz3⟩ := hz
  have hb : (n + m) * bytes ≤ 140737488355328 := Nat.le_trans (Nat.mul_le_mul h63 hby) (by decide)
  have h0 : m = 0 → news = [] := fun hm => List.eq_nil_of_length_eq_zero (by rw [hR.1, hm]; simp)
  cases a with
  | none =>
    have hm : m = 0 := by
      by_cases hm : 0 < m
      · obtain ⟨_, _, h, _⟩ := hR.2 hm; cases h
      · omega
    have hn := h0 hm
    subst hm
    subst hn
    refine ⟨v, w, ?_, by simpa using hown, World.grownBy.refl w _, .inl rfl⟩
    rcases hown.2 with ⟨rfl, rfl⟩ | ⟨g, cap, cur, rfl, _, _, hnc, _⟩
    · simp [Builtin.append_, run_underlying ht, sizeOf, typeInfo, hi, Builtin.lenOf, Builtin.firstCells]
    · simp [Builtin.append_, run_underlying ht, sizeOf, typeInfo, hi, Builtin.lenOf, Builtin.firstCells, hnc, storeCells]
  | some ad =>
    obtain ⟨v', w', hrun, h2, h3, _, h5⟩ := run_append_own_at (P := P) w base t ty e i z k bytes ht hi hz1 hz2 hz3 hzs hk v n xs hown ad m c news hR.1 (fun j u hu => by
      obtain ⟨hj, rfl⟩ := List.getElem?_eq_some_iff.1 hu
      by_cases hm : 0 < m
      · obtain ⟨b, off, h, -, hc⟩ := hR.2 hm
        injection h with h
        subst h
        rw [add_none]; exact hc j hj
      · rw [h0 (by omega)] at hj; simp at hj) h1 (by unfold maxLen; omega) hb hbase
    exact ⟨v', w', hrun, h2, h3, h5⟩

/-- An append by its run. -/
theorem wpList_append_run {P : Program} {w : World} {ops : Array Oper} {rest : List Oper} {o : Oper} {a : Act} {Q : Exit → Act → World → Prop} (hgd : o.guard = none) (d s : Operand) (dT sT : TypeId)
    (ho : o.op = .call { callee := .builtin .append, args := #[d, s], argTypes := #[dT, sT] }) (vd vs : Value) (hd : a.eval d = vd) (hs : a.eval s = vs) (v' : Value) (w' : World)
    (hrun : (Builtin.append_ #[dT, sT] o.type #[vd, vs]).run P w = .ok v' w') (h : wpList P ops Q rest (a.put o.dst v') w') : wpList P ops Q (o :: rest) a w := by
  refine wpList_plain hgd fun K hK => ?_
  unfold Oper.wp
  simp [execOp, ho, resolve, invoke, builtin, hd, hs, hrun, Result.andThen]
  exact hK _ _ h

theorem own_empty (w : World) (e k : Nat) : (w.alloc (.cells #[] e)).ownsRow w.heap.size e k (.slice (some ⟨w.heap.size, 0, none⟩) 0 0) 0 [] :=
  ⟨by simp, .inr ⟨w.heap.size, 0, #[], rfl, Nat.le_refl _, heap_alloc_new w _, Nat.le_refl _, by unfold maxLen; omega, by simp, by simp⟩⟩
theorem base_of_own {w : World} {base e k n : Nat} {v : Value} {xs : List Value} (h : w.ownsRow base e k v n xs) : ∀ g, v.ownBlock = some g → base ≤ g := fun g hg => (h.lt g hg).1

theorem clone_nil (c : Nat) (w : World) : Calls Tryz.prog 53 #[.slice none 0 c] w fun e w' => e = .returned (.slice none 0 0) ∧ w = w' := by
  have heq := fun w => Lib.run_eql_slice_nil (P := Tryz.prog) w 22 9 none 0 c 0 0 Tryz.underlying22
  go_enter Tryz.func53, Tryz.ntmps53
  go_wp2
  go_ret
  exact ⟨rfl, rfl⟩
theorem clone_some (ad : Addr) (n c : Nat) (S : List ByteArray) (w : World) (h : RV w (some ad) n 1 (SV S)) (hn : n ≤ 2000) :
    Calls Tryz.prog 53 #[.slice (some ad) n c] w fun e w' => ∃ v, e = .returned v ∧ w'.ownsRow w.heap.size 9 1 v n (SV S) ∧ Below w.heap.size w w' := by
  have heq := fun w => Lib.run_eql_slice_nil (P := Tryz.prog) w 22 9 (some ad) n c 0 0 Tryz.underlying22
  obtain ⟨v', w', hap, hown, hgr, -⟩ := append_rv (ty := 22) Tryz.underlying22 info9 rfl (by omega) (own_empty w 9 1) c (h.below (new1 w (.cells #[] 9))) (SV_one S) (by omega) (by omega) (by simp)
  have HAP := Lib.hid hap
  have HO := Lib.hid hown
  have HB := Lib.hid ((new1 w (.cells #[] 9)).grown hgr (by simp) (base_of_own (own_empty w 9 1)))
  clear hap hown hgr h hn
  go_enter Tryz.func53, Tryz.ntmps53
  go_wp2_with (at_builtin; refine wpList_append_run rfl (.tmp 5) (.tmp 6) 22 22 rfl _ _ rfl rfl v' w' HAP.out ?_)
  go_ret
  exact ⟨v', rfl, by simpa using HO.out, HB.out⟩
theorem clone_any (A : Option Addr) (n c : Nat) (S : List ByteArray) (w : World) (h : RV w A n 1 (SV S)) (hn : n ≤ 2000) :
    Calls Tryz.prog 53 #[.slice A n c] w fun e w' => ∃ v, e = .returned v ∧ w'.ownsRow w.heap.size 9 1 v n (SV S) ∧ Below w.heap.size w w' := by
  cases A with
  | some ad => exact clone_some ad n c S w h hn
  | none =>
    have h0 : n = 0 := by
      by_cases h0 : 0 < n
      · obtain ⟨_, _, h, _⟩ := h.2 h0; cases h
      · omega
    subst h0
    have hs : S = [] := List.eq_nil_of_length_eq_zero h.sec
    subst hs
    refine (clone_nil c w).mono ?_
    rintro e w' ⟨rfl, rfl⟩
    exact ⟨_, rfl, World.ownsRow_nil _ _ _ _, Below.refl _ _⟩

theorem wclone_nil (c : Nat) (w : World) : Calls Tryz.prog 54 #[.slice none 0 c] w fun e w' => e = .returned (.slice none 0 0) ∧ w = w' := by
  have heq := fun w => Lib.run_eql_slice_nil (P := Tryz.prog) w 27 84 none 0 c 0 0 Tryz.underlying27
  go_enter Tryz.func54, Tryz.ntmps54
  go_wp2
  go_ret
  exact ⟨rfl, rfl⟩
theorem wclone_some (ad : Addr) (n c : Nat) (S : List Wr) (w : World) (h : RV w (some ad) n 2 (WV S)) (hn : n ≤ 2000) :
    Calls Tryz.prog 54 #[.slice (some ad) n c] w fun e w' => ∃ v, e = .returned v ∧ w'.ownsRow w.heap.size 84 2 v n (WV S) ∧ Below w.heap.size w w' := by
  have heq := fun w => Lib.run_eql_slice_nil (P := Tryz.prog) w 27 84 (some ad) n c 0 0 Tryz.underlying27
  obtain ⟨v', w', hap, hown, hgr, -⟩ := append_rv (ty := 27) Tryz.underlying27 info72 rfl (by omega) (own_empty w 84 2) c (h.below (new1 w (.cells #[] 84))) (WV_one S) (by omega) (by omega) (by simp)
  have HAP := Lib.hid hap
  have HO := Lib.hid hown
  have HB := Lib.hid ((new1 w (.cells #[] 84)).grown hgr (by simp) (base_of_own (own_empty w 84 2)))
  clear hap hown hgr h hn
  go_enter Tryz.func54, Tryz.ntmps54
  go_wp2_with (at_builtin; refine wpList_append_run rfl (.tmp 5) (.tmp 6) 27 27 rfl _ _ rfl rfl v' w' HAP.out ?_)
  go_ret
  exact ⟨v', rfl, by simpa using HO.out, HB.out⟩
theorem wclone_any (A : Option Addr) (n c : Nat) (S : List Wr) (w : World) (h : RV w A n 2 (WV S)) (hn : n ≤ 2000) :
    Calls Tryz.prog 54 #[.slice A n c] w fun e w' => ∃ v, e = .returned v ∧ w'.ownsRow w.heap.size 84 2 v n (WV S) ∧ Below w.heap.size w w' := by
  cases A with
  | some ad => exact wclone_some ad n c S w h hn
  | none =>
    have h0 : n = 0 := by
      by_cases h0 : 0 < n
      · obtain ⟨_, _, h, _⟩ := h.2 h0; cases h
      · omega
    subst h0
    have hs : S = [] := List.eq_nil_of_length_eq_zero h.wr
    subst hs
    refine (wclone_nil c w).mono ?_
    rintro e w' ⟨rfl, rfl⟩
    exact ⟨_, rfl, World.ownsRow_nil _ _ _ _, Below.refl _ _⟩
end Go.Proofs.YtkglolnghihegaaGreatDoor.Dsk

/- Blocks that are known whole; make, copy and stores over them. -/
namespace Go.Proofs.YtkglolnghihegaaGreatDoor.Dsk
open Go.RowKit

/-- Block g is just these cells of element type t, none frozen. -/
def Blk (w : World) (g : Nat) (t : TypeId) (vs : List Value) : Prop := w.heap[g]? = some (.cells vs.toArray t (0, 0))
section
variable {w w' : World} {g : Nat} {t : TypeId} {vs : List Value}
theorem Blk.lt (h : Blk w g t vs) : g < w.heap.size := by
  by_cases hl : g < w.heap.size
  · exact hl
  · unfold Blk at h; rw [Array.getElem?_eq_none (by omega)] at h; cases h
theorem Blk.cell (h : Blk w g t vs) {i : Nat} (hi : i < vs.length) : w.cell? ⟨g, i, none⟩ = some vs[i] := by
  rw [cell_of_row w g i _ t _ h]; simp [hi]
theorem Blk.frozen (h : Blk w g t vs) (i : Nat) : w.frozen? ⟨g, i, none⟩ = false := by unfold Blk at h; simp [World.frozen?, h]
theorem Blk.new (w : World) (t : TypeId) (vs : Array Value) : Blk (w.alloc (.cells vs t)) w.heap.size t vs.toList := by unfold Blk; rw [heap_alloc_new]
theorem Blk.alloc (h : Blk w g t vs) (o : Obj) : Blk (w.alloc o) g t vs := (Below.heap_alloc w o g h.lt).trans h
theorem Blk.call (h : Blk w g t vs) (hb : Below w.heap.size w w') : Blk w' g t vs := (hb.block g h.lt).trans h
theorem Blk.of_block (h : Blk w g t vs) (e : w'.heap[g]? = w.heap[g]?) : Blk w' g t vs := e.trans h
theorem Blk.far (h : Blk w g t vs) {p : Addr} (hp : g ≠ p.block) (u : Value) : Blk (w.setCell p u) g t vs := h.of_block (Below.heap_setCell w p u g hp)
theorem Blk.set_ (h : Blk w g t vs) (i : Nat) (u : Value) : Blk (w.setCell ⟨g, i, none⟩ u) g t (vs.set i u) := by
  unfold Blk at h ⊢
  simp [World.setCell, Array.getElem?_modify, h]
theorem Blk.rv (h : Blk w g t vs) {n k : Nat} (hl : vs.length = n * k) : RV w (some ⟨g, 0, none⟩) n k vs :=
  ⟨hl, fun _ => ⟨g, 0, rfl, h.lt, fun i hi => by rw [Nat.zero_add]; exact h.cell hi⟩⟩
theorem Blk.own (h : Blk w g t vs) {n k base : Nat} (hl : vs.length = n * k) (hb : base ≤ g) (hn : n ≤ 1000000) : w.ownsRow base t k (.slice (some ⟨g, 0, none⟩) n n) n vs :=
  ⟨hl, .inr ⟨g, n, vs.toArray, rfl, hb, h, Nat.le_refl _, by unfold maxLen; omega, by simp [hl], by simp [← hl]⟩⟩
end

theorem run_make_rowN {P : Program} (t e : TypeId) (i : TypeInfo) (z : Value) (ht : P.underlying t = some (.slice e)) (hi : P.info? e = some i) (hz : i.zero = some z)
    (kl kc : IntKind) (n c : Nat) (hnc : n ≤ c) (hbytes : i.bytes * c ≤ 281474976710656) (h63 : c ≤ 9223372036854775807) (w : World) :
    (Instr.makeSlice t (.int kl (n : Int)) (.int kc (c : Int))).run P w = .ok (.slice (some ⟨w.heap.size, 0, none⟩) n c) (w.alloc (.cells (madeCells z.cells (c * i.size)) e)) := by
  have hb : (i.bytes : Int) * (c : Int) ≤ 281474976710656 := by
    have h : ((i.bytes * c : Nat) : Int) ≤ 281474976710656 := by omega
    rwa [Int.natCast_mul] at h
  have hr := run_make (P := P) w t e i z ht hi hz kl kc n c (by omega) (by omega) hb (by omega)
  simp only [Int.toNat_natCast] at hr
  exact hr

/-- A copy of whatever slice over the front of a block of the call's own, run. -/
theorem copy_rv {P : Program} {w : World} {dT sT ty e t : TypeId} {k : Nat} (ht : P.underlying dT = some (.slice e)) (hsz : (P.info? e).map (·.size) = some k) {g n cap m c : Nat} {cur : List Value} (hg : Blk w g t cur)
    (hl : cur.length = n * k) {a : Option Addr} {vs : List Value} (hR : RV w a m k vs) (h1 : ∀ v ∈ vs, v.oneCell' = true) (hmn : m ≤ n) :
    ∃ w', (Builtin.copy_ #[dT, sT] ty #[.slice (some ⟨g, 0, none⟩) n cap, .slice a m c]).run P w = .ok (.int .i64 m) w' ∧ Blk w' g t (vs ++ cur.drop vs.length) ∧ w.grownBy w' (some g) := by
  obtain ⟨i, hq, hi⟩ := Option.map_eq_some_iff.1 hsz
  have hmin : Nat.min m n = m := Nat.min_eq_left hmn
  have hvl := hR.1
  by_cases hm : m = 0
  · subst hm
    have hv : vs = [] := List.eq_nil_of_length_eq_zero (by simpa using hvl)
    subst hv
    refine ⟨w, ?_, by simpa using hg, World.grownBy.refl w _⟩
    cases a with
    | none => simp [Builtin.copy_, run_underlying ht, Builtin.lenOf, Builtin.firstCells, sizeOf, typeInfo, hq, storeCells, goInt]
    | some ad =>
      have hl0 := run_loadCells_list (P := P) w ad [] (fun j v h => by simp at h)
      simp at hl0
      simp [Builtin.copy_, run_underlying ht, Builtin.lenOf, Builtin.firstCells, sizeOf, typeInfo, hq, storeCells, goInt, hl0]
  · obtain ⟨b, off, rfl, -, hc⟩ := hR.2 (by omega)
    have hload := run_loadCells_list (P := P) w ⟨b, off, none⟩ vs (fun j v hv => by
      obtain ⟨hj, rfl⟩ := List.getElem?_eq_some_iff.1 hv
      rw [add_none]; exact hc j hj)
    have hfit : vs.length ≤ cur.length := by rw [hvl, hl]; exact Nat.mul_le_mul_right k hmn
    have hst := run_storeCells_at P g 0 t vs 0 cur.toArray w hg (by simpa using hfit) h1
    simp only [Nat.zero_add, Nat.add_zero, List.take_zero, List.nil_append] at hst
    refine ⟨_, ?_, (setRow_heap w g _ _ t _ hg), ⟨rfl, rfl, rfl, by simp, fun j _ hj => setRow_other w g j _ (fun e => hj (by simp [e]))⟩⟩
    simp [Builtin.copy_, run_underlying ht, Builtin.lenOf, Builtin.firstCells, sizeOf, typeInfo, hq, hi, hmin, ← hvl, hload, hst, goInt]

/-- A copy by its run. -/
theorem wpList_copy_run {P : Program} {w : World} {ops : Array Oper} {rest : List Oper} {o : Oper} {a : Act} {Q : Exit → Act → World → Prop} (hgd : o.guard = none) (d s : Operand) (dT sT : TypeId)
    (ho : o.op = .call { callee := .builtin .copy, args := #[d, s], argTypes := #[dT, sT] }) (vd vs : Value) (hd : a.eval d = vd) (hs : a.eval s = vs) (v' : Value) (w' : World)
    (hrun : (Builtin.copy_ #[dT, sT] o.type #[vd, vs]).run P w = .ok v' w') (h : wpList P ops Q rest (a.put o.dst v') w') : wpList P ops Q (o :: rest) a w := by
  refine wpList_plain hgd fun K hK => ?_
  unfold Oper.wp
  simp [execOp, ho, resolve, invoke, builtin, hd, hs, hrun, Result.andThen]
  exact hK _ _ h

theorem size_made (z : Array Value) (n : Nat) : (madeCells z n).toList.length = n := by simp [madeCells]

end Go.Proofs.YtkglolnghihegaaGreatDoor.Dsk
