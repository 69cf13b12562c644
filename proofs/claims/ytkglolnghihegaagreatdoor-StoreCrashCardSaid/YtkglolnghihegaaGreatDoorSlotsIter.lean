/- The iterator over the sectors of a stretch: its contract. -/
import Derived.RangeFuncNested
import Derived.RangeFuncBound
import Derived.RangeFuncCalls
import Derived.RangeFuncLeaves
import Derived.Shelf.Abstract
import Derived.Shelf.RegionOpen
import Derived.WalkKit
import Derived.OwnWalkIn
import Derived.TacticsInMore
import Derived.LoopNIn
import Derived.LoopIn
import Derived.Test.YtkglolnghihegaaGreatDoorSlotsSec
import Derived.Test.YtkglolnghihegaaGreatDoorDskA
namespace Go.Proofs.YtkglolnghihegaaGreatDoor.Slt
open Go.RowKit Go.Shelf Go.Proofs.YtkglolnghihegaaGreatDoor.Dsk
attribute [local go_sem] Oper.semAt_some

/-- What a round keeps: all below t, and all behind t below n. -/
structure KP (t n : Nat) (W W' : World) : Prop where
  bel : Below t W W'
  blk : ∀ j, t < j → j < n → W'.heap[j]? = W.heap[j]?
theorem KP.refl (t n : Nat) (W : World) : KP t n W W := ⟨Below.refl _ _, fun _ _ _ => rfl⟩
theorem KP.trans {t n : Nat} {A B C : World} (h : KP t n A B) (k : KP t n B C) : KP t n A C := ⟨h.bel.trans k.bel, fun j h1 h2 => (k.blk j h1 h2).trans (h.blk j h1 h2)⟩
theorem KP.of_below {t n B : Nat} {W W' : World} (h : Below B W W') (h1 : t ≤ B) (h2 : n ≤ B) : KP t n W W' := ⟨h.mono h1, fun j _ h4 => h.block j (by omega)⟩
theorem KP.putObj {t n : Nat} {w : World} (h1 : t ≤ w.heap.size) (h2 : n ≤ w.heap.size) (W : World) (l : Nat) (o o' : Obj) (hl : w.heap.size ≤ l) (h : W.heap[l]? = some o) (hc : o.isCells = false) (hw : o.isWalk = false) : KP t n W (W.putObj l o') :=
  ⟨belowK_b h1 W l o o' hl h hc hw, fun j _ h4 => World.putObj_heap_other (by omega)⟩

theorem sheets_any (A : Option Addr) (n c : Nat) (A' : Option Addr) (m c' : Nat) (f p q : Int) (w : World) :
    Calls Tryz.prog 64 #[DV A n c A' m c' f, .int .i64 p, .int .i64 q] w fun r w' =>
      r = .returned (.func (.func 99) #[] #[.pointer (some ⟨w.heap.size + 1, 0, none⟩), .pointer (some ⟨w.heap.size + 2, 0, none⟩), .pointer (some ⟨w.heap.size, 0, none⟩)]) ∧
      w' = ((w.alloc (D33 A n c A' m c' f)).alloc (.cells #[.int .i64 p] 3)).alloc (.cells #[.int .i64 q] 3) := by
  go_enter Tryz.func64, Tryz.ntmps64
  go_wp2
  go_ret
  exact ⟨rfl, rfl⟩

/-- What the iterator finds: the device, and the three blocks. -/
structure Seq (t : Nat) (w W : World) (A : Option Addr) (n c : Nat) (A' : Option Addr) (m c' : Nat) (f p q : Int) : Prop where
  bel : Below w.heap.size w W
  size : w.heap.size = t
  lt : t + 4 ≤ W.heap.size
  d : W.heap[t + 1]? = some (D33 A n c A' m c' f)
  p : W.heap[t + 2]? = some (.cells #[.int .i64 p] 3)
  q : W.heap[t + 3]? = some (.cells #[.int .i64 q] 3)
theorem Seq.keep {t : Nat} {w W W' : World} {A : Option Addr} {n c : Nat} {A' : Option Addr} {m c' : Nat} {f p q : Int} (h : Seq t w W A n c A' m c' f p q) (hk : KP t (t + 4) W W') : Seq t w W' A n c A' m c' f p q :=
  ⟨h.bel.trans (by rw [h.size]; exact hk.bel), h.size, Nat.le_trans h.lt hk.bel.size, (hk.blk _ (by omega) (by omega)).trans h.d, (hk.blk _ (by omega) (by omega)).trans h.p, (hk.blk _ (by omega) (by omega)).trans h.q⟩
theorem Seq.call {t : Nat} {w W W' : World} {A : Option Addr} {n c : Nat} {A' : Option Addr} {m c' : Nat} {f p q : Int} (h : Seq t w W A n c A' m c' f p q) (hb : Below W.heap.size W W') : Seq t w W' A n c A' m c' f p q :=
  h.keep (KP.of_below hb (by have := h.lt; omega) h.lt)
theorem Seq.cells {t : Nat} {w W : World} {A : Option Addr} {n c : Nat} {A' : Option Addr} {m c' : Nat} {f p q : Int} (h : Seq t w W A n c A' m c' f p q) :
    W.cell? ⟨t + 1, 0, none⟩ = some (.slice A n c) ∧ W.cell? ⟨t + 1, 1, none⟩ = some (.slice A' m c') ∧ W.cell? ⟨t + 1, 2, none⟩ = some (.int .i64 f) ∧
    W.cell? ⟨t + 2, 0, none⟩ = some (.int .i64 p) ∧ W.cell? ⟨t + 3, 0, none⟩ = some (.int .i64 q) := by
  have h1 := h.d; have h2 := h.p; have h3 := h.q
  refine ⟨?_, ?_, ?_, ?_, ?_⟩ <;> simp [World.cell?, *]

theorem grown_of {W W' : World} (hb : Below W.heap.size W W') : W.grownBy W' none := ⟨hb.os, hb.tape, hb.output, hb.size, fun j hj _ => hb.block j hj⟩

set_option maxRecDepth 100000 in
set_option maxHeartbeats 1000000 in
/-- The iterator's body: for every loop that keeps what it finds. -/
theorem sheets1_in (l t : Nat) (A : Option Addr) (n c : Nat) (A' : Option Addr) (m c' : Nat) (f : Int) (S : List ByteArray) (V : List Wr) (a b : Nat) (w : World) (hD : Dev w A n c A' m c' f S V) (hc : chk S V f = 0) (hab : a ≤ b) (hb : b ≤ S.length)
    (N : Nat) (hN : 1 ≤ N) (J Jx : List ByteArray → World → Prop)
    (hJ : ∀ pre (W W' : World), J pre W → Below W.heap.size W W' → J pre W')
    (hY : ∀ pre x W, J pre W → pre.length < (b - a) → YieldAt Fence.wide (N - 1) Tryz.prog l #[.string x] W fun e W' =>
      (e = .returned (.bool true) ∧ J (pre ++ [x]) W' ∧ KP t (t + 4) W W') ∨ (e = .returned (.bool false) ∧ Jx (pre ++ [x]) W'))
    (W : World) (hq : Seq t w W A n c A' m c' f a b) (h0 : J [] W) :
    CallsIn Fence.wide N Tryz.prog 99 #[.func (.yield l) #[] #[], .pointer (some ⟨t + 2, 0, none⟩), .pointer (some ⟨t + 3, 0, none⟩), .pointer (some ⟨t + 1, 0, none⟩)] W fun e W' => (∃ v, e = .returned v) ∧
      ((∃ ys, ys = part (secsD S V) a b ∧ J ys W') ∨ (∃ pre, pre <+: part (secsD S V) a b ∧ Jx pre W')) := by
  have hl := secsD_length S V
  have HR : Hid (∀ W' i (hi : i < (secsD S V).length), Below w.heap.size w W' → Calls Tryz.prog 100 #[DV A n c A' m c' f, .int .i64 i] W' fun e w' => e = .returned (.tuple #[.string (secsD S V)[i], .int .i64 0]) ∧ Below W'.heap.size W' w') := Lib.hid (fun W' i hi hbw => by
    have := read_any A n c A' m c' f S V i W' (hD.below hbw)
    rw [(secsD_rd hc hi).1, (secsD_rd hc hi).2] at this
    exact this)
  have hbS : (b : Int) ≤ 2000 := by have := hD.ns; omega
  have HL := Lib.hid hl
  have HB := Lib.hid hb
  clear hD hc hl hb
  generalize secsD S V = L at *
  obtain ⟨-, -, -, cp, cq⟩ := hq.cells
  have HQ := Lib.hid hq
  have HJ := Lib.hid hJ
  have HY := Lib.hid hY
  have H0 := Lib.hid h0
  clear hq hJ hY h0
  refine callsIn_of_wp Tryz.func99 rfl trivial ?_ rfl
  simp only [Tryz.ntmps99, List.size_toArray, List.length_cons, List.length_nil, Nat.reduceAdd, Nat.reduceSub, Array.replicate_succ, Array.replicate_zero, List.push_toArray, List.append_toArray, List.nil_append, List.cons_append]
  gi_wp2
  gi_loopw [5] (fun v wr => ∃ i : Nat, a ≤ i ∧ i ≤ b ∧ v = .int .i64 i ∧ Hid (Seq t w wr A n c A' m c' f a b) ∧ Hid (J (part L a i) wr)) (fun v _ => b - (intOf v).toNat)
  case atStart => exact ⟨a, Nat.le_refl _, hab, rfl, HQ, Lib.hid (by rw [part_none]; exact H0.out)⟩
  case round =>
    obtain ⟨i, h1, h2, rfl, HS, HJ1⟩ := hrel
    obtain ⟨c0, c1, c2, cp, cq⟩ := HS.out.cells
    by_cases hlt : i < b
    · have hi : i < L.length := by have := HL.out; have := HB.out; omega
      have HRi := Lib.hid (HR.out wr i hi HS.out.bel)
      have HP := Lib.hid (part_succ h1 hi)
      have HPl := Lib.hid (part_length (L := L) (a := a) (show i ≤ L.length by omega))
      generalize L[i] = x at *
      have hfn : Fence.wide.fn 100 := trivial
      gi_wp2_with (gi_at_call 100; refine (callsIn_wide.2 HRi.out).mono ?_; rintro e w1 ⟨rfl, hb1⟩; have HS1 := Lib.hid (HS.out.call hb1); have HJ2 := Lib.hid (HJ.out _ _ _ HJ1.out hb1); clear hb1 HJ1 HS c0 c1 c2 cp cq; obtain ⟨fn, tmps, assign, body, hy, hR⟩ := HY.out (part L a i) x w1 HJ2.out (by have := HPl.out; omega))
      refine hR.mono ?_
      rintro e W3 (⟨rfl, hJ3, hk3⟩ | ⟨rfl, hJx3⟩)
      · have HS3 := Lib.hid (HS1.out.keep hk3)
        have HJ3 := Lib.hid hJ3
        clear hJ3 hk3 HS1 HJ2 hy hR
        gi_wp2
        go_roundw
        case rel => exact ⟨i + 1, by omega, by omega, by go_num, HS3, Lib.hid (by rw [HP.out]; exact HJ3.out)⟩
        case measure => simp [intOf]; omega
      · have HJ3 := Lib.hid hJx3
        clear hJx3 HS1 HJ2 hy hR
        gi_wp2
        refine bodyPost_ret (results_none rfl _ _ _) rfl ?_
        exact ⟨⟨_, rfl⟩, .inr ⟨part L a (i + 1), part_prefix (by omega) (by omega) (by have := HL.out; have := HB.out; omega), by rw [HP.out]; exact HJ3.out⟩⟩
    · obtain rfl : i = b := by omega
      gi_wp2
      go_end0
      exact ⟨⟨_, rfl⟩, .inl ⟨_, rfl, HJ1.out⟩⟩

/-- The iterator that sheets hands back. -/
theorem sheets_stops (t : Nat) (A : Option Addr) (n c : Nat) (A' : Option Addr) (m c' : Nat) (f : Int) (S : List ByteArray) (V : List Wr) (a b : Nat) (w : World) (hD : Dev w A n c A' m c' f S V) (hc : chk S V f = 0) (hab : a ≤ b) (hb : b ≤ S.length)
    (N : Nat) (hN : 1 ≤ N) (W0 : World) (hq : Seq t w W0 A n c A' m c' f a b) :
    SeqStopsK Fence.wide N Tryz.prog 99 #[.pointer (some ⟨t + 2, 0, none⟩), .pointer (some ⟨t + 3, 0, none⟩), .pointer (some ⟨t + 1, 0, none⟩)] (fun x : ByteArray => #[Value.string x]) (KP t (t + 4))
      (fun ys => ys = part (secsD S V) a b) (fun pre => pre <+: part (secsD S V) a b) (b - a) W0 := fun l J Jx W hW hJ _ hY h0 =>
  sheets1_in l t A n c A' m c' f S V a b w hD hc hab hb N hN J Jx (fun pre A B hA hb => hJ pre A B none hA (grown_of hb) (fun r e => by cases e)) hY W (hq.call hW) h0

end Go.Proofs.YtkglolnghihegaaGreatDoor.Slt
