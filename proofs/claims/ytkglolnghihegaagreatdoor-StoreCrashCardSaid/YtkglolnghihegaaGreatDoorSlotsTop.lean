/- Contract of Top of package slots. -/
import Derived.Test.YtkglolnghihegaaGreatDoorSlotsIter
import Derived.Test.YtkglolnghihegaaGreatDoorSheetOpenC
namespace Go.Proofs.YtkglolnghihegaaGreatDoor.Slt
open Go.RowKit Go.Shelf Go.Proofs.YtkglolnghihegaaGreatDoor.Dsk Go.Proofs.YtkglolnghihegaaGreatDoor.Sht
attribute [local go_sem] Oper.semAt_some

/-- The greatest stamp of sheets. -/
def topL (L : List ByteArray) : Int := L.foldl (fun t s => max t (topR s)) 0
theorem topL_snoc (L : List ByteArray) (s : ByteArray) : topL (L ++ [s]) = max (topL L) (topR s) := by simp [topL]
/-- Top. -/
def topD (S : List ByteArray) (W : List Wr) (f : Int) : Int := if chk S W f = 0 then topL (secsD S W) else 0

theorem keeps_of {W W' : World} (hb : Below W.heap.size W W') : KeepsOthers W W' :=
  ⟨hb.size, fun k _ hk _ => (hb.block k (Array.getElem?_eq_some_iff.1 hk).1).trans hk⟩

theorem KP.set {t n : Nat} {W W' : World} (h : KP t n W W') (v : Value) : KP t n W (W'.setCell ⟨t, 0, none⟩ v) :=
  ⟨h.bel.setCell (Nat.le_refl _) _, fun j h1 h2 => (Below.heap_setCell _ _ _ _ (by simp; omega)).trans (h.blk j h1 h2)⟩
theorem KP.drew {t n : Nat} {W W' : World} (h : KP t n W W') : KP t n W W'.drew := ⟨⟨h.bel.os, h.bel.tape, h.bel.output, h.bel.size, h.bel.block⟩, h.blk⟩

/-- The number in the box t. -/
def Num (t : Nat) (W : World) (z : Int) : Prop := W.cell? ⟨t, 0, none⟩ = some (.int .i64 z) ∧ W.frozen? ⟨t, 0, none⟩ = false
theorem Num.call {t B : Nat} {W W' : World} {z : Int} (h : Num t W z) (hb : Below B W W') (hl : t < B) : Num t W' z :=
  ⟨(hb.cell (p := ⟨t, 0, none⟩) hl).trans h.1, (hb.frozen (p := ⟨t, 0, none⟩) hl).trans h.2⟩
theorem Num.set {t : Nat} {W : World} {z : Int} (h : Num t W z) (y : Int) : Num t (W.setCell ⟨t, 0, none⟩ (.int .i64 y)) y :=
  ⟨World.cell?_setCell_same' _ _ _ (by rw [h.1]; rfl), by rw [World.frozen?_setCell]; exact h.2⟩
theorem Num.drew {t : Nat} {W : World} {z : Int} (h : Num t W z) : Num t W.drew z := h

theorem seq_new (w : World) (o : Obj) (A : Option Addr) (n c : Nat) (A' : Option Addr) (m c' : Nat) (f p q : Int) :
    Seq w.heap.size w ((((w.alloc o).alloc (D33 A n c A' m c' f)).alloc (.cells #[.int .i64 p] 3)).alloc (.cells #[.int .i64 q] 3)) A n c A' m c' f p q := by
  have e1 := World.alloc_heap_new (w.alloc o) (D33 A n c A' m c' f)
  have e2 := World.alloc_heap_new ((w.alloc o).alloc (D33 A n c A' m c' f)) (.cells #[.int .i64 p] 3)
  have e3 := World.alloc_heap_new (((w.alloc o).alloc (D33 A n c A' m c' f)).alloc (.cells #[.int .i64 p] 3)) (.cells #[.int .i64 q] 3)
  simp only [World.size_alloc] at e1 e2 e3
  exact ⟨(((new1 _ _).push _).push _).push _, rfl, by simp, (Below.heap_alloc _ _ _ (by simp)).trans ((Below.heap_alloc _ _ _ (by simp)).trans e1), (Below.heap_alloc _ _ _ (by simp)).trans e2, e3⟩

theorem topD_no (A : Option Addr) (n c : Nat) (A' : Option Addr) (m c' : Nat) (f : Int) (S : List ByteArray) (V : List Wr) (w : World) (hD : Dev w A n c A' m c' f S V) (h : ¬ chk S V f = 0) :
    Calls Tryz.prog 32 #[DV A n c A' m c' f] w fun r w' => r = .returned (.int .i64 0) ∧ Below w.heap.size w w' := by
  have HC := Lib.hid (check_any A n c A' m c' f S V _ (hD.new (D33 A n c A' m c' f)))
  have hne := neq0 h
  generalize chk S V f = e0 at *
  clear hD h
  go_enter Tryz.func32, Tryz.ntmps32
  go_wp2_with (go_at_call 31; ((with_reducible refine HC.out.mono ?_); rintro e w1 ⟨rfl, hb1⟩; have HB := Lib.hid hb1; clear hb1))
  go_ret
  exact ⟨rfl, (new1 _ _).call HB.out⟩

set_option maxRecDepth 100000 in
set_option maxHeartbeats 2000000 in
theorem topD_yes (A : Option Addr) (n c : Nat) (A' : Option Addr) (m c' : Nat) (f : Int) (S : List ByteArray) (V : List Wr) (w : World) (hD : Dev w A n c A' m c' f S V) (h : chk S V f = 0) :
    Calls Tryz.prog 32 #[DV A n c A' m c' f] w fun r w' => r = .returned (.int .i64 (topL (secsD S V))) ∧ Below w.heap.size w w' := by
  have hc := check_any A n c A' m c' f S V _ (hD.new (D33 A n c A' m c' f))
  rw [h] at hc
  have HC := Lib.hid hc
  have HD := Lib.hid hD
  have HN := Lib.hid hD.sec.sec
  have HK := Lib.hid h
  clear hc hD h
  have f43 : Fence.wide.fn 31 := trivial
  have f50 : Fence.wide.fn 64 := trivial
  refine (callsIn_wide (n := 3)).1 ?_
  refine callsIn_of_wp_marks Tryz.func32 rfl trivial ?_ rfl
  simp only [Tryz.ntmps32, List.size_toArray, List.length_cons, List.length_nil, Nat.reduceAdd, Nat.reduceSub, Array.replicate_succ, Array.replicate_zero, List.push_toArray, List.append_toArray, List.nil_append, List.cons_append]
  gi_wp2_with (gi_at_call 31; refine (callsIn_wide.2 HC.out).mono ?_; rintro e w1 ⟨rfl, hb1⟩; have HB := Lib.hid ((new1 _ _).call hb1); have hz := ((Box.new w (.slice A n c) (.slice A' m c') (.int .i64 f) 29).call hb1).lt; obtain ⟨c0, c1, c2, -, -, -⟩ := (Box.new w (.slice A n c) (.slice A' m c') (.int .i64 f) 29).call hb1; clear hb1)
  gi_wp2_with (gi_at_call 64; refine (callsIn_wide.2 (sheets_any A n c A' m c' f _ _ _)).mono ?_; rintro e w' ⟨rfl, rfl⟩)
  have HQ : Hid (Seq w1.heap.size w1 ((((w1.alloc (.cells #[.int .i64 0] 3)).alloc (D33 A n c A' m c' f)).alloc (.cells #[.int .i64 0] 3)).alloc (.cells #[.int .i64 n] 3)) A n c A' m c' f (0 : Nat) S.length) := Lib.hid (by
    rw [HN.out]; exact seq_new w1 _ A n c A' m c' f 0 n)
  have HT : Hid (Num w1.heap.size ((((w1.alloc (.cells #[.int .i64 0] 3)).alloc (D33 A n c A' m c' f)).alloc (.cells #[.int .i64 0] 3)).alloc (.cells #[.int .i64 n] 3)) 0) := Lib.hid (by
    have h0 : Num w1.heap.size (w1.alloc (.cells #[.int .i64 0] 3)) 0 := by constructor <;> simp [go_sem]
    exact ((h0.call (new1 _ _) (by simp)).call (new1 _ _) (by simp; omega)).call (new1 _ _) (by simp; omega))
  have HB0 : Hid (Below w.heap.size w ((((w1.alloc (.cells #[.int .i64 0] 3)).alloc (D33 A n c A' m c' f)).alloc (.cells #[.int .i64 0] 3)).alloc (.cells #[.int .i64 n] 3))) := Lib.hid ((((HB.out.push _).push _).push _).push _)
  have hsz : ((((w1.alloc (.cells #[.int .i64 0] 3)).alloc (D33 A n c A' m c' f)).alloc (.cells #[.int .i64 0] 3)).alloc (.cells #[.int .i64 n] 3)).heap.size = w1.heap.size + 4 := by simp
  generalize ((((w1.alloc (.cells #[.int .i64 0] 3)).alloc (D33 A n c A' m c' f)).alloc (.cells #[.int .i64 0] 3)).alloc (.cells #[.int .i64 n] 3)) = W0 at *
  have hst := sheets_stops w1.heap.size A n c A' m c' f S V 0 S.length w1 (HD.out.below HB.out) HK.out (Nat.zero_le _) (Nat.le_refl _) 2 (by omega) W0 HQ.out
  have hsl := secsD_length S V
  rw [← hsl, part_all, hsl] at hst
  obtain ⟨L, hL⟩ : ∃ L, secsD S V = L := ⟨_, rfl⟩
  rw [hL] at hst
  refine wpIn_rangeFunc_ownF rfl (by omega) (gf := 99) (lb := #[.pointer (some ⟨w1.heap.size + 2, 0, none⟩), .pointer (some ⟨w1.heap.size + 3, 0, none⟩), .pointer (some ⟨w1.heap.size + 1, 0, none⟩)]) rfl trivial (enters_of Tryz.func99 (by kernel_rfl) rfl)
    hst (fun h k => h.trans k) (KP.putObj (by omega) (by omega)) (Below.refl _ _) (fun _ => rfl)
    (fun pre W => (Num w1.heap.size W (topL pre) ∧ w1.heap.size + 4 ≤ W.heap.size) ∧ Below w.heap.size w W)
    (fun _ _ _ => False)
    (OwnFrom.and (Own.from (fun s A B row hs hg hr => ⟨⟨cell_kept hs.1.1 hg hr, (frozen_kept hs.1.1 hg hr).trans hs.1.2⟩, Nat.le_trans hs.2 hg.size⟩) _) (ownFrom_below (Nat.le_refl _) (by have := HB.out.size; omega)))
    (fun _ _ _ _ _ hs _ _ => hs)
    ⟨⟨HT.out, by omega⟩, HB0.out⟩
    (fun x => { tmps := #[DV A n c A' m c' f, .pointer (some ⟨w.heap.size, 0, none⟩), .int .i64 0, .pointer (some ⟨w1.heap.size, 0, none⟩), .string x, DV A n c A' m c' f, .int .i64 0, .bool false, DV A n c A' m c' f, .pointer (some ⟨w.heap.size, 0, none⟩), .slice A n c, .int .i64 n,
      .func (.func 99) #[] #[.pointer (some ⟨w1.heap.size + 2, 0, none⟩), .pointer (some ⟨w1.heap.size + 3, 0, none⟩), .pointer (some ⟨w1.heap.size + 1, 0, none⟩)], .string x, undef, undef, undef, undef, undef], defers := [] }) ?assign ?body ?done ?stop
  case assign =>
    intro l x W K hK
    gi_wp2
    exact hK
  case body =>
    rintro l pre x W ⟨⟨hT, hW4⟩, hB⟩ _
    have HW4 := Lib.hid hW4
    clear hW4
    have HT1 := Lib.hid hT
    have HB1 := Lib.hid hB
    have hc1 := hT.1
    have hf1 := hT.2
    have hlt : w1.heap.size < W.heap.size := cell_lt hT.1
    have f55 : Fence.wide.fn 65 := trivial
    have HTP := Lib.hid (fun W => top_any x W)
    have HW0 := Lib.hid (topL_snoc pre x)
    generalize topR x = y at *
    generalize topL pre = z at *
    clear hT hB
    have hd : 1 ≤ 3 - 1 - 1 := by decide
    have hmx : Tryz.prog.follows .mixedOrders = true := by kernel_rfl
    gi_wp2
    gi_region_with_o (gi_at_call 65; refine (CallsIn.inRound l (callsIn_wide.2 (HTP.out _))).mono ?_; rintro e w2 ⟨rfl, hb2⟩; have HB2 := Lib.hid hb2; have hc2 := (HT1.out.drew.call hb2 hlt).1; have hf2 := (HT1.out.drew.call hb2 hlt).2; clear hb2)
    all_goals (
      have hb := undrew HB2.out
      have hm : (if z < y then y else z) = max z y := by split <;> omega
      rw [hm, ← HW0.out]
      exact ⟨(keeps_of hb).trans (KeepsOthers.setCell _ _ _), (KP.of_below hb (by omega) HW4.out).set _, ⟨Num.set ⟨hc2, hf2⟩ _, by rw [World.size_setCell]; exact Nat.le_trans HW4.out hb.size⟩, (HB1.out.call hb).setCell (p := ⟨w1.heap.size, 0, none⟩) (Nat.le_of_lt hz) _⟩)
  case done =>
    rintro D ys W hD hys ⟨⟨⟨hc, _⟩, _⟩, hB⟩ hK
    gi_wp2
    refine ⟨by simp, .inl ⟨_, _, rfl, run_takeDeferred hK, ?_⟩⟩
    exact ⟨_, results_tmp rfl _ _ _, (by rw [hL, ← hys]; rfl), hB.trans (belowK_b (w := w) (Nat.le_refl _) W D _ _ (by have := HB.out.size; omega) hK rfl rfl)⟩
  case stop =>
    rintro D c pre W _ _ h _
    exact h.elim

theorem topD_any (A : Option Addr) (n c : Nat) (A' : Option Addr) (m c' : Nat) (f : Int) (S : List ByteArray) (V : List Wr) (w : World) (hD : Dev w A n c A' m c' f S V) :
    Calls Tryz.prog 32 #[DV A n c A' m c' f] w fun r w' => r = .returned (.int .i64 (topD S V f)) ∧ Below w.heap.size w w' := by
  unfold topD
  by_cases h : chk S V f = 0
  · rw [if_pos h]; exact topD_yes A n c A' m c' f S V w hD h
  · rw [if_neg h]; exact topD_no A n c A' m c' f S V w hD h

end Go.Proofs.YtkglolnghihegaaGreatDoor.Slt
