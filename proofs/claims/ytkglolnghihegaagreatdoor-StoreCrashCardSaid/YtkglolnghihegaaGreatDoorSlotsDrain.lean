/- Contract of Drain of package slots. -/
import Derived.RangeFuncBox
import Derived.Maps.AppendAt
import Derived.Test.YtkglolnghihegaaGreatDoorSlotsTop
import Derived.Test.YtkglolnghihegaaGreatDoorSlotsSmall
import Derived.Test.YtkglolnghihegaaGreatDoorSheafLay
import Derived.Test.YtkglolnghihegaaGreatDoorDskB
namespace Go.Proofs.YtkglolnghihegaaGreatDoor.Slt
open Go.RowKit Go.Shelf Go.Proofs.YtkglolnghihegaaGreatDoor.Dsk Go.Proofs.YtkglolnghihegaaGreatDoor.Sht
attribute [local go_sem] Oper.semAt_some

/-- Is a sheet whole? -/
def wholeB (s : ByteArray) : Bool := (openR s).2.2 == 0
/-- The bodies ahead of the first sheet that is not whole. -/
def drainL (L : List ByteArray) : List ByteArray := (L.takeWhile wholeB).map fun s => (openR s).2.1
theorem drainL_all {L : List ByteArray} (h : ∀ s ∈ L, wholeB s = true) : drainL L = L.map fun s => (openR s).2.1 := by
  unfold drainL
  congr 1
  induction L with
  | nil => rfl
  | cons a L ih => rw [List.takeWhile_cons_of_pos (h a (by simp)), ih fun s hs => h s (by simp [hs])]
theorem takeWhile_stop {α : Type} (p : α → Bool) (L R : List α) (x : α) (h : ∀ s ∈ L, p s = true) (hx : p x = false) : (L ++ x :: R).takeWhile p = L := by
  induction L with
  | nil => simp [hx]
  | cons a L ih => simp [h a (by simp), ih (fun s hs => h s (by simp [hs]))]
theorem drainL_stop {L R : List ByteArray} {x : ByteArray} (h : ∀ s ∈ L, wholeB s = true) (hx : wholeB x = false) : drainL (L ++ x :: R) = L.map fun s => (openR s).2.1 := by
  unfold drainL
  rw [takeWhile_stop _ _ _ _ h hx]
theorem drainL_more {L : List ByteArray} {x : ByteArray} (h : ∀ s ∈ L, wholeB s = true) (hx : wholeB x = true) : drainL (L ++ [x]) = drainL L ++ [(openR x).2.1] := by
  rw [drainL_all h, drainL_all (by intro s hs; rcases List.mem_append.1 hs with h1 | h1; exact h s h1; rw [List.mem_singleton.1 h1]; exact hx)]
  simp
theorem drainL_end {L R : List ByteArray} {x : ByteArray} (h : ∀ s ∈ L, wholeB s = true) (hx : wholeB x = false) : drainL (L ++ x :: R) = drainL L := by
  rw [drainL_stop h hx, drainL_all h]
theorem drainL_len (L : List ByteArray) : (drainL L).length ≤ L.length := by
  unfold drainL
  rw [List.length_map]
  exact (List.takeWhile_prefix _).length_le
/-- Drain. -/
def drainD (S : List ByteArray) (W : List Wr) (f p q : Int) : List ByteArray := if okS S W f p q = true then drainL (part (secsD S W) p.toNat q.toNat) else []

/-- What is answered: a slice of texts. -/
def RetT (w : World) (L : List ByteArray) (r : Ending) (w' : World) : Prop := ∃ A m c, r = .returned (.slice A m c) ∧ RV w' A m 1 (SV L) ∧ Below w.heap.size w w'
/-- .. and that its capacity is not below its length. -/
def RetTC (w : World) (L : List ByteArray) (r : Ending) (w' : World) : Prop := ∃ A m c, r = .returned (.slice A m c) ∧ m ≤ c ∧ RV w' A m 1 (SV L) ∧ Below w.heap.size w w'
theorem own_valc {w : World} {B : Nat} {e k : Nat} {v : Value} {n : Nat} {xs : List Value} (h : w.ownsRow B e k v n xs) : ∃ A c, v = .slice A n c ∧ n ≤ c := by
  rcases h.2 with ⟨rfl, h0⟩ | ⟨g, cap, cur, rfl, _⟩
  · exact ⟨none, 0, by rw [h0], by omega⟩
  · rename_i hnc
    exact ⟨_, _, rfl, hnc.2.2.1⟩

theorem drain_no (A : Option Addr) (n c : Nat) (A' : Option Addr) (m c' : Nat) (f : Int) (S : List ByteArray) (V : List Wr) (p q : Int) (w : World) (hD : Dev w A n c A' m c' f S V) (h : okS S V f p q = false) :
    Calls Tryz.prog 67 #[DV A n c A' m c' f, .int .i64 p, .int .i64 q] w (RetTC w []) := by
  have HC := Lib.hid (isStretch_any A n c A' m c' f S V p q _ (hD.new (D33 A n c A' m c' f)))
  rw [h] at HC
  clear hD h
  go_enter Tryz.func67, Tryz.ntmps67
  go_wp2_with (go_at_call 104; ((with_reducible refine HC.out.mono ?_); rintro e w1 ⟨rfl, hb1⟩; have HB := Lib.hid hb1; clear hb1))
  go_ret
  exact ⟨none, 0, 0, rfl, Nat.le_refl _, RV.nil _ _ _, (new1 _ _).call HB.out⟩

theorem own_weaker {w : World} {B B' : Nat} {e k : Nat} {v : Value} {n : Nat} {xs : List Value} (h : w.ownsRow B e k v n xs) (hb : B' ≤ B) : w.ownsRow B' e k v n xs := by
  refine ⟨h.1, ?_⟩
  rcases h.2 with h2 | ⟨g, cap, cur, e, hB, h3⟩
  · exact .inl h2
  · exact .inr ⟨g, cap, cur, e, Nat.le_trans hb hB, h3⟩

theorem own_belowS {w w' : World} {B : Nat} {e k n : Nat} {v : Value} {xs : List Value} (h : w.ownsRow B e k v n xs) (hb : Below w.heap.size w w') : w'.ownsRow B e k v n xs :=
  h.kept (row := none) ⟨hb.os, hb.tape, hb.output, hb.size, fun j hj _ => hb.block j hj⟩ (by cases v.ownBlock <;> simp)

theorem appended4 {W w1 : World} {t : Nat} {ty e : TypeId} {v v' : Value} {k m : Nat} {xs ys : List Value} {tmp : Obj} (hv : Boxed W t ty v) (hte : ty ≠ e) (hrow : W.ownsRow (t + 4) e 1 v k xs) (hn : t + 4 ≤ W.heap.size)
    (hown' : w1.ownsRow (t + 4) e 1 v' m ys) (hgrow : (W.alloc tmp).grownBy w1 v.ownBlock) :
    Boxed w1 t ty v ∧ Boxed (w1.setCell ⟨t, 0, none⟩ v') t ty v' ∧ (w1.setCell ⟨t, 0, none⟩ v').ownsRow (t + 4) e 1 v' m ys ∧ KeepsOthers W (w1.setCell ⟨t, 0, none⟩ v') ∧ KP t (t + 4) W (w1.setCell ⟨t, 0, none⟩ v') := by
  obtain ⟨h1, h2, -, h4, h5⟩ := hv.appended (n₀ := t) hte (own_weaker hrow (by omega)) (by omega) (Nat.le_refl _) (own_weaker hown' (by omega)) hgrow
  refine ⟨h1, h2, hown'.kept (grownBy_setCell' w1 t v') (.inr (h1.not_row hte hown').symm), h4, h5, fun j hj hl => ?_⟩
  refine (Below.heap_setCell _ _ _ _ (by simp; omega)).trans ((hgrow.block j (by simp; omega) ?_).trans (Below.heap_alloc _ _ _ (by omega)))
  rcases hrow.2 with ⟨rfl, _⟩ | ⟨g, cap, cur, rfl, hb, _, _⟩
  · simp [Value.ownBlock]
  · simp only [Value.ownBlock]
    intro e'
    simp at e'
    omega

theorem part_mem {L : List ByteArray} {a b : Nat} : (part L a b).length ≤ L.length := by unfold part; simp; omega

set_option maxRecDepth 100000 in
set_option maxHeartbeats 2000000 in
theorem drain_yes (A : Option Addr) (n c : Nat) (A' : Option Addr) (m c' : Nat) (f : Int) (S : List ByteArray) (V : List Wr) (a b : Nat) (w : World) (hD : Dev w A n c A' m c' f S V) (h : okS S V f a b = true) :
    Calls Tryz.prog 67 #[DV A n c A' m c' f, .int .i64 a, .int .i64 b] w (RetTC w (drainL (part (secsD S V) a b))) := by
  have hc := isStretch_any A n c A' m c' f S V a b _ (hD.new (D33 A n c A' m c' f))
  rw [h] at hc
  obtain ⟨k1, k2, k3, k4⟩ := okS_yes h
  have HC := Lib.hid hc
  have HD := Lib.hid hD
  have hns : (S.length : Int) ≤ 2000 := by have := hD.ns; omega
  have HK := Lib.hid k1
  clear hc hD h k1 k2
  have f49 : Fence.wide.fn 104 := trivial
  have f50 : Fence.wide.fn 64 := trivial
  refine (callsIn_wide (n := 3)).1 ?_
  refine callsIn_of_wp_marks Tryz.func67 rfl trivial ?_ rfl
  simp only [Tryz.ntmps67, List.size_toArray, List.length_cons, List.length_nil, Nat.reduceAdd, Nat.reduceSub, Array.replicate_succ, Array.replicate_zero, List.push_toArray, List.append_toArray, List.nil_append, List.cons_append]
  gi_wp2_with (gi_at_call 104; refine (callsIn_wide.2 HC.out).mono ?_; rintro e w1 ⟨rfl, hb1⟩; have HB := Lib.hid ((new1 _ _).call hb1); have hz := ((Box.new w (.slice A n c) (.slice A' m c') (.int .i64 f) 29).call hb1).lt; obtain ⟨c0, c1, c2, -, -, -⟩ := (Box.new w (.slice A n c) (.slice A' m c') (.int .i64 f) 29).call hb1; clear hb1)
  gi_wp2_with (gi_at_call 64; refine (callsIn_wide.2 (sheets_any A n c A' m c' f _ _ _)).mono ?_; rintro e w' ⟨rfl, rfl⟩)
  have HQ : Hid (Seq w1.heap.size w1 ((((w1.alloc (.cells #[.slice none 0 0] 22)).alloc (D33 A n c A' m c' f)).alloc (.cells #[.int .i64 a] 3)).alloc (.cells #[.int .i64 b] 3)) A n c A' m c' f a b) := Lib.hid (seq_new w1 _ A n c A' m c' f a b)
  have HT : Hid (Boxed ((((w1.alloc (.cells #[.slice none 0 0] 22)).alloc (D33 A n c A' m c' f)).alloc (.cells #[.int .i64 a] 3)).alloc (.cells #[.int .i64 b] 3)) w1.heap.size 22 (.slice none 0 0)) := Lib.hid ((((Boxed.new w1 22 (.slice none 0 0)).alloc _).alloc _).alloc _)
  have HB0 : Hid (Below w.heap.size w ((((w1.alloc (.cells #[.slice none 0 0] 22)).alloc (D33 A n c A' m c' f)).alloc (.cells #[.int .i64 a] 3)).alloc (.cells #[.int .i64 b] 3))) := Lib.hid ((((HB.out.push _).push _).push _).push _)
  have hsz : ((((w1.alloc (.cells #[.slice none 0 0] 22)).alloc (D33 A n c A' m c' f)).alloc (.cells #[.int .i64 a] 3)).alloc (.cells #[.int .i64 b] 3)).heap.size = w1.heap.size + 4 := by simp
  generalize ((((w1.alloc (.cells #[.slice none 0 0] 22)).alloc (D33 A n c A' m c' f)).alloc (.cells #[.int .i64 a] 3)).alloc (.cells #[.int .i64 b] 3)) = W0 at *
  have hst := sheets_stops w1.heap.size A n c A' m c' f S V a b w1 (HD.out.below HB.out) HK.out (by omega) (by omega) 2 (by omega) W0 HQ.out
  have hpl : (part (secsD S V) a b).length = b - a := part_length (by rw [secsD_length]; omega)
  obtain ⟨L, hL⟩ : ∃ L, part (secsD S V) a b = L := ⟨_, rfl⟩
  rw [hL] at hst hpl
  have HL := Lib.hid hL
  clear hL HQ
  obtain ⟨i0, hi, hz0, hz1, hz2⟩ := info_parts Dsk.info9
  refine wpIn_rangeFunc_ownF rfl (by omega) (gf := 99) (lb := #[.pointer (some ⟨w1.heap.size + 2, 0, none⟩), .pointer (some ⟨w1.heap.size + 3, 0, none⟩), .pointer (some ⟨w1.heap.size + 1, 0, none⟩)]) rfl trivial (enters_of Tryz.func99 (by kernel_rfl) rfl)
    hst (fun h k => h.trans k) (KP.putObj (by omega) (by omega)) (Below.refl _ _) (fun _ => rfl)
    (fun pre W => (∃ v, Boxed W w1.heap.size 22 v ∧ W.ownsRow (w1.heap.size + 4) 9 1 v (drainL pre).length (SV (drainL pre)) ∧ ∀ s ∈ pre, wholeB s = true) ∧ (w1.heap.size + 4 ≤ W.heap.size ∧ Below w.heap.size w W))
    (fun c pre W => (∃ v, Boxed W w1.heap.size 22 v ∧ W.ownsRow (w1.heap.size + 4) 9 1 v (drainL pre).length (SV (drainL pre)) ∧ (c = .exit 0 ∧ ∃ p x, pre = p ++ [x] ∧ (∀ s ∈ p, wholeB s = true) ∧ wholeB x = false)) ∧ Below w.heap.size w W)
    (OwnFrom.and (Own.from (holdsRow_own (w1.heap.size + 4) w1.heap.size 22 9 1 (fun pre => (drainL pre).length) (fun pre => SV (drainL pre)) (fun pre _ => ∀ s ∈ pre, wholeB s = true)) _) (OwnFrom.and (Own.from (fun s A B row hs hg hr => Nat.le_trans hs hg.size) _) (ownFrom_below (Nat.le_refl _) (by have := HB.out.size; omega))))
    (fun c => OwnFrom.and (Own.from (holdsRow_own (w1.heap.size + 4) w1.heap.size 22 9 1 (fun pre => (drainL pre).length) (fun pre => SV (drainL pre)) (fun pre _ => c = .exit 0 ∧ ∃ p x, pre = p ++ [x] ∧ (∀ s ∈ p, wholeB s = true) ∧ wholeB x = false)) _) (ownFrom_below (Nat.le_refl _) (by have := HB.out.size; omega)))
    ⟨⟨_, HT.out, World.ownsRow_nil _ _ _ _, by simp⟩, by omega, HB0.out⟩
    (fun x => { tmps := #[DV A n c A' m c' f, .int .i64 a, .int .i64 b, .pointer (some ⟨w.heap.size, 0, none⟩), undef, undef, .slice none 0 0, .pointer (some ⟨w1.heap.size, 0, none⟩), .string x, undef, undef, undef, DV A n c A' m c' f, .int .i64 a, .int .i64 b, .bool true, .bool false, DV A n c A' m c' f, .int .i64 a, .int .i64 b,
      .func (.func 99) #[] #[.pointer (some ⟨w1.heap.size + 2, 0, none⟩), .pointer (some ⟨w1.heap.size + 3, 0, none⟩), .pointer (some ⟨w1.heap.size + 1, 0, none⟩)], .string x, undef, undef, undef, undef, undef, undef, undef, undef, undef, undef, undef, undef, undef], defers := [] }) ?assign ?body ?done ?stop
  case assign =>
    intro l x W K hK
    gi_wp2
    exact hK
  case body =>
    rintro l pre x W ⟨⟨v, hv, hrow, hall⟩, hW4, hB⟩ hlt
    have HV := Lib.hid hv
    have HR := Lib.hid hrow
    have HA := Lib.hid hall
    have HW4 := Lib.hid hW4
    have HB1 := Lib.hid hB
    have hpn : (drainL pre).length ≤ 2000 := by have := drainL_len pre; omega
    have HPN := Lib.hid hpn
    have hlt0 := hv.lt
    have f51 : Fence.wide.fn 105 := trivial
    have hd : 1 ≤ 3 - 1 - 1 := by decide
    have HTP := Lib.hid (fun W => open_any x W)
    have HM := Lib.hid (fun h => drainL_more (L := pre) (x := x) hall h)
    have HE := Lib.hid (fun h => drainL_end (L := pre) (R := []) (x := x) hall h)
    have HWX : Hid (wholeB x = ((openR x).2.2 == 0)) := Lib.hid rfl
    clear hrow hall hW4 hB hpn hv hlt
    generalize openR x = o at *
    obtain ⟨st, bd, er⟩ := o
    dsimp only at HTP HM HE HWX
    by_cases he : er = 0
    · subst he
      have hne : ((0 : Int) != 0) = false := rfl
      have HX := HM.out (by rw [HWX.out]; rfl)
      gi_wp2_with (first | (gi_at_call 105; refine (CallsIn.inRound l (callsIn_wide.2 (HTP.out _))).mono ?_; rintro e w2 ⟨rfl, hb2⟩; have HB2 := Lib.hid hb2; have HV2 : Hid (Boxed w2 w1.heap.size 22 v) := Lib.hid ((hb2.block _ hlt0).trans HV.out); have HR2 := Lib.hid (own_belowS HR.out hb2); have hc2 := HV2.out.cell; have hf2 := HV2.out.frozen; clear hb2) | (gi_at_builtin; refine wpListIn_append_own _ rfl _ _ 22 rfl (w1.heap.size + 4) 9 i0 (.string ByteArray.empty) 1 16 Tryz.underlying22 hi hz0 hz1 hz2 rfl (by decide) _ _ _ rfl (HR2.out.alloc _) ⟨w2.heap.size, 0, none⟩ 1 1 [.string bd] rfl rfl (cell_one_new _ _ _) (by simp [Value.oneCell']) (by have := HPN.out; unfold maxLen; omega) (by have := HPN.out; omega) (by have := HB2.out.size; have := HW4.out; simp; omega) ?_; intro v' w3 hown' hgrow _; obtain ⟨g', cap', rfl⟩ := ownsRow_succ hown'; obtain ⟨hv1, hv2, hr2, hk2, hb3⟩ := appended4 HV2.out (by decide) HR2.out (by have := HB2.out.size; have := HW4.out; omega) hown' hgrow; have HO := Lib.hid (And.intro hv2 (And.intro hr2 (And.intro hk2 hb3))); have hc1 := hv1.cell; have hf1 := hv1.frozen; clear hv1 hv2 hr2 hk2 hb3 hown' hgrow))
      obtain ⟨hv2, hr2, hk2, hb3⟩ := HO.out
      have hkp := (KP.of_below HB2.out (by have := HW4.out; omega) HW4.out).trans hb3
      refine ⟨(keeps_of HB2.out).trans hk2, hkp, ⟨_, hv2, ?_, ?_⟩, Nat.le_trans HW4.out hkp.bel.size, HB1.out.trans (hkp.bel.mono (Nat.le_of_lt hz))⟩
      · rw [HX, SV_append, List.length_append]; exact hr2
      · intro s hs
        rcases List.mem_append.1 hs with h1 | h1
        · exact HA.out s h1
        · rw [List.mem_singleton.1 h1, HWX.out]; rfl
    · have hne : (er != 0) = true := by simpa using he
      have hwx : wholeB x = false := by rw [HWX.out]; simpa using he
      have HX := HE.out hwx
      gi_wp2_with (gi_at_call 105; refine (CallsIn.inRound l (callsIn_wide.2 (HTP.out _))).mono ?_; rintro e w2 ⟨rfl, hb2⟩; have HB2 := Lib.hid hb2; have HV2 : Hid (Boxed w2 w1.heap.size 22 v) := Lib.hid ((hb2.block _ hlt0).trans HV.out); clear hb2)
      refine ⟨keeps_of HB2.out, ⟨v, HV2.out, ?_, rfl, pre, x, rfl, HA.out, hwx⟩, HB1.out.call HB2.out⟩
      rw [HX]
      exact own_belowS HR.out HB2.out
  case done =>
    rintro D ys W hD rfl ⟨⟨v, hv, hrow, hall⟩, hW4, hB⟩ hK
    have hc := hv.cell
    obtain ⟨A0, m0, rfl, hcap⟩ := own_valc hrow
    gi_wp2
    refine ⟨by simp, .inl ⟨_, _, rfl, run_takeDeferred hK, ?_⟩⟩
    exact ⟨_, results_tmp rfl _ _ _, _, _, _, rfl, hcap, (by rw [HL.out]; exact RV.of_own (ownsRow_putObj hrow _ hK rfl)), hB.trans (belowK_b (w := w) (Nat.le_refl _) W D _ _ (by have := HB.out.size; omega) hK rfl rfl)⟩
  case stop =>
    rintro D c pre W hD hpre ⟨⟨v, hv, hrow, rfl, p, x, rfl, hp, hx⟩, hB⟩ hK
    have hc := hv.cell
    obtain ⟨A0, m0, rfl, hcap⟩ := own_valc hrow
    gi_wp2
    refine ⟨by simp, .inl ⟨_, _, rfl, run_takeDeferred hK, ?_⟩⟩
    refine ⟨_, results_tmp rfl _ _ _, _, _, _, rfl, hcap, ?_, hB.trans (belowK_b (w := w) (Nat.le_refl _) W D _ _ (by have := HB.out.size; omega) hK rfl rfl)⟩
    obtain ⟨R, hR⟩ := hpre
    rw [← hR] at HL
    have e1 : drainL (p ++ [x] ++ R) = drainL (p ++ [x]) := by rw [List.append_assoc, List.singleton_append, drainL_end hp hx, drainL_end hp hx]
    rw [HL.out, e1]
    exact RV.of_own (ownsRow_putObj hrow _ hK rfl)

theorem drain_cap (A : Option Addr) (n c : Nat) (A' : Option Addr) (m c' : Nat) (f : Int) (S : List ByteArray) (V : List Wr) (p q : Int) (w : World) (hD : Dev w A n c A' m c' f S V) :
    Calls Tryz.prog 67 #[DV A n c A' m c' f, .int .i64 p, .int .i64 q] w (RetTC w (drainD S V f p q)) := by
  unfold drainD
  by_cases h : okS S V f p q = true
  · rw [if_pos h]
    obtain ⟨-, h2, h3, -⟩ := okS_yes h
    obtain ⟨a, rfl⟩ := Int.eq_ofNat_of_zero_le h2
    obtain ⟨b, rfl⟩ := Int.eq_ofNat_of_zero_le (show 0 ≤ q by omega)
    exact drain_yes A n c A' m c' f S V a b w hD h
  · rw [if_neg h]
    exact drain_no A n c A' m c' f S V p q w hD (by simpa using h)
theorem drain_any (A : Option Addr) (n c : Nat) (A' : Option Addr) (m c' : Nat) (f : Int) (S : List ByteArray) (V : List Wr) (p q : Int) (w : World) (hD : Dev w A n c A' m c' f S V) :
    Calls Tryz.prog 67 #[DV A n c A' m c' f, .int .i64 p, .int .i64 q] w (RetT w (drainD S V f p q)) :=
  (drain_cap A n c A' m c' f S V p q w hD).mono fun _ _ ⟨B, k, d, h1, _, h3, h4⟩ => ⟨B, k, d, h1, h3, h4⟩

end Go.Proofs.YtkglolnghihegaaGreatDoor.Slt
