/- Contracts of Own and Back of errandlaw03. -/
import Derived.Test.YtkglolnghihegaaGreatDoorDskR
import Derived.Test.YtkglolnghihegaaGreatDoorDiskNew
import Derived.Test.YtkglolnghihegaaGreatDoorDskB
import Derived.Deep.RegionLaw
namespace Go.Proofs.YtkglolnghihegaaGreatDoor.Dsk
open Go.RowKit

theorem own_apart {w : World} {base base' e e' k k' n n' : Nat} {v v' : Value} {xs ys : List Value} (h : w.ownsRow base e k v n xs) (h' : w.ownsRow base' e' k' v' n' ys) (hne : e ≠ e') : v.ownBlock = none ∨ v.ownBlock ≠ v'.ownBlock := by
  rcases h.2 with ⟨rfl, _⟩ | ⟨g, cap, cur, rfl, _, hg, _⟩
  · exact .inl rfl
  · rcases h'.2 with ⟨rfl, _⟩ | ⟨g', cap', cur', rfl, _, hg', _⟩
    · exact .inr (by simp [Value.ownBlock])
    · refine .inr (fun e1 => ?_)
      simp only [Value.ownBlock, Option.some.injEq] at e1
      subst e1
      rw [hg] at hg'
      injection hg' with hg'
      injection hg' with _ ht
      exact hne ht

/-- What is kept from write to write: x is what is made. -/
structure OwnK (w wr : World) (x y z : Value) (v1 : Value) (v2 : Value) (f : Int) (e k : Nat) (W : List Wr) : Prop where
  bel : Below w.heap.size w wr
  st : Box wr w.heap.size x y z
  res : Box wr (w.heap.size + 1) (.slice none 0 0) (.slice none 0 0) (.int .i64 0)
  nsr : NoStr wr (w.heap.size + 1)
  box : Box wr (w.heap.size + 2) v1 v2 (.int .i64 f)
  own : wr.ownsRow (w.heap.size + 3) e 2 v2 k (WV (W.take k))
theorem OwnK.step {w wr wx w' : World} {x y z v1 v2 v' : Value} {f : Int} {e k : Nat} {W : List Wr} (h : OwnK w wr x y z v1 v2 f e k W) (hk : k < W.length) (hb : Below wr.heap.size wr wx) (hown : w'.ownsRow (w.heap.size + 3) e 2 v' (k + 1) (WV (W.take k) ++ WV [W[k]])) (hg : wx.grownBy w' v2.ownBlock) :
    OwnK w (w'.setCell ⟨w.heap.size + 2, 1, none⟩ v') x y z v1 v' f e (k + 1) W := by
  have hl : ∀ g, v2.ownBlock = some g → w.heap.size + 3 ≤ g := base_of_own h.own
  have b0 := (h.st.call hb).of_block (hg.block _ (h.st.call hb).lt (fun e => by have := hl _ e.symm; omega))
  have b1 := (h.res.call hb).of_block (hg.block _ (h.res.call hb).lt (fun e => by have := hl _ e.symm; omega))
  have b1n := (h.nsr.call hb h.res.lt).of_block (hg.block _ (h.res.call hb).lt (fun e => by have := hl _ e.symm; omega))
  have b2 := (h.box.call hb).of_block (hg.block _ (h.box.call hb).lt (fun e => by have := hl _ e.symm; omega))
  have bb := (h.bel.call hb).grown hg (h.bel.call hb).size (fun g hg => by have := hl g hg; omega)
  refine ⟨bb.setCell (by simp) _, b0.far (by simp) _, b1.far (by simp) _, b1n.of_block (Below.heap_setCell _ _ _ _ (by simp)), ?_, ?_⟩
  · obtain ⟨c0, c1, c2, f0, f1, f2⟩ := b2
    constructor <;> simp [go_sem, *]
  · rw [← WV_append, ← List.take_succ_eq_append_getElem hk] at hown
    exact ownsRow_setCell_below hown (by simp) _

set_option maxRecDepth 100000 in
set_option maxHeartbeats 1000000 in
theorem back_any (A : Option Addr) (n c : Nat) (A' : Option Addr) (m c' : Nat) (f : Int) (S : List ByteArray) (W : List Wr) (w : World) (hD : Dev w A n c A' m c' f S W) :
    Calls Tryz.prog 43 #[DV A n c A' m c' f] w (RetD w S W f) := by
  have HD := Lib.hid hD
  have HW := Lib.hid hD.wr.wr
  have hm : (m : Int) ≤ 2000 := by have := hD.wr.wr; have := hD.nw; omega
  have HM := Lib.hid (show m ≤ 2000 by omega)
  clear hD
  have HK0 : Hid (OwnK w (((w.alloc (D33 A n c A' m c' f)).alloc (D25 none 0 0 none 0 0 0)).alloc (D25 A n c none 0 0 f)) (.slice A n c) (.slice A' m c') (.int .i64 f) (.slice A n c) (.slice none 0 0) f 85 0 W) := by
    have h1 := (Box.new (w.alloc (D33 A n c A' m c' f)) (.slice none 0 0) (.slice none 0 0) (.int .i64 0) 25).alloc (D25 A n c none 0 0 f)
    have h1n := ((St.new (w.alloc (D33 A n c A' m c' f)) none 0 0 none 0 0 0 25).alloc (D25 A n c none 0 0 f)).ns
    have h2 := Box.new ((w.alloc (D33 A n c A' m c' f)).alloc (D25 none 0 0 none 0 0 0)) (.slice A n c) (.slice none 0 0) (.int .i64 f) 25
    rw [World.size_alloc] at h1 h1n
    rw [World.size_alloc, World.size_alloc] at h2
    exact ⟨((new1 w _).push _).push _, ((Box.new w _ _ _ _).alloc _).alloc _, h1, h1n, h2, World.ownsRow_nil _ _ _ _⟩
  go_enter Tryz.func43, Tryz.ntmps43
  go_wp2_with fail
  generalize ((w.alloc (D33 A n c A' m c' f)).alloc (D25 none 0 0 none 0 0 0)).alloc (D25 A n c none 0 0 f) = w0 at *
  go_loopw [4] (fun i wr => ∃ (k : Nat) (v : Value), k ≤ m ∧ i = .int .i64 k ∧ Hid (OwnK w wr (.slice A n c) (.slice A' m c') (.int .i64 f) (.slice A n c) v f 85 k W)) (fun i _ => m - (intOf i).toNat)
  case atStart => exact ⟨0, _, Nat.zero_le _, rfl, HK0.out⟩
  case round =>
    obtain ⟨k, v, hk, rfl, HK⟩ := hrel
    obtain ⟨av, capv, rfl⟩ := own_val HK.out.own
    obtain ⟨c0, c1, c2, f0, f1, f2⟩ := HK.out.st
    obtain ⟨x0, x1, x2, y0, y1, y2⟩ := HK.out.box
    have hzz : w.heap.size + 2 < wr.heap.size := HK.out.box.lt
    have hz0 : w.heap.size < wr.heap.size := by omega
    by_cases hlt : k < m
    · have hl : k < W.length := by have := HW.out; omega
      obtain ⟨b, off, rfl, hb, hc0, hc1⟩ := (HD.out.wr.below HK.out.bel).wrAt hlt hl
      have HStep := Lib.hid (fun wx w' v' hb ho hg => HK.out.step (wx := wx) (w' := w') (v' := v') hl hb ho hg)
      generalize W[k] = x at *
      obtain ⟨p, s⟩ := x
      dsimp only at hc0 hc1
      have hb5 := (new1 wr (.cells #[.int .i64 p, .string s] 85))
      obtain ⟨v', w', hap, hown, hgr, -⟩ := append_rv (P := Tryz.prog) (w := (wr.alloc (.cells #[.int .i64 p, .string s] 85)).drew) (ty := 23) Tryz.underlying23 info27 rfl (by omega) (HK.out.own.alloc _) 1 ((Blk.new wr 85 #[.int .i64 p, .string s]).rv (n := 1) (k := 2) (vs := WV [(p, s)]) rfl) (WV_one _) (by have := HM.out; omega) (by omega) (by have := HK.out.box.lt; simp; omega)
      obtain ⟨av', capv', rfl⟩ := own_val hown
      have HAP := Lib.hid hap
      have HST := Lib.hid (HStep.out _ _ _ hb5.drew hown hgr)
      obtain ⟨q0, q1, q2, t0, t1, t2⟩ := ((HK.out.box.call hb5.drew).of_block (hgr.block _ (HK.out.box.call hb5.drew).lt (fun e => by have := base_of_own HK.out.own _ e.symm; omega)))
      have i1 : (k : Int) < (m : Int) := by omega
      clear hap hown hgr HStep hl hb5
      go_wp2_with fail
      go_region_law (refine step_append_run rfl (.tmp 18) (.tmp 24) 23 23 rfl _ _ rfl rfl _ w' HAP.out ?_)
      all_goals
        go_wp2
        go_roundw
        case rel => exact ⟨k + 1, _, by omega, by go_num, HST.out⟩
        case measure => simp [intOf]; omega
    · obtain rfl : m = k := by omega
      have hWk : W.take m = W := List.take_of_length_le (by have := HW.out; omega)
      have HO := Lib.hid HK.out.own
      rw [hWk] at HO
      clear hWk
      obtain ⟨z0, z1, z2, v0, v1, v2⟩ := HK.out.res
      go_wp2
      have hg5 := grown_set3 wr (w.heap.size + 1) (.slice A n c) (.slice av m capv) (.int .i64 f)
      have hB5 := HK.out.bel.grown hg5 HK.out.bel.size (by simp)
      have hD5 := (HD.out.below HK.out.bel).only HK.out.nsr hg5
      have hO5 := HO.out.kept (row := some (w.heap.size + 1)) hg5 (.inr (by intro e; have := (HO.out.lt _ e).1; omega))
      exact bodyPost_ret (v := DV A n c av m capv f) (by simp [results, Tryz.results43, go_sem, *]) rfl ⟨A, n, c, av, m, capv, rfl, ⟨hD5.sec, RV.of_own hO5, HD.out.lo, HD.out.hi, HD.out.ns, HD.out.nw⟩, hB5⟩

set_option maxRecDepth 100000 in
set_option maxHeartbeats 1000000 in
theorem own_any (A : Option Addr) (n c : Nat) (A' : Option Addr) (m c' : Nat) (f : Int) (S : List ByteArray) (W : List Wr) (w : World) (hD : Dev w A n c A' m c' f S W) :
    Calls Tryz.prog 9 #[DV A n c A' m c' f] w (RetD w S W f) := by
  have HD := Lib.hid hD
  have HW := Lib.hid hD.wr.wr
  have hm : (m : Int) ≤ 2000 := by have := hD.wr.wr; have := hD.nw; omega
  have HM := Lib.hid (show m ≤ 2000 by omega)
  have hns : n ≤ 2000 := by have := hD.sec.sec; have := hD.ns; omega
  have hb0 := (((new1 w (D25 A n c A' m c' f)).push (D33 none 0 0 none 0 0 0)).push (D33 none 0 0 none 0 0 f))
  obtain ⟨v1, w1, hap1, hown1, hgr1, -⟩ := append_rv (P := Tryz.prog) (ty := 22) Tryz.underlying22 info9 rfl (by omega) (World.ownsRow_nil (((w.alloc (D25 A n c A' m c' f)).alloc (D33 none 0 0 none 0 0 0)).alloc (D33 none 0 0 none 0 0 f)) (w.heap.size + 3) 9 1) c (hD.sec.below hb0) (SV_one S) (by omega) (by omega) (by simp)
  obtain ⟨a1, cap1, rfl⟩ := own_val hown1
  rw [Nat.zero_add] at hap1 hown1
  rw [List.nil_append] at hown1
  have HAP1 := Lib.hid hap1
  have HBx : Hid (Box w1 w.heap.size (.slice A n c) (.slice A' m c') (.int .i64 f) ∧ Box w1 (w.heap.size + 2) (.slice none 0 0) (.slice none 0 0) (.int .i64 f)) := by
    have h2 := Box.new ((w.alloc (D25 A n c A' m c' f)).alloc (D33 none 0 0 none 0 0 0)) (.slice none 0 0) (.slice none 0 0) (.int .i64 f) 29
    rw [World.size_alloc, World.size_alloc] at h2
    exact ⟨(((Box.new w _ _ _ _).alloc _).alloc _).of_block (hgr1.block _ (by simp; omega) (by simp [Value.ownBlock])), h2.of_block (hgr1.block _ (by simp) (by simp [Value.ownBlock]))⟩
  have HK0 : Hid (OwnK w (w1.setCell ⟨w.heap.size + 2, 0, none⟩ (.slice a1 n cap1)) (.slice A n c) (.slice A' m c') (.int .i64 f) (.slice a1 n cap1) (.slice none 0 0) f 84 0 W ∧ (w1.setCell ⟨w.heap.size + 2, 0, none⟩ (.slice a1 n cap1)).ownsRow (w.heap.size + 3) 9 1 (.slice a1 n cap1) n (SV S)) := by
    have h1 := (Box.new (w.alloc (D25 A n c A' m c' f)) (.slice none 0 0) (.slice none 0 0) (.int .i64 0) 29).alloc (D33 none 0 0 none 0 0 f)
    have h1n := ((St.new (w.alloc (D25 A n c A' m c' f)) none 0 0 none 0 0 0 29).alloc (D33 none 0 0 none 0 0 f)).ns
    rw [World.size_alloc] at h1 h1n
    have k1 := h1.of_block (hgr1.block _ (by simp) (by simp [Value.ownBlock]))
    have k1n := h1n.of_block (hgr1.block _ (by simp) (by simp [Value.ownBlock]))
    have hbb := hb0.grown hgr1 (by simp; omega) (by simp [Value.ownBlock])
    refine ⟨⟨hbb.setCell (by simp) _, HBx.out.1.far (by simp) _, k1.far (by simp) _, k1n.of_block (Below.heap_setCell _ _ _ _ (by simp)), ?_, World.ownsRow_nil _ _ _ _⟩, ownsRow_setCell_below hown1 (by simp) _⟩
    obtain ⟨c0, c1, c2, f0, f1, f2⟩ := HBx.out.2
    constructor <;> simp [go_sem, *]
  obtain ⟨c0, c1, c2, f0, f1, f2⟩ := HBx.out.1
  obtain ⟨x0, x1, x2, y0, y1, y2⟩ := HBx.out.2
  clear hD hap1 hown1 hgr1 hb0 hns
  go_enter Tryz.func9, Tryz.ntmps9
  go_wp2_with (at_builtin; refine wpList_append_run rfl (.tmp 9) (.tmp 11) 22 22 rfl _ _ rfl rfl _ w1 HAP1.out ?_)
  clear c0 c1 c2 f0 f1 f2 x0 x1 x2 y0 y1 y2 HBx
  generalize w1.setCell ⟨w.heap.size + 2, 0, none⟩ (Value.slice a1 n cap1) = w0 at *
  go_loopw [4] (fun i wr => ∃ (k : Nat) (v : Value), k ≤ m ∧ i = .int .i64 k ∧ Hid (OwnK w wr (.slice A n c) (.slice A' m c') (.int .i64 f) (.slice a1 n cap1) v f 84 k W ∧ wr.ownsRow (w.heap.size + 3) 9 1 (.slice a1 n cap1) n (SV S))) (fun i _ => m - (intOf i).toNat)
  case atStart => exact ⟨0, _, Nat.zero_le _, rfl, HK0.out⟩
  case round =>
    obtain ⟨k, v, hk, rfl, HKK⟩ := hrel
    have HK := Lib.hid HKK.out.1
    have HOS := Lib.hid HKK.out.2
    obtain ⟨av, capv, rfl⟩ := own_val HK.out.own
    obtain ⟨c0, c1, c2, f0, f1, f2⟩ := HK.out.st
    obtain ⟨x0, x1, x2, y0, y1, y2⟩ := HK.out.box
    have hzz : w.heap.size + 2 < wr.heap.size := HK.out.box.lt
    have hz0 : w.heap.size < wr.heap.size := by omega
    clear HKK
    by_cases hlt : k < m
    · have hl : k < W.length := by have := HW.out; omega
      obtain ⟨b, off, rfl, hb, hc0, hc1⟩ := (HD.out.wr.below HK.out.bel).wrAt hlt hl
      have HStep := Lib.hid (fun wx w' v' hb ho hg => HK.out.step (wx := wx) (w' := w') (v' := v') hl hb ho hg)
      generalize W[k] = x at *
      obtain ⟨p, s⟩ := x
      dsimp only at hc0 hc1
      have hb5 := (new1 wr (.cells #[.int .i64 p, .string s] 84))
      obtain ⟨v', w', hap, hown, hgr, -⟩ := append_rv (P := Tryz.prog) (w := (wr.alloc (.cells #[.int .i64 p, .string s] 84)).drew) (ty := 27) Tryz.underlying27 info72 rfl (by omega) (HK.out.own.alloc _) 1 ((Blk.new wr 84 #[.int .i64 p, .string s]).rv (n := 1) (k := 2) (vs := WV [(p, s)]) rfl) (WV_one _) (by have := HM.out; omega) (by omega) (by have := HK.out.box.lt; simp; omega)
      obtain ⟨av', capv', rfl⟩ := own_val hown
      have HAP := Lib.hid hap
      have HST := Lib.hid (HStep.out _ _ _ hb5.drew hown hgr)
      have hos1 : (wr.alloc (.cells #[.int .i64 p, .string s] 84)).drew.ownsRow (w.heap.size + 3) 9 1 (.slice a1 n cap1) n (SV S) := HOS.out.alloc _
      have HOS2 := Lib.hid (ownsRow_setCell_below (hos1.kept hgr (own_apart HOS.out HK.out.own (by decide))) (a := ⟨w.heap.size + 2, 1, none⟩) (by simp) (.slice av' (k + 1) capv'))
      obtain ⟨q0, q1, q2, t0, t1, t2⟩ := ((HK.out.box.call hb5.drew).of_block (hgr.block _ (HK.out.box.call hb5.drew).lt (fun e => by have := base_of_own HK.out.own _ e.symm; omega)))
      have i1 : (k : Int) < (m : Int) := by omega
      clear hap hown hgr HStep hl hb5 hos1
      go_wp2_with fail
      go_region_law (refine step_append_run rfl (.tmp 22) (.tmp 28) 27 27 rfl _ _ rfl rfl _ w' HAP.out ?_)
      all_goals
        go_wp2
        go_roundw
        case rel => exact ⟨k + 1, _, by omega, by go_num, HST.out, HOS2.out⟩
        case measure => simp [intOf]; omega
    · obtain rfl : m = k := by omega
      have hWk : W.take m = W := List.take_of_length_le (by have := HW.out; omega)
      have HO := Lib.hid HK.out.own
      rw [hWk] at HO
      clear hWk
      obtain ⟨z0, z1, z2, v0, v1, v2⟩ := HK.out.res
      go_wp2
      have hg5 := grown_set3 wr (w.heap.size + 1) (.slice a1 n cap1) (.slice av m capv) (.int .i64 f)
      have hB5 := HK.out.bel.grown hg5 HK.out.bel.size (by simp)
      have hO5 := HO.out.kept (row := some (w.heap.size + 1)) hg5 (.inr (by intro e; have := (HO.out.lt _ e).1; omega))
      have hO6 := HOS.out.kept (row := some (w.heap.size + 1)) hg5 (.inr (by intro e; have := (HOS.out.lt _ e).1; omega))
      exact bodyPost_ret (v := DV a1 n cap1 av m capv f) (by simp [results, Tryz.results9, go_sem, *]) rfl ⟨a1, n, cap1, av, m, capv, rfl, ⟨RV.of_own hO6, RV.of_own hO5, HD.out.lo, HD.out.hi, HD.out.ns, HD.out.nw⟩, hB5⟩

end Go.Proofs.YtkglolnghihegaaGreatDoor.Dsk
