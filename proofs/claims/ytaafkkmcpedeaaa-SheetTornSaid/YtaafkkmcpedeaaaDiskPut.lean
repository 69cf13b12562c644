/- Contracts of Put of package disk. -/
import Derived.Test.YtaafkkmcpedeaaaDiskRead
import Derived.Test.YtaafkkmcpedeaaaDiskBlk
import Derived.Deep.RegionHeld3
import Derived.Deep.DeepCutAuto
namespace Go.Proofs.Ytaafkkmcpedeaaa.Dsk
open Go.RowKit

theorem size72 : (Try.prog.info? 65).map (·.size) = some 2 := by kernel_rfl

/-- What is answered: a device. -/
def RetD (w : World) (S : List ByteArray) (W : List Wr) (f : Int) (r : Ending) (w' : World) : Prop :=
  ∃ A n c A' m c', r = .returned (DV A n c A' m c' f) ∧ Dev w' A n c A' m c' f S W ∧ Below w.heap.size w w'
/-- What is answered: a device, and an error. -/
def RetDE (w : World) (S : List ByteArray) (W : List Wr) (f e : Int) (r : Ending) (w' : World) : Prop :=
  ∃ A n c A' m c', r = .returned (.tuple #[DV A n c A' m c' f, .int .i64 e]) ∧ Dev w' A n c A' m c' f S W ∧ Below w.heap.size w w'

theorem put_no (A : Option Addr) (n c : Nat) (A' : Option Addr) (m c' : Nat) (f : Int) (S : List ByteArray) (W : List Wr) (p : Int) (s : ByteArray) (w : World) (hD : Dev w A n c A' m c' f S W) (h : ¬ putE S W f p s = 0) :
    Calls Try.prog 18 #[DV A n c A' m c' f, .int .i64 p, .string s] w (RetDE w S W f (putE S W f p s)) := by
  have HC := Lib.hid (mayPut_any A n c A' m c' f S W p s _ ((hD.new (D33 A n c A' m c' f)).new (D33 none 0 0 none 0 0 0)))
  have HD := Lib.hid hD
  have hne := neq0 h
  generalize putE S W f p s = e0 at *
  clear hD h
  go_enter Try.func18, Try.ntmps18
  go_wp2_with fail
  refine HC.out.mono ?_
  rintro e w1 ⟨rfl, hb1⟩
  have HB := Lib.hid (((new1 w _).push _).call hb1)
  obtain ⟨hc, hf⟩ := bcell hb1
  clear hb1
  go_wp2
  have HB3 := ((HB.out.setCell (p := ⟨w.heap.size + 1, 0, none⟩) (by simp) (.slice A n c)).setCell (p := ⟨w.heap.size + 1, 1, none⟩) (by simp) (.slice A' m c')).setCell (p := ⟨w.heap.size + 1, 2, none⟩) (by simp) (.int .i64 f)
  refine bodyPost_ret (v := .tuple #[DV A n c A' m c' f, .int .i64 e0]) (by simp [results, Try.results18, go_sem, hc]) rfl ⟨A, n, c, A', m, c', rfl, HD.out.below HB3, HB3⟩

theorem own_val {w : World} {base e k n : Nat} {v : Value} {xs : List Value} (h : w.ownsRow base e k v n xs) : ∃ a cap, v = .slice a n cap := by
  rcases h.2 with ⟨rfl, rfl⟩ | ⟨g, cap, cur, rfl, _⟩
  · exact ⟨none, 0, rfl⟩
  · exact ⟨_, cap, rfl⟩
theorem set_last2 (l r : List Value) (x y : Value) (h : r.length = 2) : ((l ++ r).set l.length x).set (l.length + 1) y = l ++ [x, y] := by
  match r, h with
  | [a, b], _ => simp

set_option maxRecDepth 100000 in
set_option maxHeartbeats 1000000 in
theorem put_yes (A : Option Addr) (n c : Nat) (A' : Option Addr) (m c' : Nat) (f : Int) (S : List ByteArray) (W : List Wr) (p : Int) (s : ByteArray) (w : World) (hD : Dev w A n c A' m c' f S W) (h : putE S W f p s = 0) :
    Calls Try.prog 18 #[DV A n c A' m c' f, .int .i64 p, .string s] w (RetDE w S (W ++ [(p, s)]) (burnt f) 0) := by
  have hc := mayPut_any A n c A' m c' f S W p s _ ((hD.new (D33 A n c A' m c' f)).new (D33 none 0 0 none 0 0 0))
  rw [h] at hc
  have HC := Lib.hid hc
  have hm : (m : Int) ≤ 2000 := by have := hD.wr.wr; have := hD.nw; omega
  have hmn : m ≤ 2000 := by omega
  have HD := Lib.hid hD
  have HW := Lib.hid hD.wr.wr
  have HM := Lib.hid (putE_ok h).2.2.2.2.2
  have hmk : ∀ w, (Instr.makeSlice 40 (.int .i64 ((m : Int) + 1)) (.int .i64 ((m : Int) + 1))).run Try.prog w = .ok (.slice (some ⟨w.heap.size, 0, none⟩) (m + 1) (m + 1)) (w.alloc (.cells (madeCells #[.int .i64 0, .string ByteArray.empty] ((m + 1) * 2)) 65)) := fun w => by
    obtain ⟨i, hi, hz⟩ := Option.map_eq_some_iff.1 info72
    simp only [Prod.mk.injEq] at hz
    obtain ⟨hz1, hz2, hz3⟩ := hz
    have := run_make_rowN (P := Try.prog) 40 65 i _ Try.underlying40 hi hz1 .i64 .i64 (m + 1) (m + 1) (Nat.le_refl _) (by rw [hz3]; omega) (by omega) w
    rw [hz2] at this
    exact_mod_cast this
  clear hD h hc
  go_enter Try.func18, Try.ntmps18
  go_wp2_with fail
  refine HC.out.mono ?_
  rintro e w1 ⟨rfl, hb1⟩
  have HB := Lib.hid (((new1 w _).push _).call hb1)
  have HX := Lib.hid (((Box.new w (.slice A n c) (.slice A' m c') (.int .i64 f) 42).alloc (D33 none 0 0 none 0 0 0)).call hb1)
  have HY := Lib.hid (by have := (Box.new (w.alloc (D33 A n c A' m c' f)) (.slice none 0 0) (.slice none 0 0) (.int .i64 0) 42).call hb1; rwa [World.size_alloc] at this)
  have hzz : w.heap.size + 1 < w1.heap.size := HY.out.lt
  have hz0 : w.heap.size < w1.heap.size := by omega
  obtain ⟨hc, hf⟩ := bcell hb1
  clear hb1
  obtain ⟨w2, hcp, hblk, hgr⟩ := copy_rv (P := Try.prog) (dT := 40) (sT := 40) (ty := 3) (n := m + 1) (cap := m + 1) (c := c') Try.underlying40 size72 (Blk.new w1 65 (madeCells #[.int .i64 0, .string ByteArray.empty] ((m + 1) * 2))) (size_made _ _) ((HD.out.wr.below HB.out).below (new1 w1 _)) (WV_one W) (by omega)
  have HCP := Lib.hid hcp
  have hgs := hgr.size
  rw [World.size_alloc] at hgs
  have X2 := (HX.out.alloc (.cells (madeCells #[.int .i64 0, .string ByteArray.empty] ((m + 1) * 2)) 65)).of_block (hgr.block _ (by rw [World.size_alloc]; omega) (by simp; omega))
  have Y2 := (HY.out.alloc (.cells (madeCells #[.int .i64 0, .string ByteArray.empty] ((m + 1) * 2)) 65)).of_block (hgr.block _ (by rw [World.size_alloc]; omega) (by simp; omega))
  have HX2 := Lib.hid X2
  have HY2 := Lib.hid Y2
  have HB2 := Lib.hid (((HB.out.push (.cells (madeCells #[.int .i64 0, .string ByteArray.empty] ((m + 1) * 2)) 65))).grown hgr (by rw [World.size_alloc]; omega) (by simp; omega))
  obtain ⟨c0, c1, c2, f0, f1, f2⟩ := X2
  have hLl : (WV W ++ (madeCells #[Value.int .i64 0, Value.string ByteArray.empty] ((m + 1) * 2)).toList.drop (WV W).length).length = m * 2 + 2 := by
    rw [List.length_append, List.length_drop, size_made, WV_length, HW.out]; omega
  have t0 := hblk.cell (i := m * 2) (by rw [hLl]; omega)
  have t1 := hblk.cell (i := m * 2 + 1) (by rw [hLl]; omega)
  have t2 := hblk.frozen (m * 2)
  have t3 := hblk.frozen (m * 2 + 1)
  generalize (WV W ++ (madeCells #[Value.int .i64 0, Value.string ByteArray.empty] ((m + 1) * 2)).toList.drop (WV W).length)[m * 2]'(by rw [hLl]; omega) = o0 at t0
  generalize (WV W ++ (madeCells #[Value.int .i64 0, Value.string ByteArray.empty] ((m + 1) * 2)).toList.drop (WV W).length)[m * 2 + 1]'(by rw [hLl]; omega) = o1 at t1
  have HBL := Lib.hid hblk
  have HLL := Lib.hid hLl
  clear hcp hblk hgr hmn Y2 hLl
  go_wp2_with (((with_reducible refine wpList_copy_run (o := ⟨some 26, _, _, _, _, _⟩) rfl (.tmp 23) (.tmp 25) 40 40 rfl _ _ rfl rfl (.int .i64 m) w2 ?_ ?_); (exact HCP.out)))
  have hX3 := (HX2.out.far (p := ⟨w1.heap.size, m * 2, none⟩) (by simp; omega) (.int .i64 p)).far (p := ⟨w1.heap.size, m * 2 + 1, none⟩) (by simp; omega) (.string s)
  have hY3 := (HY2.out.far (p := ⟨w1.heap.size, m * 2, none⟩) (by simp; omega) (.int .i64 p)).far (p := ⟨w1.heap.size, m * 2 + 1, none⟩) (by simp; omega) (.string s)
  have hL3 := (HBL.out.set_ (m * 2) (.int .i64 p)).set_ (m * 2 + 1) (.string s)
  have hml : m * 2 = (WV W).length := by rw [WV_length, HW.out]
  rw [hml, set_last2 _ _ _ _ (by have := HLL.out; rw [List.length_append] at this; omega), ← hml, show WV W ++ [Value.int .i64 p, Value.string s] = WV (W ++ [(p, s)]) by rw [WV_append]; rfl] at hL3
  have hB3 := (HB2.out.setCell (p := ⟨w1.heap.size, m * 2, none⟩) (by simp; omega) (.int .i64 p)).setCell (p := ⟨w1.heap.size, m * 2 + 1, none⟩) (by simp; omega) (.string s)
  generalize ((w2.setCell ⟨w1.heap.size, m * 2, none⟩ (Value.int .i64 p)).setCell ⟨w1.heap.size, m * 2 + 1, none⟩ (Value.string s)) = w3 at *
  have HL3 := Lib.hid hL3
  have HB3 := Lib.hid hB3
  have HY3 := Lib.hid hY3
  have HT := Lib.hid (fun W hb => clone_any A n c S W ((HD.out.sec.below hB3).below hb) (by have := HD.out.sec.sec; have := HD.out.ns; omega))
  have HU := Lib.hid (fun W => burnt_any f W HD.out.lo HD.out.hi)
  have hz3 : w.heap.size + 1 < w3.heap.size := hY3.lt
  obtain ⟨x0, x1, x2, y0, y1, y2⟩ := hX3
  clear c0 c1 c2 f0 f1 f2 t0 t1 t2 t3 HX2 HY2 HB2 HBL HLL HX HY HB hc hf hL3 hB3 hY3 hml HC
  go_region_held3 (fun W => W.cell? ⟨w.heap.size, 0, none⟩ = some (.slice A n c) ∧ W.cell? ⟨w.heap.size, 2, none⟩ = some (.int .i64 f)) (go_keep)
    (first
      | (go_at_call 31; ((with_reducible refine (HT.out _ (Below.refl _ _).drew).mono ?_)); rintro r w4 ⟨v, rfl, hown, hb4⟩; obtain ⟨a4, cap4, rfl⟩ := own_val hown; obtain ⟨hc, hf⟩ := bcell hb4; have q0 : w4.cell? ⟨w.heap.size, 0, none⟩ = some (.slice A n c) := (by rw [hc _ _ (by simp; omega)]; simp [*]); have q2 : w4.cell? ⟨w.heap.size, 2, none⟩ = some (.int .i64 f) := (by rw [hc _ _ (by simp; omega)]; simp [*]); have Y4 := Lib.hid (HY3.out.call (undrew hb4)); obtain ⟨z0, z1, z2, v0, v1, v2⟩ := Y4.out; have HO := Lib.hid hown; have HB4 := Lib.hid hb4; clear hc hf hown hb4)
      | (go_at_call 32; ((with_reducible refine (HU.out _).mono ?_)); rintro r w5 ⟨rfl, rfl⟩))
  go_wp2_with fail
  have HB5 := ((HB3.out.call (undrew HB4.out)).setCell (p := ⟨w.heap.size + 1, 0, none⟩) (by simp) (.slice a4 n cap4)).setCell (p := ⟨w.heap.size + 1, 1, none⟩) (by simp) (.slice (some ⟨w1.heap.size, 0, none⟩) (m + 1) (m + 1))
  have HB6 := HB5.setCell (p := ⟨w.heap.size + 1, 2, none⟩) (by simp) (.int .i64 (burnt f))
  have O5 := ownsRow_setCell_below HO.out (a := ⟨w.heap.size + 1, 0, none⟩) (by simp; omega) (.slice a4 n cap4)
  have O6 := ownsRow_setCell_below O5 (a := ⟨w.heap.size + 1, 1, none⟩) (by simp; omega) (.slice (some ⟨w1.heap.size, 0, none⟩) (m + 1) (m + 1))
  have O7 := ownsRow_setCell_below O6 (a := ⟨w.heap.size + 1, 2, none⟩) (by simp; omega) (.int .i64 (burnt f))
  have L7 := (((HL3.out.call (undrew HB4.out)).far (p := ⟨w.heap.size + 1, 0, none⟩) (by simp; omega) (.slice a4 n cap4)).far (p := ⟨w.heap.size + 1, 1, none⟩) (by simp; omega) (.slice (some ⟨w1.heap.size, 0, none⟩) (m + 1) (m + 1))).far (p := ⟨w.heap.size + 1, 2, none⟩) (by simp; omega) (.int .i64 (burnt f))
  refine bodyPost_ret (v := .tuple #[DV a4 n cap4 (some ⟨w1.heap.size, 0, none⟩) (m + 1) (m + 1) (burnt f), .int .i64 0]) (by simp [results, Try.results18, go_sem, z0, z1, z2]) rfl ⟨a4, n, cap4, _, m + 1, m + 1, rfl, ⟨RV.of_own O7, L7.rv (by rw [WV_length, List.length_append, HW.out]; rfl), burnt_lo HD.out.lo, burnt_hi HD.out.hi, HD.out.ns, ?_⟩, HB6⟩
  have := HM.out
  rw [List.length_append]
  simp
  omega

theorem put_any (A : Option Addr) (n c : Nat) (A' : Option Addr) (m c' : Nat) (f : Int) (S : List ByteArray) (W : List Wr) (p : Int) (s : ByteArray) (w : World) (hD : Dev w A n c A' m c' f S W) :
    Calls Try.prog 18 #[DV A n c A' m c' f, .int .i64 p, .string s] w (RetDE w S (if putE S W f p s = 0 then W ++ [(p, s)] else W) (if putE S W f p s = 0 then burnt f else f) (putE S W f p s)) := by
  by_cases h : putE S W f p s = 0
  · rw [if_pos h, if_pos h, h]; exact put_yes A n c A' m c' f S W p s w hD h
  · rw [if_neg h, if_neg h]; exact put_no A n c A' m c' f S W p s w hD h

end Go.Proofs.Ytaafkkmcpedeaaa.Dsk
