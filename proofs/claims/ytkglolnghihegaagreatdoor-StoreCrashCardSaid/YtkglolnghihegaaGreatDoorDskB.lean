import Derived.Test.YtkglolnghihegaaGreatDoorDskA
import Derived.Deep.RegionHeld3
import Derived.Deep.DeepCutAuto
import Derived.RegionTactic
import Derived.ChangeAlike

/- Contracts of Put of package disk. -/
namespace Go.Proofs.YtkglolnghihegaaGreatDoor.Dsk
open Go.RowKit

theorem size72 : (Tryz.prog.info? 84).map (·.size) = some 2 := by kernel_rfl

/-- What is answered: a device. -/
def RetD (w : World) (S : List ByteArray) (W : List Wr) (f : Int) (r : Ending) (w' : World) : Prop :=
  ∃ A n c A' m c', r = .returned (DV A n c A' m c' f) ∧ Dev w' A n c A' m c' f S W ∧ Below w.heap.size w w'
/-- What is answered: a device, and an error. -/
def RetDE (w : World) (S : List ByteArray) (W : List Wr) (f e : Int) (r : Ending) (w' : World) : Prop :=
  ∃ A n c A' m c', r = .returned (.tuple #[DV A n c A' m c' f, .int .i64 e]) ∧ Dev w' A n c A' m c' f S W ∧ Below w.heap.size w w'

theorem put_no (A : Option Addr) (n c : Nat) (A' : Option Addr) (m c' : Nat) (f : Int) (S : List ByteArray) (W : List Wr) (p : Int) (s : ByteArray) (w : World) (hD : Dev w A n c A' m c' f S W) (h : ¬ putE S W f p s = 0) :
    Calls Tryz.prog 137 #[DV A n c A' m c' f, .int .i64 p, .string s] w (RetDE w S W f (putE S W f p s)) := by
  have HC := Lib.hid (mayPut_any A n c A' m c' f S W p s _ ((hD.new (D33 A n c A' m c' f)).new (D33 none 0 0 none 0 0 0)))
  have HD := Lib.hid hD
  have hne := neq0 h
  generalize putE S W f p s = e0 at *
  clear hD h
  go_enter Tryz.func137, Tryz.ntmps137
  go_wp2_with fail
  refine HC.out.mono ?_
  rintro e w1 ⟨rfl, hb1⟩
  have HB := Lib.hid (((new1 w _).push _).call hb1)
  obtain ⟨hc, hf⟩ := bcell hb1
  clear hb1
  go_wp2
  have HB3 := ((HB.out.setCell (p := ⟨w.heap.size + 1, 0, none⟩) (by simp) (.slice A n c)).setCell (p := ⟨w.heap.size + 1, 1, none⟩) (by simp) (.slice A' m c')).setCell (p := ⟨w.heap.size + 1, 2, none⟩) (by simp) (.int .i64 f)
  refine bodyPost_ret (v := .tuple #[DV A n c A' m c' f, .int .i64 e0]) (by simp [results, Tryz.results137, go_sem, hc]) rfl ⟨A, n, c, A', m, c', rfl, HD.out.below HB3, HB3⟩

theorem own_val {w : World} {base e k n : Nat} {v : Value} {xs : List Value} (h : w.ownsRow base e k v n xs) : ∃ a cap, v = .slice a n cap := by
  rcases h.2 with ⟨rfl, rfl⟩ | ⟨g, cap, cur, rfl, _⟩
  · exact ⟨none, 0, rfl⟩
  · exact ⟨_, cap, rfl⟩
theorem set_last2 (l r : List Value) (x y : Value) (h : r.length = 2) : ((l ++ r).set l.length x).set (l.length + 1) y = l ++ [x, y] := by
  match r, h with
  | [a, b], _ => simp

set_option maxRecDepth 100000 in
set_option maxHeartbeats 1000000 in
theorem put_yes (A : Option Addr) (n c : Nat) (A' : Option Addr) (m c' : Nat) (f : Int) (S : List ByteArray) (W : List Wr) (p : Int) (s : ByteArray) (w : World) (hD : Dev w A n c A' m c' f S W) (h : putE S W f p s = 0) :
    Calls Tryz.prog 137 #[DV A n c A' m c' f, .int .i64 p, .string s] w (RetDE w S (W ++ [(p, s)]) (burnt f) 0) := by
  have hc := mayPut_any A n c A' m c' f S W p s _ ((hD.new (D33 A n c A' m c' f)).new (D33 none 0 0 none 0 0 0))
  rw [h] at hc
  have HC := Lib.hid hc
  have hm : (m : Int) ≤ 2000 := by have := hD.wr.wr; have := hD.nw; omega
  have hmn : m ≤ 2000 := by omega
  have HD := Lib.hid hD
  have HW := Lib.hid hD.wr.wr
  have HM := Lib.hid (putE_ok h).2.2.2.2.2
  have hmk : ∀ w, (Instr.makeSlice 27 (.int .i64 ((m : Int) + 1)) (.int .i64 ((m : Int) + 1))).run Tryz.prog w = .ok (.slice (some ⟨w.heap.size, 0, none⟩) (m + 1) (m + 1)) (w.alloc (.cells (madeCells #[.int .i64 0, .string ByteArray.empty] ((m + 1) * 2)) 84)) := fun w => by
    obtain ⟨i, hi, hz⟩ := Option.map_eq_some_iff.1 info72
    simp only [Prod.mk.injEq] at hz
    obtain ⟨hz1, hz2, hz3⟩ := hz
    have := run_make_rowN (P := Tryz.prog) 27 84 i _ Tryz.underlying27 hi hz1 .i64 .i64 (m + 1) (m + 1) (Nat.le_refl _) (by rw [hz3]; omega) (by omega) w
    rw [hz2] at this
    exact_mod_cast this
  clear hD h hc
  go_enter Tryz.func137, Tryz.ntmps137
  go_wp2_with fail
  refine HC.out.mono ?_
  rintro e w1 ⟨rfl, hb1⟩
  have HB := Lib.hid (((new1 w _).push _).call hb1)
  have HX := Lib.hid (((Box.new w (.slice A n c) (.slice A' m c') (.int .i64 f) 29).alloc (D33 none 0 0 none 0 0 0)).call hb1)
  have HY := Lib.hid (by have := (Box.new (w.alloc (D33 A n c A' m c' f)) (.slice none 0 0) (.slice none 0 0) (.int .i64 0) 29).call hb1; rwa [World.size_alloc] at this)
  have hzz : w.heap.size + 1 < w1.heap.size := HY.out.lt
  have hz0 : w.heap.size < w1.heap.size := by omega
  obtain ⟨hc, hf⟩ := bcell hb1
  clear hb1
  obtain ⟨w2, hcp, hblk, hgr⟩ := copy_rv (P := Tryz.prog) (dT := 27) (sT := 27) (ty := 3) (n := m + 1) (cap := m + 1) (c := c') Tryz.underlying27 size72 (Blk.new w1 84 (madeCells #[.int .i64 0, .string ByteArray.empty] ((m + 1) * 2))) (size_made _ _) ((HD.out.wr.below HB.out).below (new1 w1 _)) (WV_one W) (by omega)
  have HCP := Lib.hid hcp
  have hgs := hgr.size
  rw [World.size_alloc] at hgs
  have X2 := (HX.out.alloc (.cells (madeCells #[.int .i64 0, .string ByteArray.empty] ((m + 1) * 2)) 84)).of_block (hgr.block _ (by rw [World.size_alloc]; omega) (by simp; omega))
  have Y2 := (HY.out.alloc (.cells (madeCells #[.int .i64 0, .string ByteArray.empty] ((m + 1) * 2)) 84)).of_block (hgr.block _ (by rw [World.size_alloc]; omega) (by simp; omega))
  have HX2 := Lib.hid X2
  have HY2 := Lib.hid Y2
  have HB2 := Lib.hid (((HB.out.push (.cells (madeCells #[.int .i64 0, .string ByteArray.empty] ((m + 1) * 2)) 84))).grown hgr (by rw [World.size_alloc]; omega) (by simp; omega))
  obtain ⟨c0, c1, c2, f0, f1, f2⟩ := X2
  have hLl : (WV W ++ (madeCells #[Value.int .i64 0, Value.string ByteArray.empty] ((m + 1) * 2)).toList.drop (WV W).length).length = m * 2 + 2 := by
    rw [List.length_append, List.length_drop, size_made, WV_length, HW.out]; omega
  have t0 := hblk.cell (i := m * 2) (by rw [hLl]; omega)
  have t1 := hblk.cell (i := m * 2 + 1) (by rw [hLl]; omega)
  have t2 := hblk.frozen (m * 2)
  have t3 := hblk.frozen (m * 2 + 1)
  generalize (WV W ++ (madeCells #[Value.int .i64 0, Value.string ByteArray.empty] ((m + 1) * 2)).toList.drop (WV W).length)[m * 2]'(by rw [hLl]; omega) = o0 at t0
  generalize (WV W ++ (madeCells #[Value.int .i64 0, Value.string ByteArray.empty] ((m + 1) * 2)).toList.drop (WV W).length)[m * 2 + 1]'(by rw [hLl]; omega) = o1 at t1
  have HBL := Lib.hid hblk
  have HLL := Lib.hid hLl
  clear hcp hblk hgr hmn Y2 hLl
  go_wp2_with (((with_reducible refine wpList_copy_run (o := ⟨some 26, _, _, _, _, _⟩) rfl (.tmp 23) (.tmp 25) 27 27 rfl _ _ rfl rfl (.int .i64 m) w2 ?_ ?_); (exact HCP.out)))
  have hX3 := (HX2.out.far (p := ⟨w1.heap.size, m * 2, none⟩) (by simp; omega) (.int .i64 p)).far (p := ⟨w1.heap.size, m * 2 + 1, none⟩) (by simp; omega) (.string s)
  have hY3 := (HY2.out.far (p := ⟨w1.heap.size, m * 2, none⟩) (by simp; omega) (.int .i64 p)).far (p := ⟨w1.heap.size, m * 2 + 1, none⟩) (by simp; omega) (.string s)
  have hL3 := (HBL.out.set_ (m * 2) (.int .i64 p)).set_ (m * 2 + 1) (.string s)
  have hml : m * 2 = (WV W).length := by rw [WV_length, HW.out]
  rw [hml, set_last2 _ _ _ _ (by have := HLL.out; rw [List.length_append] at this; omega), ← hml, show WV W ++ [Value.int .i64 p, Value.string s] = WV (W ++ [(p, s)]) by rw [WV_append]; rfl] at hL3
  have hB3 := (HB2.out.setCell (p := ⟨w1.heap.size, m * 2, none⟩) (by simp; omega) (.int .i64 p)).setCell (p := ⟨w1.heap.size, m * 2 + 1, none⟩) (by simp; omega) (.string s)
  generalize ((w2.setCell ⟨w1.heap.size, m * 2, none⟩ (Value.int .i64 p)).setCell ⟨w1.heap.size, m * 2 + 1, none⟩ (Value.string s)) = w3 at *
  have HL3 := Lib.hid hL3
  have HB3 := Lib.hid hB3
  have HY3 := Lib.hid hY3
  have HT := Lib.hid (fun W hb => clone_any A n c S W ((HD.out.sec.below hB3).below hb) (by have := HD.out.sec.sec; have := HD.out.ns; omega))
  have HU := Lib.hid (fun W => burnt_any f W HD.out.lo HD.out.hi)
  have hz3 : w.heap.size + 1 < w3.heap.size := hY3.lt
  obtain ⟨x0, x1, x2, y0, y1, y2⟩ := hX3
  clear c0 c1 c2 f0 f1 f2 t0 t1 t2 t3 HX2 HY2 HB2 HBL HLL HX HY HB hc hf hL3 hB3 hY3 hml HC
  go_region_held3 (fun W => W.cell? ⟨w.heap.size, 0, none⟩ = some (.slice A n c) ∧ W.cell? ⟨w.heap.size, 2, none⟩ = some (.int .i64 f)) (go_keep)
    (first
      | (go_at_call 53; ((with_reducible refine (HT.out _ (Below.refl _ _).drew).mono ?_)); rintro r w4 ⟨v, rfl, hown, hb4⟩; obtain ⟨a4, cap4, rfl⟩ := own_val hown; obtain ⟨hc, hf⟩ := bcell hb4; have q0 : w4.cell? ⟨w.heap.size, 0, none⟩ = some (.slice A n c) := (by rw [hc _ _ (by simp; omega)]; simp [*]); have q2 : w4.cell? ⟨w.heap.size, 2, none⟩ = some (.int .i64 f) := (by rw [hc _ _ (by simp; omega)]; simp [*]); have Y4 := Lib.hid (HY3.out.call (undrew hb4)); obtain ⟨z0, z1, z2, v0, v1, v2⟩ := Y4.out; have HO := Lib.hid hown; have HB4 := Lib.hid hb4; clear hc hf hown hb4)
      | (go_at_call 162; ((with_reducible refine (HU.out _).mono ?_)); rintro r w5 ⟨rfl, rfl⟩))
  go_wp2_with fail
  have HB5 := ((HB3.out.call (undrew HB4.out)).setCell (p := ⟨w.heap.size + 1, 0, none⟩) (by simp) (.slice a4 n cap4)).setCell (p := ⟨w.heap.size + 1, 1, none⟩) (by simp) (.slice (some ⟨w1.heap.size, 0, none⟩) (m + 1) (m + 1))
  have HB6 := HB5.setCell (p := ⟨w.heap.size + 1, 2, none⟩) (by simp) (.int .i64 (burnt f))
  have O5 := ownsRow_setCell_below HO.out (a := ⟨w.heap.size + 1, 0, none⟩) (by simp; omega) (.slice a4 n cap4)
  have O6 := ownsRow_setCell_below O5 (a := ⟨w.heap.size + 1, 1, none⟩) (by simp; omega) (.slice (some ⟨w1.heap.size, 0, none⟩) (m + 1) (m + 1))
  have O7 := ownsRow_setCell_below O6 (a := ⟨w.heap.size + 1, 2, none⟩) (by simp; omega) (.int .i64 (burnt f))
  have L7 := (((HL3.out.call (undrew HB4.out)).far (p := ⟨w.heap.size + 1, 0, none⟩) (by simp; omega) (.slice a4 n cap4)).far (p := ⟨w.heap.size + 1, 1, none⟩) (by simp; omega) (.slice (some ⟨w1.heap.size, 0, none⟩) (m + 1) (m + 1))).far (p := ⟨w.heap.size + 1, 2, none⟩) (by simp; omega) (.int .i64 (burnt f))
  refine bodyPost_ret (v := .tuple #[DV a4 n cap4 (some ⟨w1.heap.size, 0, none⟩) (m + 1) (m + 1) (burnt f), .int .i64 0]) (by simp [results, Tryz.results137, go_sem, z0, z1, z2]) rfl ⟨a4, n, cap4, _, m + 1, m + 1, rfl, ⟨RV.of_own O7, L7.rv (by rw [WV_length, List.length_append, HW.out]; rfl), burnt_lo HD.out.lo, burnt_hi HD.out.hi, HD.out.ns, ?_⟩, HB6⟩
  have := HM.out
  rw [List.length_append]
  simp
  omega

theorem put_any (A : Option Addr) (n c : Nat) (A' : Option Addr) (m c' : Nat) (f : Int) (S : List ByteArray) (W : List Wr) (p : Int) (s : ByteArray) (w : World) (hD : Dev w A n c A' m c' f S W) :
    Calls Tryz.prog 137 #[DV A n c A' m c' f, .int .i64 p, .string s] w (RetDE w S (if putE S W f p s = 0 then W ++ [(p, s)] else W) (if putE S W f p s = 0 then burnt f else f) (putE S W f p s)) := by
  by_cases h : putE S W f p s = 0
  · rw [if_pos h, if_pos h, h]; exact put_yes A n c A' m c' f S W p s w hD h
  · rw [if_neg h, if_neg h]; exact put_no A n c A' m c' f S W p s w hD h

end Go.Proofs.YtkglolnghihegaaGreatDoor.Dsk

/- Contracts of goesInto and of the function that it answers. -/
namespace Go.Proofs.YtkglolnghihegaaGreatDoor.Dsk
open Go.RowKit

/-- The function that keeps the sectors in the cell of block b. -/
abbrev FV (b : Nat) : Value := .func (.func 95) #[] #[.pointer (some ⟨b, 0, none⟩)]

theorem goes_any (A : Option Addr) (n c : Nat) (w : World) :
    Calls Tryz.prog 57 #[.slice A n c] w fun e w' => e = .returned (FV w.heap.size) ∧ w' = w.alloc (.cells #[.slice A n c] 22) := by
  go_enter Tryz.func57, Tryz.ntmps57
  go_wp2
  go_ret
  exact ⟨rfl, rfl⟩

theorem let_raw (bx g n cap : Nat) (p k : Nat) (s t : ByteArray) (w : World) (hbx : w.cell? ⟨bx, 0, none⟩ = some (.slice (some ⟨g, 0, none⟩) n cap))
    (hc : w.cell? ⟨g, p, none⟩ = some (.string t)) (hf : w.frozen? ⟨g, p, none⟩ = false) (hbl : bx < w.heap.size) (hg : g < w.heap.size) (hp : p < n) (hs : s.size = 64) (ht : t.size = 64) (hk : k ≤ 64) :
    Calls Tryz.prog 95 #[.agg #[.int .i64 p, .string s], .int .i64 k, .pointer (some ⟨bx, 0, none⟩)] w fun e w' => e = .returned (.tuple #[]) ∧
      w' = ((w.setCell ⟨g, p, none⟩ (.string (s.extract 0 k ++ t.extract k t.size))).alloc (.cells #[.int .i64 p, .string s] 84)).drew := by
  have i1 : (p : Int) < (n : Int) := by omega
  have i2 : (k : Int) ≤ 64 := by omega
  have HS := Lib.hid hs
  have HT := Lib.hid ht
  have j1 : (k : Int) ≤ (s.size : Int) := by omega
  have j2 : (k : Int) ≤ (t.size : Int) := by omega
  have hlim : ¬ 9223372036854775807 < min k s.size + (t.size - k) := by omega
  clear hs ht hk
  go_enter Tryz.func95, Tryz.ntmps95
  go_wp2
  go_region
  all_goals (go_end0; exact ⟨rfl, rfl⟩)
theorem sv_set (S : List ByteArray) (p : Nat) (x : ByteArray) : (SV S).set p (.string x) = SV (S.set p x) := by simp [SV]

/-- A write goes into a row of sectors of the call's own; all other blocks stay. -/
theorem let_any (bx g n cap base : Nat) (S : List ByteArray) (p k : Nat) (s : ByteArray) (w : World) (hbx : w.cell? ⟨bx, 0, none⟩ = some (.slice (some ⟨g, 0, none⟩) n cap))
    (hown : w.ownsRow base 9 1 (.slice (some ⟨g, 0, none⟩) n cap) n (SV S)) (hp : p < n) (hs : s.size = 64) (hS : secOk S = true) (hk : k ≤ 64) :
    Calls Tryz.prog 95 #[.agg #[.int .i64 p, .string s], .int .i64 k, .pointer (some ⟨bx, 0, none⟩)] w fun e w' => e = .returned (.tuple #[]) ∧
      w'.ownsRow base 9 1 (.slice (some ⟨g, 0, none⟩) n cap) n (SV (goOne S ((p : Int), s) k)) ∧ w.grownBy w' (some g) := by
  have hl : S.length = n := (RV.of_own hown).sec
  have hpl : p < S.length := by omega
  have ht : (S[p]).size = 64 := (secOk_iff S).1 hS _ (List.getElem_mem hpl)
  have hc : w.cell? ⟨g, p, none⟩ = some (.string S[p]) := by
    rw [hown.cellAt p (by omega)]; simp [SV, hpl]
  refine (let_raw bx g n cap p k s S[p] w hbx hc (hown.frozenAt p) (cell_lt hbx) (cell_lt hc) hp hs ht hk).mono ?_
  rintro e w' ⟨rfl, rfl⟩
  obtain ⟨h1, h2⟩ := hown.stored p (.string (s.extract 0 k ++ (S[p]).extract k (S[p]).size))
  have e1 : goOne S ((p : Int), s) k = S.set p (s.extract 0 k ++ (S[p]).extract k (S[p]).size) := by
    unfold goOne
    simp only [Int.toNat_natCast]
    rw [secAt_eq hpl]
  rw [sv_set, ← e1] at h1
  have h3 := h1.alloc (.cells #[.int .i64 p, .string s] 84)
  have h4 := h2.trans (World.grownBy_alloc _ (.cells #[.int .i64 p, .string s] 84) (some g))
  exact ⟨rfl, h3, ⟨h4.os, h4.tape, h4.output, h4.size, h4.block⟩⟩

end Go.Proofs.YtkglolnghihegaaGreatDoor.Dsk

/- Contracts of Flush of package disk. -/
namespace Go.Proofs.YtkglolnghihegaaGreatDoor.Dsk
open Go.RowKit

/-- What is kept while writes go: the device and the answer's cells, the variable that the function keeps, and the row of sectors. -/
structure Kept (w : World) (x y z : Value) (bx g n cap : Nat) (T : List ByteArray) (wr : World) : Prop where
  bel : Below w.heap.size w wr
  st : Box wr w.heap.size x y z
  res : Box wr (w.heap.size + 1) (.slice none 0 0) (.slice none 0 0) (.int .i64 0)
  bxc : wr.cell? ⟨bx, 0, none⟩ = some (.slice (some ⟨g, 0, none⟩) n cap)
  own : wr.ownsRow (w.heap.size + 2) 9 1 (.slice (some ⟨g, 0, none⟩) n cap) n (SV T)
  hbx : w.heap.size + 2 ≤ bx
  ne : g ≠ bx
theorem own_base {w : World} {base base' e k n : Nat} {v : Value} {xs : List Value} (h : w.ownsRow base e k v n xs) (hb : base' ≤ base) : w.ownsRow base' e k v n xs := by
  refine ⟨h.1, ?_⟩
  rcases h.2 with h | ⟨g, cap, cur, x1, x2, x3⟩
  · exact .inl h
  · exact .inr ⟨g, cap, cur, x1, by omega, x3⟩
theorem Kept.base {w : World} {x y z : Value} {bx g n cap : Nat} {T : List ByteArray} {wr : World} (h : Kept w x y z bx g n cap T wr) : w.heap.size + 2 ≤ g := base_of_own h.own g rfl
theorem Kept.push {w : World} {x y z : Value} {bx g n cap : Nat} {T : List ByteArray} {wr : World} (h : Kept w x y z bx g n cap T wr) (o : Obj) : Kept w x y z bx g n cap T (wr.alloc o) :=
  ⟨h.bel.push o, h.st.alloc o, h.res.alloc o, ((new1 wr o).cell (p := ⟨bx, 0, none⟩) (cell_lt h.bxc)).trans h.bxc, h.own.alloc o, h.hbx, h.ne⟩
theorem Kept.drew {w : World} {x y z : Value} {bx g n cap : Nat} {T : List ByteArray} {wr : World} (h : Kept w x y z bx g n cap T wr) : Kept w x y z bx g n cap T wr.drew :=
  ⟨h.bel.drew, h.st.drew, h.res.drew, h.bxc, h.own, h.hbx, h.ne⟩
theorem Kept.goes {w : World} {x y z : Value} {bx g n cap : Nat} {T T' : List ByteArray} {wr w' : World} (h : Kept w x y z bx g n cap T wr) (ho : w'.ownsRow (w.heap.size + 2) 9 1 (.slice (some ⟨g, 0, none⟩) n cap) n (SV T')) (hg : wr.grownBy w' (some g)) : Kept w x y z bx g n cap T' w' := by
  have hb := h.base
  refine ⟨h.bel.grown hg h.bel.size (fun k hk => by injection hk with hk; omega), h.st.of_block (hg.block _ h.st.lt (by simp; omega)), h.res.of_block (hg.block _ h.res.lt (by simp; omega)), ?_, ho, h.hbx, h.ne⟩
  exact (World.cell?_of_block (a := ⟨bx, 0, none⟩) (hg.block bx (cell_lt h.bxc) (by simp; exact fun e => h.ne e.symm))).trans h.bxc
theorem Kept.bcall {w : World} {x y z : Value} {bx g n cap : Nat} {T : List ByteArray} {wr w' : World} (h : Kept w x y z bx g n cap T wr) (hb : Below wr.heap.size wr w') : Kept w x y z bx g n cap T w' :=
  ⟨h.bel.call hb, h.st.call hb, h.res.call hb, (hb.cell (p := ⟨bx, 0, none⟩) (cell_lt h.bxc)).trans h.bxc, h.own.kept ⟨hb.os, hb.tape, hb.output, hb.size, fun k hk _ => hb.block k hk⟩ (row := none) (.inr (by simp [Value.ownBlock])), h.hbx, h.ne⟩

theorem flush2 (A : Option Addr) (n c : Nat) (A' : Option Addr) (m c' : Nat) (f : Int) (S : List ByteArray) (W : List Wr) (w : World) (hD : Dev w A n c A' m c' f S W) (h : ¬ chk S W f = 0) :
    Calls Tryz.prog 138 #[DV A n c A' m c' f] w (RetDE w S W f 2) := by
  have HC := Lib.hid (check_any A n c A' m c' f S W _ ((hD.new (D33 A n c A' m c' f)).new (D33 none 0 0 none 0 0 0)))
  have HD := Lib.hid hD
  have hne := neq0 h
  generalize chk S W f = e0 at *
  clear hD h
  go_enter Tryz.func138, Tryz.ntmps138
  go_wp2_with fail
  refine HC.out.mono ?_
  rintro e w1 ⟨rfl, hb1⟩
  have HB := Lib.hid (((new1 w _).push _).call hb1)
  obtain ⟨hc, hf⟩ := bcell hb1
  clear hb1
  go_wp2
  have HB3 := ((HB.out.setCell (p := ⟨w.heap.size + 1, 0, none⟩) (by simp) (.slice A n c)).setCell (p := ⟨w.heap.size + 1, 1, none⟩) (by simp) (.slice A' m c')).setCell (p := ⟨w.heap.size + 1, 2, none⟩) (by simp) (.int .i64 f)
  exact bodyPost_ret (v := .tuple #[DV A n c A' m c' f, .int .i64 2]) (by simp [results, Tryz.results138, go_sem, hc]) rfl ⟨A, n, c, A', m, c', rfl, HD.out.below HB3, HB3⟩

theorem flush21 (A : Option Addr) (n c : Nat) (A' : Option Addr) (m c' : Nat) (S : List ByteArray) (W : List Wr) (w : World) (hD : Dev w A n c A' m c' 0 S W) (h : chk S W 0 = 0) :
    Calls Tryz.prog 138 #[DV A n c A' m c' 0] w (RetDE w S W 0 21) := by
  have hc := check_any A n c A' m c' 0 S W _ ((hD.new (D33 A n c A' m c' 0)).new (D33 none 0 0 none 0 0 0))
  rw [h] at hc
  have HC := Lib.hid hc
  have HD := Lib.hid hD
  clear hD h hc
  go_enter Tryz.func138, Tryz.ntmps138
  go_wp2_with fail
  refine HC.out.mono ?_
  rintro e w1 ⟨rfl, hb1⟩
  have HB := Lib.hid (((new1 w _).push _).call hb1)
  obtain ⟨hc, hf⟩ := bcell hb1
  clear hb1
  go_wp2
  have HB3 := ((HB.out.setCell (p := ⟨w.heap.size + 1, 0, none⟩) (by simp) (.slice A n c)).setCell (p := ⟨w.heap.size + 1, 1, none⟩) (by simp) (.slice A' m c')).setCell (p := ⟨w.heap.size + 1, 2, none⟩) (by simp) (.int .i64 0)
  exact bodyPost_ret (v := .tuple #[DV A n c A' m c' 0, .int .i64 21]) (by simp [results, Tryz.results138, go_sem, hc]) rfl ⟨A, n, c, A', m, c', rfl, HD.out.below HB3, HB3⟩

set_option maxRecDepth 100000 in
set_option maxHeartbeats 1000000 in
theorem flush0 (A : Option Addr) (n c : Nat) (A' : Option Addr) (m c' : Nat) (f : Int) (S : List ByteArray) (W : List Wr) (w : World) (hD : Dev w A n c A' m c' f S W) (h : chk S W f = 0) (hf0 : ¬ f = 0) :
    Calls Tryz.prog 138 #[DV A n c A' m c' f] w (RetDE w (goAll S W fun _ => 64) [] (burnt f) 0) := by
  have hc := check_any A n c A' m c' f S W _ ((hD.new (D33 A n c A' m c' f)).new (D33 none 0 0 none 0 0 0))
  rw [h] at hc
  have HC := Lib.hid hc
  obtain ⟨⟨hn1, hn2, -⟩, hso, hm1, hwo⟩ := chk_ok h
  have HD := Lib.hid hD
  have HS := Lib.hid hD.sec.sec
  have HW := Lib.hid hD.wr.wr
  have HOK := Lib.hid (fun k => goAll_ok (c := fun _ => 64) hso hwo (fun _ => Nat.le_refl _) k)
  have HWO := Lib.hid hwo
  have hm : (m : Int) ≤ 1024 := by have := hD.wr.wr; omega
  have hn : 16 ≤ n ∧ n ≤ 512 := by have := hD.sec.sec; omega
  have HN := Lib.hid hn
  have hfb : (f == 0) = false := by simpa using hf0
  clear hD h hc hn hn1 hn2 hso hm1 hwo hf0
  go_enter Tryz.func138, Tryz.ntmps138
  go_wp2_with fail
  refine HC.out.mono ?_
  rintro e w1 ⟨rfl, hb1⟩
  have HB := Lib.hid (((new1 w _).push _).call hb1)
  have HX := Lib.hid (((Box.new w (.slice A n c) (.slice A' m c') (.int .i64 f) 29).alloc (D33 none 0 0 none 0 0 0)).call hb1)
  have HY := Lib.hid (by have := (Box.new (w.alloc (D33 A n c A' m c' f)) (.slice none 0 0) (.slice none 0 0) (.int .i64 0) 29).call hb1; rwa [World.size_alloc] at this)
  have hzz : w.heap.size + 1 < w1.heap.size := HY.out.lt
  obtain ⟨c0, c1, c2, f0, f1, f2⟩ := HX.out
  clear hb1
  go_wp2_with fail
  refine (clone_any A n c S _ (HD.out.sec.below HB.out) (by have := HN.out; omega)).mono ?_
  rintro e w2 ⟨v, rfl, hown, hb2⟩
  obtain ⟨g, cap, rfl⟩ : ∃ g cap, v = .slice (some ⟨g, 0, none⟩) n cap := by
    rcases hown.2 with ⟨rfl, h0⟩ | ⟨g, cap, cur, rfl, _⟩
    · have := HN.out; omega
    · exact ⟨g, cap, rfl⟩
  clear c0 c1 c2 f0 f1 f2
  go_wp2_with fail
  refine (goes_any _ _ _ _).mono ?_
  rintro e w3 ⟨rfl, rfl⟩
  have hK : Kept w (.slice A n c) (.slice A' m c') (.int .i64 f) w2.heap.size g n cap S (w2.alloc (.cells #[.slice (some ⟨g, 0, none⟩) n cap] 22)) :=
    ⟨(HB.out.call hb2).push _, (HX.out.call hb2).alloc _, (HY.out.call hb2).alloc _, by simp [go_sem], (own_base hown (by omega)).alloc _, by have := hb2.size; omega, by have := (hown.lt g rfl).2; omega⟩
  have HK := Lib.hid hK
  obtain ⟨c0, c1, c2, f0, f1, f2⟩ := hK.st
  clear hK hown hb2
  generalize (w2.alloc (.cells #[.slice (some ⟨g, 0, none⟩) n cap] 22)) = w3 at *
  go_wp2_with fail
  clear c0 c1 c2 f0 f1 f2
  go_loopw [24] (fun i wr => ∃ k : Nat, k ≤ m ∧ i = .int .i64 k ∧ Hid (Kept w (.slice A n c) (.slice A' m c') (.int .i64 f) w2.heap.size g n cap (goAll S (W.take k) fun _ => 64) wr)) (fun i _ => m - (intOf i).toNat)
  case atStart => exact ⟨0, Nat.zero_le _, rfl, HK.out⟩
  case round =>
    obtain ⟨k, hk, rfl, HK2⟩ := hrel
    by_cases hlt : k < m
    · have hl : k < W.length := by have := HW.out; omega
      obtain ⟨b, off, rfl, hb, hc0, hc1⟩ := (HD.out.wr.below HK2.out.bel).wrAt hlt hl
      have HT := Lib.hid (goAll_take S W k hl (fun _ => 64))
      have hx := (wrOk_iff _ _).1 (List.all_eq_true.1 HWO.out _ (List.getElem_mem hl))
      generalize W[k] = x at *
      obtain ⟨p, s⟩ := x
      dsimp only at hc0 hc1 hx
      obtain ⟨p, rfl⟩ := Int.eq_ofNat_of_zero_le hx.1
      have HP := Lib.hid (show p < n by have := HS.out; omega)
      have HSZ := Lib.hid hx.2.2
      clear hx hl
      go_wp2_with fail
      refine (let_any w2.heap.size g n cap _ _ p 64 s _ (HK2.out.push _).bxc (HK2.out.push _).own HP.out HSZ.out (HOK.out k).1 (Nat.le_refl _)).mono ?_
      rintro e w4 ⟨rfl, ho4, hg4⟩
      have HK3 := Lib.hid ((HK2.out.push _).goes ho4 hg4)
      clear ho4 hg4
      go_wp2
      go_roundw
      case rel => exact ⟨k + 1, by omega, by go_num, by rw [HT.out]; exact HK3.out⟩
      case measure => simp [intOf]; omega
    · have hk2 : W.take k = W := List.take_of_length_le (by have := HW.out; omega)
      rw [hk2] at HK2
      have HE := Lib.hid (by have := HOK.out k; rwa [hk2] at this)
      clear hk2
      obtain ⟨c0, c1, c2, f0, f1, f2⟩ := HK2.out.st
      obtain ⟨d0, d1, d2, e0, e1, e2⟩ := HK2.out.res
      have hgb := HK2.out.base
      have HU := Lib.hid (fun W => burnt_any f W HD.out.lo HD.out.hi)
      go_wp2_with (go_at_call 162; ((with_reducible refine (HU.out _).mono ?_)); rintro r w5 ⟨rfl, rfl⟩)
      have HB5 := ((HK2.out.bel.setCell (p := ⟨w.heap.size + 1, 0, none⟩) (by simp) (.slice (some ⟨g, 0, none⟩) n cap)).setCell (p := ⟨w.heap.size + 1, 1, none⟩) (by simp) (.slice none 0 0)).setCell (p := ⟨w.heap.size + 1, 2, none⟩) (by simp) (.int .i64 (burnt f))
      have O5 := ownsRow_setCell_below (ownsRow_setCell_below (ownsRow_setCell_below HK2.out.own (a := ⟨w.heap.size + 1, 0, none⟩) (by simp) (.slice (some ⟨g, 0, none⟩) n cap)) (a := ⟨w.heap.size + 1, 1, none⟩) (by simp) (.slice none 0 0)) (a := ⟨w.heap.size + 1, 2, none⟩) (by simp) (.int .i64 (burnt f))
      exact bodyPost_ret (v := .tuple #[DV (some ⟨g, 0, none⟩) n cap none 0 0 (burnt f), .int .i64 0]) (by simp [results, Tryz.results138, go_sem, *]) rfl ⟨_, n, cap, none, 0, 0, rfl, ⟨RV.of_own O5, RV.nil _ _ _, burnt_lo HD.out.lo, burnt_hi HD.out.hi, by rw [HE.out.2]; exact HD.out.ns, by simp⟩, HB5⟩

theorem flush_any (A : Option Addr) (n c : Nat) (A' : Option Addr) (m c' : Nat) (f : Int) (S : List ByteArray) (W : List Wr) (w : World) (hD : Dev w A n c A' m c' f S W) :
    Calls Tryz.prog 138 #[DV A n c A' m c' f] w (RetDE w (if flushE S W f = 0 then goAll S W (fun _ => 64) else S) (if flushE S W f = 0 then [] else W) (if flushE S W f = 0 then burnt f else f) (flushE S W f)) := by
  by_cases h : chk S W f = 0
  · by_cases hf : f = 0
    · have e : flushE S W f = 21 := by unfold flushE; rw [if_pos h, if_pos hf]
      rw [e]
      subst hf
      exact flush21 A n c A' m c' S W w hD h
    · have e : flushE S W f = 0 := by unfold flushE; rw [if_pos h, if_neg hf]
      rw [e]
      exact flush0 A n c A' m c' f S W w hD h hf
  · have e : flushE S W f = 2 := by unfold flushE; rw [if_neg h]
    rw [e]
    exact flush2 A n c A' m c' f S W w hD h

end Go.Proofs.YtkglolnghihegaaGreatDoor.Dsk

/- Contracts of cutOf, Crash and Arm of package disk. -/
namespace Go.Proofs.YtkglolnghihegaaGreatDoor.Dsk
open Go.RowKit

theorem clamp_lo {z : Int} (h : z < 0) : (clamp z : Int) = 0 := by unfold clamp; omega
theorem clamp_hi {z : Int} (h : 64 < z) : (clamp z : Int) = 64 := by unfold clamp; omega
theorem clamp_in {z : Int} (h : 0 ≤ z) (h2 : z ≤ 64) : (clamp z : Int) = z := by unfold clamp; omega

theorem cut_any (A : Option Addr) (n c : Nat) (zs : List Int) (k : Nat) (w : World) (hR : RV w A n 1 (IV zs)) :
    Calls Tryz.prog 58 #[.slice A n c, .int .i64 k] w fun e w' => e = .returned (.int .i64 (cutAt zs k)) ∧ w = w' := by
  have hl := hR.ints
  by_cases hlt : k < n
  · have hz : k < zs.length := by omega
    obtain ⟨b, off, rfl, hb, hc⟩ := hR.intAt hlt hz
    have HE := Lib.hid (show cutAt zs k = clamp zs[k] by unfold cutAt; rw [dif_pos hz])
    generalize zs[k] = z at *
    have i1 : (k : Int) < (n : Int) := by omega
    clear hR hl hz
    by_cases h1 : z < 0
    · have HF := Lib.hid (clamp_lo h1)
      go_enter Tryz.func58, Tryz.ntmps58
      go_wp2
      go_ret
      exact ⟨ret_int (by rw [HE.out, HF.out]), rfl⟩
    · by_cases h2 : 64 < z
      · have HF := Lib.hid (clamp_hi h2)
        go_enter Tryz.func58, Tryz.ntmps58
        go_wp2
        go_ret
        exact ⟨ret_int (by rw [HE.out, HF.out]), rfl⟩
      · have HF := Lib.hid (clamp_in (show 0 ≤ z by omega) (show z ≤ 64 by omega))
        go_enter Tryz.func58, Tryz.ntmps58
        go_wp2
        go_ret
        exact ⟨ret_int (by rw [HE.out, HF.out]), rfl⟩
  · have HE := Lib.hid (show cutAt zs k = 0 by unfold cutAt; rw [dif_neg (by omega)])
    clear hR hl
    go_enter Tryz.func58, Tryz.ntmps58
    go_wp2
    go_ret
    exact ⟨ret_int (by rw [HE.out]; rfl), rfl⟩

theorem crash_no (A : Option Addr) (n c : Nat) (A' : Option Addr) (m c' : Nat) (f : Int) (S : List ByteArray) (W : List Wr) (B : Option Addr) (q d : Nat) (w : World) (hD : Dev w A n c A' m c' f S W) (h : ¬ chk S W f = 0) :
    Calls Tryz.prog 28 #[DV A n c A' m c' f, .slice B q d] w (RetD w S W f) := by
  have HC := Lib.hid (check_any A n c A' m c' f S W _ ((hD.new (D33 A n c A' m c' f)).new (D33 none 0 0 none 0 0 0)))
  have HD := Lib.hid hD
  have hne := neq0 h
  generalize chk S W f = e0 at *
  clear hD h
  go_enter Tryz.func28, Tryz.ntmps28
  go_wp2_with fail
  refine HC.out.mono ?_
  rintro e w1 ⟨rfl, hb1⟩
  have HB := Lib.hid (((new1 w _).push _).call hb1)
  obtain ⟨hc, hf⟩ := bcell hb1
  clear hb1
  go_wp2
  have HB3 := ((HB.out.setCell (p := ⟨w.heap.size + 1, 0, none⟩) (by simp) (.slice A n c)).setCell (p := ⟨w.heap.size + 1, 1, none⟩) (by simp) (.slice A' m c')).setCell (p := ⟨w.heap.size + 1, 2, none⟩) (by simp) (.int .i64 f)
  exact bodyPost_ret (v := DV A n c A' m c' f) (by simp [results, Tryz.results28, go_sem, hc]) rfl ⟨A, n, c, A', m, c', rfl, HD.out.below HB3, HB3⟩

set_option maxRecDepth 100000 in
set_option maxHeartbeats 1000000 in
theorem crash_yes (A : Option Addr) (n c : Nat) (A' : Option Addr) (m c' : Nat) (f : Int) (S : List ByteArray) (W : List Wr) (B : Option Addr) (q d : Nat) (zs : List Int) (w : World) (hD : Dev w A n c A' m c' f S W) (hR : RV w B q 1 (IV zs)) (h : chk S W f = 0) :
    Calls Tryz.prog 28 #[DV A n c A' m c' f, .slice B q d] w (RetD w (goAll S W (cutAt zs)) [] (-1)) := by
  have hc := check_any A n c A' m c' f S W _ ((hD.new (D33 A n c A' m c' f)).new (D33 none 0 0 none 0 0 0))
  rw [h] at hc
  have HC := Lib.hid hc
  obtain ⟨⟨hn1, hn2, -⟩, hso, hm1, hwo⟩ := chk_ok h
  have HD := Lib.hid hD
  have HR := Lib.hid hR
  have HS := Lib.hid hD.sec.sec
  have HW := Lib.hid hD.wr.wr
  have HOK := Lib.hid (fun k => goAll_ok (c := cutAt zs) hso hwo (cutAt_le zs) k)
  have HWO := Lib.hid hwo
  have hm : (m : Int) ≤ 1024 := by have := hD.wr.wr; omega
  have hn : 16 ≤ n ∧ n ≤ 512 := by have := hD.sec.sec; omega
  have HN := Lib.hid hn
  clear hD h hc hn hn1 hn2 hso hm1 hwo hR
  go_enter Tryz.func28, Tryz.ntmps28
  go_wp2_with fail
  refine HC.out.mono ?_
  rintro e w1 ⟨rfl, hb1⟩
  have HB := Lib.hid (((new1 w _).push _).call hb1)
  have HX := Lib.hid (((Box.new w (.slice A n c) (.slice A' m c') (.int .i64 f) 29).alloc (D33 none 0 0 none 0 0 0)).call hb1)
  have HY := Lib.hid (by have := (Box.new (w.alloc (D33 A n c A' m c' f)) (.slice none 0 0) (.slice none 0 0) (.int .i64 0) 29).call hb1; rwa [World.size_alloc] at this)
  have hzz : w.heap.size + 1 < w1.heap.size := HY.out.lt
  obtain ⟨c0, c1, c2, f0, f1, f2⟩ := HX.out
  clear hb1
  go_wp2_with fail
  refine (clone_any A n c S _ (HD.out.sec.below HB.out) (by have := HN.out; omega)).mono ?_
  rintro e w2 ⟨v, rfl, hown, hb2⟩
  obtain ⟨g, cap, rfl⟩ : ∃ g cap, v = .slice (some ⟨g, 0, none⟩) n cap := by
    rcases hown.2 with ⟨rfl, h0⟩ | ⟨g, cap, cur, rfl, _⟩
    · have := HN.out; omega
    · exact ⟨g, cap, rfl⟩
  clear c0 c1 c2 f0 f1 f2
  go_wp2_with fail
  refine (goes_any _ _ _ _).mono ?_
  rintro e w3 ⟨rfl, rfl⟩
  have hK : Kept w (.slice A n c) (.slice A' m c') (.int .i64 f) w2.heap.size g n cap S (w2.alloc (.cells #[.slice (some ⟨g, 0, none⟩) n cap] 22)) :=
    ⟨(HB.out.call hb2).push _, (HX.out.call hb2).alloc _, (HY.out.call hb2).alloc _, by simp [go_sem], (own_base hown (by omega)).alloc _, by have := hb2.size; omega, by have := (hown.lt g rfl).2; omega⟩
  have HK := Lib.hid hK
  obtain ⟨c0, c1, c2, f0, f1, f2⟩ := hK.st
  clear hK hown hb2
  generalize (w2.alloc (.cells #[.slice (some ⟨g, 0, none⟩) n cap] 22)) = w3 at *
  go_wp2_with fail
  clear c0 c1 c2 f0 f1 f2
  go_loopw [21] (fun i wr => ∃ k : Nat, k ≤ m ∧ i = .int .i64 k ∧ Hid (Kept w (.slice A n c) (.slice A' m c') (.int .i64 f) w2.heap.size g n cap (goAll S (W.take k) (cutAt zs)) wr)) (fun i _ => m - (intOf i).toNat)
  case atStart => exact ⟨0, Nat.zero_le _, rfl, HK.out⟩
  case round =>
    obtain ⟨k, hk, rfl, HK2⟩ := hrel
    by_cases hlt : k < m
    · have hl : k < W.length := by have := HW.out; omega
      obtain ⟨b, off, rfl, hb, hc0, hc1⟩ := (HD.out.wr.below HK2.out.bel).wrAt hlt hl
      have HT := Lib.hid (goAll_take S W k hl (cutAt zs))
      have hx := (wrOk_iff _ _).1 (List.all_eq_true.1 HWO.out _ (List.getElem_mem hl))
      generalize W[k] = x at *
      obtain ⟨p, s⟩ := x
      dsimp only at hc0 hc1 hx
      obtain ⟨p, rfl⟩ := Int.eq_ofNat_of_zero_le hx.1
      have HP := Lib.hid (show p < n by have := HS.out; omega)
      have HSZ := Lib.hid hx.2.2
      clear hx hl
      go_wp2_with fail
      have HK3 := Lib.hid (HK2.out.push (.cells #[.int .i64 p, .string s] 84))
      have t0 : (wr.alloc (.cells #[.int .i64 p, .string s] 84)).cell? ⟨wr.heap.size, 0, none⟩ = some (.int .i64 p) := by simp [go_sem]
      have t1 : (wr.alloc (.cells #[.int .i64 p, .string s] 84)).cell? ⟨wr.heap.size, 1, none⟩ = some (.string s) := by simp [go_sem]
      have hzw : wr.heap.size < (wr.alloc (.cells #[.int .i64 p, .string s] 84)).heap.size := by simp
      have hgw : g < wr.heap.size := (HK2.out.own.lt g rfl).2
      generalize (wr.alloc (.cells #[.int .i64 p, .string s] 84)) = w4 at *
      have HCut := Lib.hid (cut_any B q d zs k w4.drew (HR.out.below HK3.out.bel.drew))
      generalize hcv : cutAt zs k = z at *
      have HZ := Lib.hid (show z ≤ 64 by rw [← hcv]; exact cutAt_le zs k)
      clear hcv
      have HLet := Lib.hid (let_any w2.heap.size g n cap _ _ p z s w4.drew HK3.out.drew.bxc HK3.out.drew.own HP.out HSZ.out (HOK.out k).1 HZ.out)
      go_region_held3 (fun W => W.cell? ⟨wr.heap.size, 0, none⟩ = some (.int .i64 p) ∧ W.cell? ⟨wr.heap.size, 1, none⟩ = some (.string s)) (go_keep)
        (first
          | (go_at_call 58; ((with_reducible refine HCut.out.mono ?_)); rintro r w5 ⟨rfl, rfl⟩)
          | (go_at_call 95; ((with_reducible refine HLet.out.mono ?_)); rintro r w5 ⟨rfl, ho5, hg5⟩; have q0 : w5.cell? ⟨wr.heap.size, 0, none⟩ = some (.int .i64 p) := ((World.cell?_of_block (hg5.block wr.heap.size hzw (by simp; omega))).trans t0); have q1 : w5.cell? ⟨wr.heap.size, 1, none⟩ = some (.string s) := ((World.cell?_of_block (hg5.block wr.heap.size hzw (by simp; omega))).trans t1); have HK5 := Lib.hid (HK3.out.drew.goes ho5 hg5); clear ho5 hg5))
      go_wp2
      go_roundw
      case rel => exact ⟨k + 1, by omega, by go_num, by rw [HT.out]; exact HK5.out⟩
      case measure => simp [intOf]; omega
    · have hk2 : W.take k = W := List.take_of_length_le (by have := HW.out; omega)
      rw [hk2] at HK2
      have HE := Lib.hid (by have := HOK.out k; rwa [hk2] at this)
      clear hk2
      obtain ⟨d0, d1, d2, e0, e1, e2⟩ := HK2.out.res
      have hgb := HK2.out.base
      go_wp2
      have HB5 := ((HK2.out.bel.setCell (p := ⟨w.heap.size + 1, 0, none⟩) (by simp) (.slice (some ⟨g, 0, none⟩) n cap)).setCell (p := ⟨w.heap.size + 1, 1, none⟩) (by simp) (.slice none 0 0)).setCell (p := ⟨w.heap.size + 1, 2, none⟩) (by simp) (.int .i64 (-1))
      have O5 := ownsRow_setCell_below (ownsRow_setCell_below (ownsRow_setCell_below HK2.out.own (a := ⟨w.heap.size + 1, 0, none⟩) (by simp) (.slice (some ⟨g, 0, none⟩) n cap)) (a := ⟨w.heap.size + 1, 1, none⟩) (by simp) (.slice none 0 0)) (a := ⟨w.heap.size + 1, 2, none⟩) (by simp) (.int .i64 (-1))
      exact bodyPost_ret (v := DV (some ⟨g, 0, none⟩) n cap none 0 0 (-1)) (by simp [results, Tryz.results28, go_sem, *]) rfl ⟨_, n, cap, none, 0, 0, rfl, ⟨RV.of_own O5, RV.nil _ _ _, by omega, by omega, by rw [HE.out.2]; exact HD.out.ns, by simp⟩, HB5⟩

/-- What Crash leaves. -/
theorem crash_any (A : Option Addr) (n c : Nat) (A' : Option Addr) (m c' : Nat) (f : Int) (S : List ByteArray) (W : List Wr) (B : Option Addr) (q d : Nat) (zs : List Int) (w : World) (hD : Dev w A n c A' m c' f S W) (hR : RV w B q 1 (IV zs)) :
    Calls Tryz.prog 28 #[DV A n c A' m c' f, .slice B q d] w (RetD w (if chk S W f = 0 then goAll S W (cutAt zs) else S) (if chk S W f = 0 then [] else W) (if chk S W f = 0 then -1 else f)) := by
  by_cases h : chk S W f = 0
  · rw [if_pos h, if_pos h, if_pos h]; exact crash_yes A n c A' m c' f S W B q d zs w hD hR h
  · rw [if_neg h, if_neg h, if_neg h]; exact crash_no A n c A' m c' f S W B q d w hD h

end Go.Proofs.YtkglolnghihegaaGreatDoor.Dsk

/- Variables that hold a device: they are apart from every device's rows, since no cell of theirs is a string. -/
namespace Go.Proofs.YtkglolnghihegaaGreatDoor.Dsk
open Go.RowKit

/-- No cell of block b is a string. -/
def NoStr (w : World) (b : Nat) : Prop := ∀ j s, w.cell? ⟨b, j, none⟩ ≠ some (.string s)
theorem NoStr.of_block {w w' : World} {b : Nat} (h : NoStr w b) (e : w'.heap[b]? = w.heap[b]?) : NoStr w' b := fun j s => by rw [World.cell?_of_block (a := ⟨b, j, none⟩) e]; exact h j s
theorem NoStr.call {w w' : World} {b : Nat} (h : NoStr w b) (hb : Below w.heap.size w w') (hl : b < w.heap.size) : NoStr w' b := h.of_block (hb.block b hl)
theorem NoStr.of_blk {w : World} {b : Nat} {t : TypeId} {vs : List Value} (h : Blk w b t vs) (hv : ∀ v ∈ vs, ∀ s, v ≠ .string s) : NoStr w b := fun j s e => by
  rw [cell_of_row w b j _ t _ h, List.getElem?_toArray] at e
  exact hv _ (List.mem_of_getElem? e) s rfl
theorem NoStr.set {w : World} {b : Nat} (h : NoStr w b) {i : Nat} {u : Value} (hu : w.cell? ⟨b, i, none⟩ = some u) (v : Value) (hv : ∀ s, v ≠ .string s) : NoStr (w.setCell ⟨b, i, none⟩ v) b := fun j s e => by
  by_cases hj : (⟨b, i, none⟩ : Addr) = ⟨b, j, none⟩
  · rw [← hj, World.cell?_setCell_same w ⟨b, i, none⟩ v hu] at e
    injection e with e
    exact hv s e
  · rw [World.cell?_setCell_other w ⟨b, i, none⟩ ⟨b, j, none⟩ v hj] at e
    exact h j s e

/-- A slice whose first cells hold a string is not in such a block. -/
theorem RV.secOnly {w w' : World} {a : Option Addr} {n : Nat} {S : List ByteArray} (h : RV w a n 1 (SV S)) {b : Nat} (hn : NoStr w b) (hg : w.grownBy w' (some b)) : RV w' a n 1 (SV S) := by
  refine ⟨h.1, fun h0 => ?_⟩
  obtain ⟨g, off, e, hl, hc⟩ := h.2 h0
  have hne : g ≠ b := fun e => by
    subst e
    have hl2 := h.sec
    have h3 := hc 0 (by rw [SV_length]; omega)
    simp only [SV, List.getElem_map] at h3
    exact hn _ _ h3
  exact ⟨g, off, e, Nat.lt_of_lt_of_le hl hg.size, fun i hi => (World.cell?_of_block (a := ⟨g, off + i, none⟩) (hg.block g hl (by simpa using hne))).trans (hc i hi)⟩
theorem RV.wrOnly {w w' : World} {a : Option Addr} {n : Nat} {W : List Wr} (h : RV w a n 2 (WV W)) {b : Nat} (hn : NoStr w b) (hg : w.grownBy w' (some b)) : RV w' a n 2 (WV W) := by
  refine ⟨h.1, fun h0 => ?_⟩
  obtain ⟨g, off, e, hl, hc⟩ := h.2 h0
  have hne : g ≠ b := fun e2 => by
    subst e2
    have hl2 := h.wr
    obtain ⟨b', off', e', _, _, h4⟩ := h.wrAt h0 (by omega)
    rw [e] at e'
    injection e' with e'
    injection e' with e1 e2
    subst e1
    exact hn _ _ h4
  exact ⟨g, off, e, Nat.lt_of_lt_of_le hl hg.size, fun i hi => (World.cell?_of_block (a := ⟨g, off + i, none⟩) (hg.block g hl (by simpa using hne))).trans (hc i hi)⟩
theorem Dev.only {w w' : World} {A : Option Addr} {n c : Nat} {A' : Option Addr} {m c' : Nat} {f : Int} {S : List ByteArray} {W : List Wr} (h : Dev w A n c A' m c' f S W) {b : Nat} (hn : NoStr w b) (hg : w.grownBy w' (some b)) : Dev w' A n c A' m c' f S W :=
  ⟨h.sec.secOnly hn hg, h.wr.wrOnly hn hg, h.lo, h.hi, h.ns, h.nw⟩

theorem grown_set {w w' : World} {b : Nat} (h : w.grownBy w' (some b)) (i : Nat) (v : Value) : w.grownBy (w'.setCell ⟨b, i, none⟩ v) (some b) :=
  ⟨h.os, h.tape, h.output, by simpa [World.setCell] using h.size, fun k hk hne => (Below.heap_setCell w' ⟨b, i, none⟩ v k (by rintro rfl; exact hne rfl)).trans (h.block k hk hne)⟩
/-- A store of three cells. -/
abbrev set3 (w : World) (b : Nat) (x y z : Value) : World := ((w.setCell ⟨b, 0, none⟩ x).setCell ⟨b, 1, none⟩ y).setCell ⟨b, 2, none⟩ z
theorem grown_set3 (w : World) (b : Nat) (x y z : Value) : w.grownBy (set3 w b x y z) (some b) := grown_set (grown_set (grown_set (World.grownBy.refl w _) 0 x) 1 y) 2 z

/-- Block b is a variable that holds this device's value. -/
structure St (w : World) (b : Nat) (A : Option Addr) (n c : Nat) (A' : Option Addr) (m c' : Nat) (f : Int) : Prop where
  box : Box w b (.slice A n c) (.slice A' m c') (.int .i64 f)
  ns : NoStr w b
section
variable {w w' : World} {b : Nat} {A : Option Addr} {n c : Nat} {A' : Option Addr} {m c' : Nat} {f : Int}
theorem St.lt (h : St w b A n c A' m c' f) : b < w.heap.size := h.box.lt
theorem St.of_block (h : St w b A n c A' m c' f) (e : w'.heap[b]? = w.heap[b]?) : St w' b A n c A' m c' f := ⟨h.box.of_block e, h.ns.of_block e⟩
theorem St.call (h : St w b A n c A' m c' f) (hb : Below w.heap.size w w') : St w' b A n c A' m c' f := h.of_block (hb.block b h.lt)
theorem St.alloc (h : St w b A n c A' m c' f) (o : Obj) : St (w.alloc o) b A n c A' m c' f := h.call (new1 w o)
theorem St.drew (h : St w b A n c A' m c' f) : St w.drew b A n c A' m c' f := ⟨h.box.drew, h.ns⟩
theorem St.new (w : World) (A : Option Addr) (n c : Nat) (A' : Option Addr) (m c' : Nat) (f : Int) (t : TypeId) : St (w.alloc (.cells #[.slice A n c, .slice A' m c', .int .i64 f] t)) w.heap.size A n c A' m c' f :=
  ⟨Box.new _ _ _ _ _, NoStr.of_blk (Blk.new w t #[.slice A n c, .slice A' m c', .int .i64 f]) (by simp)⟩
theorem St.set3 (h : St w b A n c A' m c' f) (B : Option Addr) (p d : Nat) (B' : Option Addr) (q d' : Nat) (g : Int) : St (set3 w b (.slice B p d) (.slice B' q d') (.int .i64 g)) b B p d B' q d' g := by
  refine ⟨h.box.set3 _ _ _, ?_⟩
  obtain ⟨c0, c1, c2, f0, f1, f2⟩ := h.box
  have n1 := h.ns.set c0 (.slice B p d) (by simp)
  have n2 := n1.set (i := 1) (u := .slice A' m c') (by simp [go_sem, c1]) (.slice B' q d') (by simp)
  exact n2.set (i := 2) (u := .int .i64 f) (by simp [go_sem, c2]) (.int .i64 g) (by simp)
theorem St.other (h : St w b A n c A' m c' f) {g : Nat} (hg : w.grownBy w' (some g)) (hne : b ≠ g) : St w' b A n c A' m c' f := h.of_block (hg.block b h.lt (by simpa using hne))
end

end Go.Proofs.YtkglolnghihegaaGreatDoor.Dsk

/- Contracts of Arm of package disk. -/
namespace Go.Proofs.YtkglolnghihegaaGreatDoor.Dsk
open Go.RowKit

theorem arm_no (A : Option Addr) (n c : Nat) (A' : Option Addr) (m c' : Nat) (f : Int) (S : List ByteArray) (W : List Wr) (p : Int) (w : World) (hD : Dev w A n c A' m c' f S W) (h : ¬ chk S W f = 0) :
    Calls Tryz.prog 24 #[DV A n c A' m c' f, .int .i64 p] w (RetD w S W f) := by
  have HC := Lib.hid (check_any A n c A' m c' f S W _ ((hD.new (D33 A n c A' m c' f)).new (D33 none 0 0 none 0 0 0)))
  have HD := Lib.hid hD
  have hne := neq0 h
  generalize chk S W f = e0 at *
  clear hD h
  go_enter Tryz.func24, Tryz.ntmps24
  go_wp2_with fail
  refine HC.out.mono ?_
  rintro e w1 ⟨rfl, hb1⟩
  have HB := Lib.hid (((new1 w _).push _).call hb1)
  obtain ⟨hc, hf⟩ := bcell hb1
  clear hb1
  go_wp2
  have HB3 := ((HB.out.setCell (p := ⟨w.heap.size + 1, 0, none⟩) (by simp) (.slice A n c)).setCell (p := ⟨w.heap.size + 1, 1, none⟩) (by simp) (.slice A' m c')).setCell (p := ⟨w.heap.size + 1, 2, none⟩) (by simp) (.int .i64 f)
  exact bodyPost_ret (v := DV A n c A' m c' f) (by simp [results, Tryz.results24, go_sem, hc]) rfl ⟨A, n, c, A', m, c', rfl, HD.out.below HB3, HB3⟩

/-- Two rows of the call's own, and a store of three cells into a block that is neither's. -/
theorem keep3 {w w' : World} {B B' e e' n m : Nat} {a a' : Option Addr} {c c' : Nat} {S : List ByteArray} {W : List Wr} (h1 : w'.ownsRow B e 1 (.slice a n c) n (SV S)) (h2 : w'.ownsRow B' e' 2 (.slice a' m c') m (WV W)) (hb : Below w.heap.size w w')
    (l1 : w.heap.size + 1 < B) (l2 : w.heap.size + 1 < B') (x y z : Value) :
    RV (((w'.setCell ⟨w.heap.size + 1, 0, none⟩ x).setCell ⟨w.heap.size + 1, 1, none⟩ y).setCell ⟨w.heap.size + 1, 2, none⟩ z) a n 1 (SV S) ∧
    RV (((w'.setCell ⟨w.heap.size + 1, 0, none⟩ x).setCell ⟨w.heap.size + 1, 1, none⟩ y).setCell ⟨w.heap.size + 1, 2, none⟩ z) a' m 2 (WV W) ∧
    Below w.heap.size w (((w'.setCell ⟨w.heap.size + 1, 0, none⟩ x).setCell ⟨w.heap.size + 1, 1, none⟩ y).setCell ⟨w.heap.size + 1, 2, none⟩ z) :=
  ⟨RV.of_own (ownsRow_setCell_below (ownsRow_setCell_below (ownsRow_setCell_below h1 l1 _) l1 _) l1 _), RV.of_own (ownsRow_setCell_below (ownsRow_setCell_below (ownsRow_setCell_below h2 l2 _) l2 _) l2 _),
   ((hb.setCell (by simp) _).setCell (by simp) _).setCell (by simp) _⟩

set_option maxRecDepth 100000 in
set_option maxHeartbeats 1000000 in
theorem arm_lo (A : Option Addr) (n c : Nat) (A' : Option Addr) (m c' : Nat) (f : Int) (S : List ByteArray) (W : List Wr) (p : Int) (w : World) (hD : Dev w A n c A' m c' f S W) (h : chk S W f = 0) (h1 : p < -1) :
    Calls Tryz.prog 24 #[DV A n c A' m c' f, .int .i64 p] w (RetD w S W (-1)) := by
  have hc := check_any A n c A' m c' f S W _ ((hD.new (D33 A n c A' m c' f)).new (D33 none 0 0 none 0 0 0))
  rw [h] at hc
  have HC := Lib.hid hc
  have HD := Lib.hid hD
  clear hD h hc
  go_enter Tryz.func24, Tryz.ntmps24
  go_wp2_with fail
  refine HC.out.mono ?_
  rintro e w1 ⟨rfl, hb1⟩
  have HB := Lib.hid (((new1 w _).push _).call hb1)
  have HX := Lib.hid (((Box.new w (.slice A n c) (.slice A' m c') (.int .i64 f) 29).alloc (D33 none 0 0 none 0 0 0)).call hb1)
  have HY := Lib.hid (by have := (Box.new (w.alloc (D33 A n c A' m c' f)) (.slice none 0 0) (.slice none 0 0) (.int .i64 0) 29).call hb1; rwa [World.size_alloc] at this)
  have hzz : w.heap.size + 1 < w1.heap.size := HY.out.lt
  obtain ⟨c0, c1, c2, f0, f1, f2⟩ := HX.out
  clear hb1
  go_wp2_with fail
  have HT := Lib.hid (clone_any A n c S w1.drew (HD.out.sec.below HB.out.drew) (by have := HD.out.sec.sec; have := HD.out.ns; omega))
  go_region_held3 (fun W => W.cell? ⟨w.heap.size, 0, none⟩ = some (.slice A n c) ∧ W.cell? ⟨w.heap.size, 1, none⟩ = some (.slice A' m c')) (go_keep)
    (first
      | (go_at_call 53; ((with_reducible refine HT.out.mono ?_)); rintro r w4 ⟨v, rfl, hown, hb4⟩; obtain ⟨a4, cap4, rfl⟩ := own_val hown; obtain ⟨hc, hf⟩ := bcell hb4; have q0 : w4.cell? ⟨w.heap.size, 0, none⟩ = some (.slice A n c) := (by rw [hc _ _ (by simp; omega)]; simp [*]); have q2 : w4.cell? ⟨w.heap.size, 1, none⟩ = some (.slice A' m c') := (by rw [hc _ _ (by simp; omega)]; simp [*]); have HB4 := Lib.hid (HB.out.call (undrew hb4)); have HY4 := Lib.hid (HY.out.call (undrew hb4)); have HO := Lib.hid hown; have hz4 := hb4.size; have HU := Lib.hid (wclone_any A' m c' W w4 (HD.out.wr.below HB4.out) (by have := HD.out.wr.wr; have := HD.out.nw; omega)); clear hc hf hown hb4)
      | (go_at_call 54; ((with_reducible refine HU.out.mono ?_)); rintro r w5 ⟨v, rfl, hown, hb5⟩; obtain ⟨a5, cap5, rfl⟩ := own_val hown; obtain ⟨hc, hf⟩ := bcell hb5; have r0 : w5.cell? ⟨w.heap.size, 0, none⟩ = some (.slice A n c) := (by rw [hc _ _ (by simp at hz4; omega)]; simp [*]); have r2 : w5.cell? ⟨w.heap.size, 1, none⟩ = some (.slice A' m c') := (by rw [hc _ _ (by simp at hz4; omega)]; simp [*]); have HB5 := Lib.hid (HB4.out.call hb5); have HY5 := Lib.hid (HY4.out.call hb5); have HO5 := Lib.hid hown; have HO4 := Lib.hid (HO.out.kept ⟨hb5.os, hb5.tape, hb5.output, hb5.size, fun k hk _ => hb5.block k hk⟩ (row := none) (by cases a4 <;> simp [Value.ownBlock])); obtain ⟨z0, z1, z2, v0, v1, v2⟩ := HY5.out; have hz5 := hb5.size; clear hc hf hown hb5))
  go_wp2_with fail
  simp only [World.size_drew] at hz4
  have K5 := fun z : Int => keep3 HO4.out HO5.out HB5.out (show w.heap.size + 1 < w1.drew.heap.size by simp; omega) (show w.heap.size + 1 < w4.heap.size by omega) (.slice a4 n cap4) (.slice a5 m cap5) (.int .i64 z)
  exact bodyPost_ret (v := DV a4 n cap4 a5 m cap5 (-1)) (by simp [results, Tryz.results24, go_sem, z0, z1, z2]) rfl ⟨_, n, cap4, _, m, cap5, rfl, ⟨(K5 (-1)).1, (K5 (-1)).2.1, by omega, by omega, HD.out.ns, HD.out.nw⟩, (K5 (-1)).2.2⟩

set_option maxRecDepth 100000 in
set_option maxHeartbeats 1000000 in
theorem arm_in (A : Option Addr) (n c : Nat) (A' : Option Addr) (m c' : Nat) (f : Int) (S : List ByteArray) (W : List Wr) (p : Int) (w : World) (hD : Dev w A n c A' m c' f S W) (h : chk S W f = 0) (h1 : -1 ≤ p) (h2 : p ≤ 1073741824) :
    Calls Tryz.prog 24 #[DV A n c A' m c' f, .int .i64 p] w (RetD w S W p) := by
  have hc := check_any A n c A' m c' f S W _ ((hD.new (D33 A n c A' m c' f)).new (D33 none 0 0 none 0 0 0))
  rw [h] at hc
  have HC := Lib.hid hc
  have HD := Lib.hid hD
  clear hD h hc
  go_enter Tryz.func24, Tryz.ntmps24
  go_wp2_with fail
  refine HC.out.mono ?_
  rintro e w1 ⟨rfl, hb1⟩
  have HB := Lib.hid (((new1 w _).push _).call hb1)
  have HX := Lib.hid (((Box.new w (.slice A n c) (.slice A' m c') (.int .i64 f) 29).alloc (D33 none 0 0 none 0 0 0)).call hb1)
  have HY := Lib.hid (by have := (Box.new (w.alloc (D33 A n c A' m c' f)) (.slice none 0 0) (.slice none 0 0) (.int .i64 0) 29).call hb1; rwa [World.size_alloc] at this)
  have hzz : w.heap.size + 1 < w1.heap.size := HY.out.lt
  obtain ⟨c0, c1, c2, f0, f1, f2⟩ := HX.out
  clear hb1
  go_wp2_with fail
  have HT := Lib.hid (clone_any A n c S w1.drew (HD.out.sec.below HB.out.drew) (by have := HD.out.sec.sec; have := HD.out.ns; omega))
  go_region_held3 (fun W => W.cell? ⟨w.heap.size, 0, none⟩ = some (.slice A n c) ∧ W.cell? ⟨w.heap.size, 1, none⟩ = some (.slice A' m c')) (go_keep)
    (first
      | (go_at_call 53; ((with_reducible refine HT.out.mono ?_)); rintro r w4 ⟨v, rfl, hown, hb4⟩; obtain ⟨a4, cap4, rfl⟩ := own_val hown; obtain ⟨hc, hf⟩ := bcell hb4; have q0 : w4.cell? ⟨w.heap.size, 0, none⟩ = some (.slice A n c) := (by rw [hc _ _ (by simp; omega)]; simp [*]); have q2 : w4.cell? ⟨w.heap.size, 1, none⟩ = some (.slice A' m c') := (by rw [hc _ _ (by simp; omega)]; simp [*]); have HB4 := Lib.hid (HB.out.call (undrew hb4)); have HY4 := Lib.hid (HY.out.call (undrew hb4)); have HO := Lib.hid hown; have hz4 := hb4.size; have HU := Lib.hid (wclone_any A' m c' W w4 (HD.out.wr.below HB4.out) (by have := HD.out.wr.wr; have := HD.out.nw; omega)); clear hc hf hown hb4)
      | (go_at_call 54; ((with_reducible refine HU.out.mono ?_)); rintro r w5 ⟨v, rfl, hown, hb5⟩; obtain ⟨a5, cap5, rfl⟩ := own_val hown; obtain ⟨hc, hf⟩ := bcell hb5; have r0 : w5.cell? ⟨w.heap.size, 0, none⟩ = some (.slice A n c) := (by rw [hc _ _ (by simp at hz4; omega)]; simp [*]); have r2 : w5.cell? ⟨w.heap.size, 1, none⟩ = some (.slice A' m c') := (by rw [hc _ _ (by simp at hz4; omega)]; simp [*]); have HB5 := Lib.hid (HB4.out.call hb5); have HY5 := Lib.hid (HY4.out.call hb5); have HO5 := Lib.hid hown; have HO4 := Lib.hid (HO.out.kept ⟨hb5.os, hb5.tape, hb5.output, hb5.size, fun k hk _ => hb5.block k hk⟩ (row := none) (by cases a4 <;> simp [Value.ownBlock])); obtain ⟨z0, z1, z2, v0, v1, v2⟩ := HY5.out; have hz5 := hb5.size; clear hc hf hown hb5))
  go_wp2_with fail
  simp only [World.size_drew] at hz4
  have K5 := fun z : Int => keep3 HO4.out HO5.out HB5.out (show w.heap.size + 1 < w1.drew.heap.size by simp; omega) (show w.heap.size + 1 < w4.heap.size by omega) (.slice a4 n cap4) (.slice a5 m cap5) (.int .i64 z)
  exact bodyPost_ret (v := DV a4 n cap4 a5 m cap5 p) (by simp [results, Tryz.results24, go_sem, z0, z1, z2]) rfl ⟨_, n, cap4, _, m, cap5, rfl, ⟨(K5 p).1, (K5 p).2.1, by omega, by omega, HD.out.ns, HD.out.nw⟩, (K5 p).2.2⟩

set_option maxRecDepth 100000 in
set_option maxHeartbeats 1000000 in
theorem arm_hi (A : Option Addr) (n c : Nat) (A' : Option Addr) (m c' : Nat) (f : Int) (S : List ByteArray) (W : List Wr) (p : Int) (w : World) (hD : Dev w A n c A' m c' f S W) (h : chk S W f = 0) (h1 : 1073741824 < p) :
    Calls Tryz.prog 24 #[DV A n c A' m c' f, .int .i64 p] w (RetD w S W 1073741824) := by
  have hc := check_any A n c A' m c' f S W _ ((hD.new (D33 A n c A' m c' f)).new (D33 none 0 0 none 0 0 0))
  rw [h] at hc
  have HC := Lib.hid hc
  have HD := Lib.hid hD
  clear hD h hc
  go_enter Tryz.func24, Tryz.ntmps24
  go_wp2_with fail
  refine HC.out.mono ?_
  rintro e w1 ⟨rfl, hb1⟩
  have HB := Lib.hid (((new1 w _).push _).call hb1)
  have HX := Lib.hid (((Box.new w (.slice A n c) (.slice A' m c') (.int .i64 f) 29).alloc (D33 none 0 0 none 0 0 0)).call hb1)
  have HY := Lib.hid (by have := (Box.new (w.alloc (D33 A n c A' m c' f)) (.slice none 0 0) (.slice none 0 0) (.int .i64 0) 29).call hb1; rwa [World.size_alloc] at this)
  have hzz : w.heap.size + 1 < w1.heap.size := HY.out.lt
  obtain ⟨c0, c1, c2, f0, f1, f2⟩ := HX.out
  clear hb1
  go_wp2_with fail
  have HT := Lib.hid (clone_any A n c S w1.drew (HD.out.sec.below HB.out.drew) (by have := HD.out.sec.sec; have := HD.out.ns; omega))
  go_region_held3 (fun W => W.cell? ⟨w.heap.size, 0, none⟩ = some (.slice A n c) ∧ W.cell? ⟨w.heap.size, 1, none⟩ = some (.slice A' m c')) (go_keep)
    (first
      | (go_at_call 53; ((with_reducible refine HT.out.mono ?_)); rintro r w4 ⟨v, rfl, hown, hb4⟩; obtain ⟨a4, cap4, rfl⟩ := own_val hown; obtain ⟨hc, hf⟩ := bcell hb4; have q0 : w4.cell? ⟨w.heap.size, 0, none⟩ = some (.slice A n c) := (by rw [hc _ _ (by simp; omega)]; simp [*]); have q2 : w4.cell? ⟨w.heap.size, 1, none⟩ = some (.slice A' m c') := (by rw [hc _ _ (by simp; omega)]; simp [*]); have HB4 := Lib.hid (HB.out.call (undrew hb4)); have HY4 := Lib.hid (HY.out.call (undrew hb4)); have HO := Lib.hid hown; have hz4 := hb4.size; have HU := Lib.hid (wclone_any A' m c' W w4 (HD.out.wr.below HB4.out) (by have := HD.out.wr.wr; have := HD.out.nw; omega)); clear hc hf hown hb4)
      | (go_at_call 54; ((with_reducible refine HU.out.mono ?_)); rintro r w5 ⟨v, rfl, hown, hb5⟩; obtain ⟨a5, cap5, rfl⟩ := own_val hown; obtain ⟨hc, hf⟩ := bcell hb5; have r0 : w5.cell? ⟨w.heap.size, 0, none⟩ = some (.slice A n c) := (by rw [hc _ _ (by simp at hz4; omega)]; simp [*]); have r2 : w5.cell? ⟨w.heap.size, 1, none⟩ = some (.slice A' m c') := (by rw [hc _ _ (by simp at hz4; omega)]; simp [*]); have HB5 := Lib.hid (HB4.out.call hb5); have HY5 := Lib.hid (HY4.out.call hb5); have HO5 := Lib.hid hown; have HO4 := Lib.hid (HO.out.kept ⟨hb5.os, hb5.tape, hb5.output, hb5.size, fun k hk _ => hb5.block k hk⟩ (row := none) (by cases a4 <;> simp [Value.ownBlock])); obtain ⟨z0, z1, z2, v0, v1, v2⟩ := HY5.out; have hz5 := hb5.size; clear hc hf hown hb5))
  go_wp2_with fail
  simp only [World.size_drew] at hz4
  have K5 := fun z : Int => keep3 HO4.out HO5.out HB5.out (show w.heap.size + 1 < w1.drew.heap.size by simp; omega) (show w.heap.size + 1 < w4.heap.size by omega) (.slice a4 n cap4) (.slice a5 m cap5) (.int .i64 z)
  exact bodyPost_ret (v := DV a4 n cap4 a5 m cap5 1073741824) (by simp [results, Tryz.results24, go_sem, z0, z1, z2]) rfl ⟨_, n, cap4, _, m, cap5, rfl, ⟨(K5 1073741824).1, (K5 1073741824).2.1, by omega, by omega, HD.out.ns, HD.out.nw⟩, (K5 1073741824).2.2⟩

theorem arm_any (A : Option Addr) (n c : Nat) (A' : Option Addr) (m c' : Nat) (f : Int) (S : List ByteArray) (W : List Wr) (p : Int) (w : World) (hD : Dev w A n c A' m c' f S W) :
    Calls Tryz.prog 24 #[DV A n c A' m c' f, .int .i64 p] w (RetD w S W (if chk S W f = 0 then armF p else f)) := by
  by_cases h : chk S W f = 0
  · rw [if_pos h]
    by_cases h1 : p < -1
    · rw [show armF p = -1 by unfold armF; omega]; exact arm_lo A n c A' m c' f S W p w hD h h1
    · by_cases h2 : 1073741824 < p
      · rw [show armF p = 1073741824 by unfold armF; omega]; exact arm_hi A n c A' m c' f S W p w hD h h2
      · rw [show armF p = p by unfold armF; omega]; exact arm_in A n c A' m c' f S W p w hD h (by omega) (by omega)
  · rw [if_neg h]; exact arm_no A n c A' m c' f S W p w hD h

end Go.Proofs.YtkglolnghihegaaGreatDoor.Dsk

/- A slice of numbers of the call's own, its block known whole; appends onto it. -/
namespace Go.Proofs.YtkglolnghihegaaGreatDoor.Dsk
open Go.RowKit

/-- The slice value v is a row of the call's own that reads as zs; all cells of its block are numbers. -/
def IRow (w : World) (base : Nat) (v : Value) (zs : List Int) : Prop :=
  (v = .slice none 0 0 ∧ zs = []) ∨ ∃ g cap rest, v = .slice (some ⟨g, 0, none⟩) zs.length cap ∧ base ≤ g ∧ Blk w g 3 (IV (zs ++ rest)) ∧ zs.length + rest.length = cap ∧ cap ≤ maxLen

theorem IV_append (a b : List Int) : IV (a ++ b) = IV a ++ IV b := by simp [IV]
theorem IRow.nil (w : World) (base : Nat) : IRow w base (.slice none 0 0) [] := .inl ⟨rfl, rfl⟩
theorem IRow.val {w : World} {base : Nat} {v : Value} {zs : List Int} (h : IRow w base v zs) : ∃ a cap, v = .slice a zs.length cap ∧ RV w a zs.length 1 (IV zs) := by
  rcases h with ⟨rfl, rfl⟩ | ⟨g, cap, rest, rfl, hb, hB, hc, hm⟩
  · exact ⟨none, 0, rfl, RV.nil _ _ _⟩
  · refine ⟨_, cap, rfl, ⟨by rw [IV_length]; omega, fun _ => ⟨g, 0, rfl, hB.lt, fun i hi => ?_⟩⟩⟩
    have hi' : i < (IV (zs ++ rest)).length := by rw [IV_append, List.length_append]; omega
    rw [Nat.zero_add, hB.cell hi']
    simp only [IV_append]
    rw [List.getElem_append_left hi]
theorem IRow.lt {w : World} {base : Nat} {v : Value} {zs : List Int} (h : IRow w base v zs) : ∀ g, v.ownBlock = some g → base ≤ g ∧ g < w.heap.size := by
  intro g hg
  rcases h with ⟨rfl, rfl⟩ | ⟨g', cap, rest, rfl, hb, hB, hc, hm⟩
  · simp [Value.ownBlock] at hg
  · simp only [Value.ownBlock, Option.some.injEq] at hg
    subst hg
    exact ⟨hb, hB.lt⟩
theorem IRow.kept {w w' : World} {base : Nat} {v : Value} {zs : List Int} (h : IRow w base v zs) (hg : ∀ g, v.ownBlock = some g → w'.heap[g]? = w.heap[g]?) : IRow w' base v zs := by
  rcases h with ⟨rfl, rfl⟩ | ⟨g', cap, rest, rfl, hb, hB, hc, hm⟩
  · exact .inl ⟨rfl, rfl⟩
  · exact .inr ⟨g', cap, rest, rfl, hb, hB.of_block (hg g' rfl), hc, hm⟩
theorem IRow.call {w w' : World} {base : Nat} {v : Value} {zs : List Int} (h : IRow w base v zs) (hb : Below w.heap.size w w') : IRow w' base v zs := h.kept fun g hg => hb.block g (h.lt g hg).2
theorem IRow.other {w w' : World} {base : Nat} {v : Value} {zs : List Int} (h : IRow w base v zs) {b : Nat} (hg : w.grownBy w' (some b)) (hne : v.ownBlock ≠ some b) : IRow w' base v zs :=
  h.kept fun g e => hg.block g (h.lt g e).2 (by rw [← e]; exact hne)
theorem IV_nostr (zs : List Int) : ∀ v ∈ IV zs, ∀ s, v ≠ .string s := by
  intro v hv s
  obtain ⟨x, _, rfl⟩ := List.mem_map.1 hv
  simp
theorem IRow.noStr {w : World} {base : Nat} {v : Value} {zs : List Int} (h : IRow w base v zs) : ∀ g, v.ownBlock = some g → NoStr w g := by
  intro g hg
  rcases h with ⟨rfl, rfl⟩ | ⟨g', cap, rest, rfl, hb, hB, hc, hm⟩
  · simp [Value.ownBlock] at hg
  · simp only [Value.ownBlock, Option.some.injEq] at hg
    subst hg
    exact NoStr.of_blk hB (IV_nostr _)

theorem zeros_int (n : Nat) : (Builtin.zeroCells #[Value.int .i64 0] n).toList = IV (List.replicate n 0) := by
  apply List.ext_getElem
  · simp [Builtin.zeroCells, IV]
  · intro i h1 h2
    have e : i % 1 = 0 := Nat.mod_one i
    simp [Builtin.zeroCells, IV, e]

/-- One number more. -/
theorem IRow.append {w : World} {base : Nat} {v : Value} {zs : List Int} (h : IRow w base v zs) (a : Addr) (c : Nat) (x : Int) (hx : w.cell? a = some (.int .i64 x)) (hk : zs.length ≤ 100000) (hb : base ≤ w.heap.size) :
    ∃ v' w', (Builtin.append_ #[111, 111] 111 #[v, .slice (some a) 1 c]).run Tryz.prog w = .ok v' w' ∧ IRow w' base v' (zs ++ [x]) ∧ w.grownBy w' v.ownBlock ∧ (v'.ownBlock = v.ownBlock ∨ v'.ownBlock = some w.heap.size) := by
  obtain ⟨i, hi, hz⟩ := Option.map_eq_some_iff.1 info3
  simp only [Prod.mk.injEq] at hz
  obtain ⟨hz1, hz2, hz3⟩ := hz
  have hnews : ∀ j u, [Value.int .i64 x][j]? = some u → w.cell? (a.add j) = some u := by
    intro j u hu
    cases j with
    | zero => simp at hu; subst hu; simpa [Addr.add] using hx
    | succ j => simp at hu
  have hl : [Value.int .i64 x].length = 1 * i.size := by rw [hz2]; rfl
  rcases h with ⟨rfl, rfl⟩ | ⟨g, cap, rest, rfl, hbg, hB, hc, hm⟩
  · have hr := run_append_nil (P := Tryz.prog) w 111 111 3 i _ Tryz.underlying111 hi hz1 a 1 c [.int .i64 x] hl hnews (by omega) (by omega) (by rw [hz3]; omega)
    have hge := grownCap_ge w 1 0 3
    refine ⟨_, _, hr, .inr ⟨w.heap.size, _, List.replicate (grownCap w 1 0 3 - 1) 0, rfl, hb, ?_, by simp; omega, grownCap_le_maxLen w 1 0 3 (by unfold maxLen; omega)⟩, ⟨rfl, rfl, rfl, by simp, fun k hk _ => Below.heap_alloc w.drew _ k hk⟩, .inr rfl⟩
    have hn := Blk.new w.drew 3 ([Value.int .i64 x].toArray ++ Builtin.zeroCells #[Value.int .i64 0] (grownCap w 1 0 3 - 1))
    rw [Array.toList_append, zeros_int] at hn
    rw [List.nil_append, IV_append]
    exact hn
  · by_cases hroom : zs.length + 1 ≤ cap
    · match rest, hc with
      | [], hc => simp at hc; omega
      | r :: rs, hc =>
        have hr := run_append_room (P := Tryz.prog) w 111 111 3 i Tryz.underlying111 hi g zs.length cap (IV (zs ++ r :: rs)).toArray hB a 1 c [.int .i64 x] hl hnews (by simp [Value.oneCell']) hroom (by rw [hz2]; simp [IV])
        refine ⟨_, _, hr, .inr ⟨g, cap, rs, by simp, hbg, ?_, by simp at hc ⊢; omega, hm⟩, ⟨rfl, rfl, rfl, by simp, fun k _ hk => setRow_other w g k _ (fun e => hk (by simp [Value.ownBlock, e]))⟩, .inl rfl⟩
        have hs := setRow_heap w g (IV (zs ++ r :: rs)).toArray ((IV (zs ++ r :: rs)).toArray.toList.take (zs.length * i.size) ++ [Value.int .i64 x] ++ (IV (zs ++ r :: rs)).toArray.toList.drop (zs.length * i.size + [Value.int .i64 x].length)).toArray 3 _ hB
        have e : (IV (zs ++ r :: rs)).toArray.toList.take (zs.length * i.size) ++ [Value.int .i64 x] ++ (IV (zs ++ r :: rs)).toArray.toList.drop (zs.length * i.size + [Value.int .i64 x].length) = IV (zs ++ [x] ++ rs) := by
          rw [hz2]
          simp [IV, List.drop_append]
        rw [e] at hs ⊢
        exact hs
    · have hrest : rest = [] := List.eq_nil_of_length_eq_zero (by omega)
      subst hrest
      rw [List.append_nil] at hB
      have holds : ∀ j u, (IV zs)[j]? = some u → w.cell? ((⟨g, 0, none⟩ : Addr).add j) = some u := fun j u hu => by
        obtain ⟨hj, rfl⟩ := List.getElem?_eq_some_iff.1 hu
        rw [add_none, Nat.zero_add]; exact hB.cell hj
      have hr := run_append_grow (P := Tryz.prog) w 111 111 3 i _ Tryz.underlying111 hi hz1 ⟨g, 0, none⟩ zs.length cap (IV zs) (by rw [IV_length, hz2]; omega) holds a 1 c [.int .i64 x] hl hnews (by omega) (by omega) (growslice_fits (by omega) (by rw [hz3]; omega))
      have hge := grownCap_ge w (zs.length + 1) cap 3
      refine ⟨_, _, hr, .inr ⟨w.heap.size, grownCap w (zs.length + 1) cap 3, List.replicate (grownCap w (zs.length + 1) cap 3 - (zs.length + 1)) 0, by simp, hb, ?_, by simp; omega, grownCap_le_maxLen w _ _ 3 (by unfold maxLen; omega)⟩, ⟨rfl, rfl, rfl, by simp, fun k hk _ => Below.heap_alloc w.drew _ k hk⟩, .inr rfl⟩
      have hn := Blk.new w.drew 3 ((IV zs).toArray ++ [Value.int .i64 x].toArray ++ Builtin.zeroCells #[Value.int .i64 0] (grownCap w (zs.length + 1) cap 3 - (zs.length + 1)))
      rw [Array.toList_append, Array.toList_append, zeros_int] at hn
      rw [IV_append, IV_append]
      exact hn

end Go.Proofs.YtkglolnghihegaaGreatDoor.Dsk
