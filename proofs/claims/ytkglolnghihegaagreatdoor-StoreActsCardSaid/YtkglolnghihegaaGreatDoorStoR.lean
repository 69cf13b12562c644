import Derived.Test.YtkglolnghihegaaGreatDoorStoC
import Derived.Test.YtkglolnghihegaaGreatDoorSltE
import Derived.Test.YtkglolnghihegaaGreatDoorDskR
import Derived.Test.YtkglolnghihegaaGreatDoorSltR
import Derived.Test.YtkglolnghihegaaGreatDoorSlotsOwn
import Derived.Deep.RegionHeld3

/- Contracts of Save of package errandref08. -/
namespace Go.Proofs.YtkglolnghihegaaGreatDoor.Sto
open Go.RowKit Go.Proofs.YtkglolnghihegaaGreatDoor.Dsk Go.Proofs.YtkglolnghihegaaGreatDoor.Slt Go.Proofs.YtkglolnghihegaaGreatDoor.Shf Go.Proofs.YtkglolnghihegaaGreatDoor.Jrn
open Go.Proofs.YtkglolnghihegaaGreatDoor.Crc (Tab)

section
variable (A : Option Addr) (n c : Nat) (A' : Option Addr) (m c' : Nat) (f : Int) (S : List ByteArray) (V : List Wr) (w : World) (hD : Dev w A n c A' m c' f S V)
include hD

set_option maxHeartbeats 2000000 in
theorem rsav_walk0 (x1 x2 x3 x4 : Int) (x5 : Bool) (t : ByteArray) (S2 : List ByteArray) (V2 : List Wr) (F2 p2 st2 e2 : Int) (HPR : Hid (saveR S V f 1 x2 x2 t = ⟨S2, V2, F2, p2, st2, e2⟩)) :
    Calls Tryz.prog 16 #[.agg #[.slice A n c, .slice A' m c', .int .i64 f, .int .i64 0, .int .i64 x1, .int .i64 x2, .int .i64 x3, .int .i64 x4, .bool x5], .string t] w (RetT w (if e2 = 0 then ⟨S2, V2, F2, ⟨1, x2, st2, 2 * sizR S2.length, 0, true⟩, 0⟩ else ⟨S2, V2, F2, ⟨0, x1, x2, x3, x4, x5⟩, e2⟩)) := by
  have hb0 : Below w.heap.size w ((w.alloc (TO 37 A n c A' m c' f 0 x1 x2 x3 x4 x5)).alloc (TO 37 none 0 0 none 0 0 0 0 0 0 0 0 false)) := (new1 _ _).push _
  have hX0 : Sy 37 ((w.alloc (TO 37 A n c A' m c' f 0 x1 x2 x3 x4 x5)).alloc (TO 37 none 0 0 none 0 0 0 0 0 0 0 0 false)) w.heap.size A n c A' m c' f 0 x1 x2 x3 x4 x5 := (Sy.new 37 w A n c A' m c' f 0 x1 x2 x3 x4 x5).alloc _
  have hY0 : Sy 37 ((w.alloc (TO 37 A n c A' m c' f 0 x1 x2 x3 x4 x5)).alloc (TO 37 none 0 0 none 0 0 0 0 0 0 0 0 false)) (w.heap.size + 1) none 0 0 none 0 0 0 0 0 0 0 0 false := by
    have := Sy.new 37 (w.alloc (TO 37 A n c A' m c' f 0 x1 x2 x3 x4 x5)) none 0 0 none 0 0 0 0 0 0 0 0 false
    rwa [World.size_alloc] at this
  have HS := Lib.hid (rsave_any A n c A' m c' f S V 1 x2 x2 t _ (hD.below hb0))
  rw [HPR.out] at HS
  unfold RetS at HS
  dsimp only at HS
  have HBg := Lib.hid (fun W => (rbegin_any S2.length W).mono (R' := fun r w' => r = .returned (.int .i64 (2 * sizR S2.length)) ∧ Below W.heap.size W w') (fun _ _ h => ⟨h.1, h.2 ▸ Below.refl _ _⟩))
  have HB0 := Lib.hid hb0
  have HX0 := Lib.hid hX0
  have HY0 := Lib.hid hY0
  clear hD hb0 hX0 hY0 HPR
  unfold RetT
  by_cases he : e2 = 0
  · subst he
    rw [if_pos rfl]
    dsimp only
    generalize 2 * sizR S2.length = yb at *
    go_enter Tryz.func16, Tryz.ntmps16
    go_upto_region 1 with fail
    generalize (w.alloc (TO 37 A n c A' m c' f 0 x1 x2 x3 x4 x5)).alloc (TO 37 none 0 0 none 0 0 0 0 0 0 0 0 false) = w0 at *
    obtain ⟨c0, c1, c2, c3, c4, c5, c6, c7, c8⟩ := HX0.out.cells
    have hlx := HX0.out.lt
    go_wp2_with fail
    with_reducible refine HS.out.mono ?_
    rintro r w1 ⟨A2, n2, j2, A2', m2, j2', rfl, hd2, hb2⟩
    have ne1 : ¬ w.heap.size + 1 = w1.heap.size := by have := (HY0.out.call hb2).lt; omega
    have ne2 : ¬ w1.heap.size = w.heap.size + 1 := fun e => ne1 e.symm
    have hwa : IntKind.i64.wrap 1 = 1 := by decide
    have hwb : IntKind.i64.wrap 0 = 0 := by decide
    have hwc : IntKind.i64.wrap (1 - 1) = 0 := by decide
    have hwd : IntKind.i64.wrap (1 - 0) = 1 := by decide
    have hn2 := hd2.sec.sec
    have HXa := Lib.hid ((HX0.out.call hb2).alloc (D25 A2 n2 j2 A2' m2 j2' F2))
    have HYa := Lib.hid ((HY0.out.call hb2).alloc (D25 A2 n2 j2 A2' m2 j2' F2))
    have HBa := Lib.hid ((HB0.out.call hb2).push (D25 A2 n2 j2 A2' m2 j2' F2))
    have HDa := Lib.hid (hd2.new (D25 A2 n2 j2 A2' m2 j2' F2))
    have HVa := Lib.hid (St.new w1 A2 n2 j2 A2' m2 j2' F2 25)
    rw [hn2] at HBg
    clear hd2 hb2 HS c0 c1 c2 c3 c4 c5 c6 c7 c8 hlx hn2
    obtain ⟨c0, c1, c2, c3, c4, c5, c6, c7, c8⟩ := HXa.out.cells
    have hlx := HXa.out.lt
    obtain ⟨y0, y1, y2, y3, y4, y5, y6, y7, y8⟩ := HYa.out.cells
    obtain ⟨g0, g1, g2, g3, g4, g5, g6, g7, g8⟩ := HYa.out.live
    have hly := HYa.out.lt
    obtain ⟨v0, v1, v2, u0, u1, u2⟩ := HVa.out.box
    have hlv := HVa.out.lt
    go_upto_region 7 with fail
    generalize w1.alloc (D25 A2 n2 j2 A2' m2 j2' F2) = w2 at *
    go_region_held3 (fun W => W.cell? ⟨w1.heap.size, 0, none⟩ = some (.slice A2 n2 j2) ∧ W.cell? ⟨w1.heap.size, 1, none⟩ = some (.slice A2' m2 j2') ∧ W.cell? ⟨w1.heap.size, 2, none⟩ = some (.int .i64 F2) ∧ W.cell? ⟨w.heap.size, 5, none⟩ = some (.int .i64 x2) ∧ W.cell? ⟨w.heap.size, 3, none⟩ = some (.int .i64 0)) (go_keep)
      (first | (go_at_call 40; ((with_reducible refine (HBg.out _).mono ?_)); rintro r w6 ⟨rfl, hb6⟩; have hbw6 : Below w2.heap.size w2 w6 := (Below.call (by repeat (first | exact Below.refl _ _ | refine Below.drew ?_)) hb6); have q0 : w6.cell? ⟨w1.heap.size, 0, none⟩ = some (.slice A2 n2 j2) := (by rw [hbw6.cell (p := ⟨w1.heap.size, 0, none⟩) hlv]; exact v0); have q1 : w6.cell? ⟨w1.heap.size, 1, none⟩ = some (.slice A2' m2 j2') := (by rw [hbw6.cell (p := ⟨w1.heap.size, 1, none⟩) hlv]; exact v1); have q2 : w6.cell? ⟨w1.heap.size, 2, none⟩ = some (.int .i64 F2) := (by rw [hbw6.cell (p := ⟨w1.heap.size, 2, none⟩) hlv]; exact v2); have q3 : w6.cell? ⟨w.heap.size, 5, none⟩ = some (.int .i64 x2) := (by rw [hbw6.cell (p := ⟨w.heap.size, 5, none⟩) hlx]; exact c5); have q4 : w6.cell? ⟨w.heap.size, 3, none⟩ = some (.int .i64 0) := (by rw [hbw6.cell (p := ⟨w.heap.size, 3, none⟩) hlx]; exact c3); have HD6 := Lib.hid (HDa.out.below hbw6); have HY6 := Lib.hid (HYa.out.call hbw6); have HB6 := Lib.hid (HBa.out.call hbw6); obtain ⟨y0, y1, y2, y3, y4, y5, y6, y7, y8⟩ := HY6.out.cells; obtain ⟨g0, g1, g2, g3, g4, g5, g6, g7, g8⟩ := HY6.out.live; have hly := HY6.out.lt; clear hb6))
    all_goals (
      go_wp2_with fail
      obtain ⟨hY4, hg4⟩ := HY6.out.put A2 n2 j2 A2' m2 j2' F2 1 x2 st2 yb 0 true rfl
      have hD4 := HD6.out.only HY6.out.ns hg4
      have hb4 := below_grown HB6.out hg4 (by omega)
      generalize (((((((((w6.setCell ⟨w.heap.size + 1, 0, none⟩ (.slice A2 n2 j2)).setCell ⟨w.heap.size + 1, 1, none⟩ (.slice A2' m2 j2')).setCell ⟨w.heap.size + 1, 2, none⟩ (.int .i64 F2)).setCell ⟨w.heap.size + 1, 3, none⟩ (.int .i64 1)).setCell ⟨w.heap.size + 1, 4, none⟩ (.int .i64 x2)).setCell ⟨w.heap.size + 1, 5, none⟩ (.int .i64 st2)).setCell ⟨w.heap.size + 1, 6, none⟩ (.int .i64 yb)).setCell ⟨w.heap.size + 1, 7, none⟩ (.int .i64 0)).setCell ⟨w.heap.size + 1, 8, none⟩ (.bool true)) = wf at *
      obtain ⟨k0, k1, k2, k3, k4, k5, k6, k7, k8⟩ := hY4.cells
      refine bodyPost_ret (v := .tuple #[.agg #[.slice A2 n2 j2, .slice A2' m2 j2', .int .i64 F2, .int .i64 1, .int .i64 x2, .int .i64 st2, .int .i64 yb, .int .i64 0, .bool true], .int .i64 0]) (by simp [results, Tryz.results16, go_sem, k0, k1, k2, k3, k4, k5, k6, k7, k8]) rfl ?_
      exact ⟨_, _, _, _, _, _, rfl, hD4, hb4⟩)
  · rw [if_neg he]
    dsimp only
    have hne := neq0 he
    go_enter Tryz.func16, Tryz.ntmps16
    go_upto_region 1 with fail
    generalize (w.alloc (TO 37 A n c A' m c' f 0 x1 x2 x3 x4 x5)).alloc (TO 37 none 0 0 none 0 0 0 0 0 0 0 0 false) = w0 at *
    obtain ⟨c0, c1, c2, c3, c4, c5, c6, c7, c8⟩ := HX0.out.cells
    have hlx := HX0.out.lt
    go_wp2_with fail
    with_reducible refine HS.out.mono ?_
    rintro r w1 ⟨A2, n2, j2, A2', m2, j2', rfl, hd2, hb2⟩
    have HXa := Lib.hid ((HX0.out.call hb2).alloc (D25 A2 n2 j2 A2' m2 j2' F2))
    have HYa := Lib.hid ((HY0.out.call hb2).alloc (D25 A2 n2 j2 A2' m2 j2' F2))
    have HBa := Lib.hid ((HB0.out.call hb2).push (D25 A2 n2 j2 A2' m2 j2' F2))
    have HDa := Lib.hid (hd2.new (D25 A2 n2 j2 A2' m2 j2' F2))
    have HVa := Lib.hid (St.new w1 A2 n2 j2 A2' m2 j2' F2 25)
    clear hd2 hb2 HS c0 c1 c2 c3 c4 c5 c6 c7 c8 hlx
    obtain ⟨c0, c1, c2, c3, c4, c5, c6, c7, c8⟩ := HXa.out.cells
    obtain ⟨f0, f1, f2, -, -, -, -, -, -⟩ := HXa.out.live
    have hlx := HXa.out.lt
    obtain ⟨v0, v1, v2, u0, u1, u2⟩ := HVa.out.box
    have hlv := HVa.out.lt
    go_upto_region 6 with fail
    obtain ⟨hX3, hg3⟩ := HXa.out.put3 A2 n2 j2 A2' m2 j2' F2 rfl
    have hD3 := HDa.out.only HXa.out.ns hg3
    have hb3 := below_grown HBa.out hg3 (Nat.le_refl _)
    have hY3 := HYa.out.other hg3 (by omega)
    generalize (((w1.alloc (D25 A2 n2 j2 A2' m2 j2' F2)).setCell ⟨w.heap.size, 0, none⟩ (.slice A2 n2 j2)).setCell ⟨w.heap.size, 1, none⟩ (.slice A2' m2 j2')).setCell ⟨w.heap.size, 2, none⟩ (.int .i64 F2) = w3 at *
    clear c0 c1 c2 c3 c4 c5 c6 c7 c8 f0 f1 f2 hlx v0 v1 v2 u0 u1 u2 hlv HXa HYa HBa HDa HVa hg3
    have HX3 := Lib.hid hX3
    have HY3 := Lib.hid hY3
    have HD3 := Lib.hid hD3
    have HB3 := Lib.hid hb3
    obtain ⟨c0, c1, c2, c3, c4, c5, c6, c7, c8⟩ := hX3.cells
    have hlx := hX3.lt
    obtain ⟨y0, y1, y2, y3, y4, y5, y6, y7, y8⟩ := hY3.cells
    obtain ⟨g0, g1, g2, g3, g4, g5, g6, g7, g8⟩ := hY3.live
    have hly := hY3.lt
    clear hX3 hY3 hD3 hb3
    go_wp2_with fail
    obtain ⟨hY4, hg4⟩ := HY3.out.put A2 n2 j2 A2' m2 j2' F2 0 x1 x2 x3 x4 x5 rfl
    have hD4 := HD3.out.only HY3.out.ns hg4
    have hb4 := below_grown HB3.out hg4 (by omega)
    generalize (((((((((w3.setCell ⟨w.heap.size + 1, 0, none⟩ (.slice A2 n2 j2)).setCell ⟨w.heap.size + 1, 1, none⟩ (.slice A2' m2 j2')).setCell ⟨w.heap.size + 1, 2, none⟩ (.int .i64 F2)).setCell ⟨w.heap.size + 1, 3, none⟩ (.int .i64 0)).setCell ⟨w.heap.size + 1, 4, none⟩ (.int .i64 x1)).setCell ⟨w.heap.size + 1, 5, none⟩ (.int .i64 x2)).setCell ⟨w.heap.size + 1, 6, none⟩ (.int .i64 x3)).setCell ⟨w.heap.size + 1, 7, none⟩ (.int .i64 x4)).setCell ⟨w.heap.size + 1, 8, none⟩ (.bool x5)) = wf at *
    obtain ⟨q0, q1, q2, q3, q4, q5, q6, q7, q8⟩ := hY4.cells
    refine bodyPost_ret (v := .tuple #[.agg #[.slice A2 n2 j2, .slice A2' m2 j2', .int .i64 F2, .int .i64 0, .int .i64 x1, .int .i64 x2, .int .i64 x3, .int .i64 x4, .bool x5], .int .i64 e2]) (by simp [results, Tryz.results16, go_sem, q0, q1, q2, q3, q4, q5, q6, q7, q8]) rfl ?_
    exact ⟨_, _, _, _, _, _, rfl, hD4, hb4⟩

set_option maxHeartbeats 2000000 in
theorem rsav_walk1 (x1 x2 x3 x4 : Int) (x5 : Bool) (t : ByteArray) (S2 : List ByteArray) (V2 : List Wr) (F2 p2 st2 e2 : Int) (HPR : Hid (saveR S V f 0 x2 x2 t = ⟨S2, V2, F2, p2, st2, e2⟩)) :
    Calls Tryz.prog 16 #[.agg #[.slice A n c, .slice A' m c', .int .i64 f, .int .i64 1, .int .i64 x1, .int .i64 x2, .int .i64 x3, .int .i64 x4, .bool x5], .string t] w (RetT w (if e2 = 0 then ⟨S2, V2, F2, ⟨0, x2, st2, 2 * sizR S2.length, 0, true⟩, 0⟩ else ⟨S2, V2, F2, ⟨1, x1, x2, x3, x4, x5⟩, e2⟩)) := by
  have hb0 : Below w.heap.size w ((w.alloc (TO 37 A n c A' m c' f 1 x1 x2 x3 x4 x5)).alloc (TO 37 none 0 0 none 0 0 0 0 0 0 0 0 false)) := (new1 _ _).push _
  have hX0 : Sy 37 ((w.alloc (TO 37 A n c A' m c' f 1 x1 x2 x3 x4 x5)).alloc (TO 37 none 0 0 none 0 0 0 0 0 0 0 0 false)) w.heap.size A n c A' m c' f 1 x1 x2 x3 x4 x5 := (Sy.new 37 w A n c A' m c' f 1 x1 x2 x3 x4 x5).alloc _
  have hY0 : Sy 37 ((w.alloc (TO 37 A n c A' m c' f 1 x1 x2 x3 x4 x5)).alloc (TO 37 none 0 0 none 0 0 0 0 0 0 0 0 false)) (w.heap.size + 1) none 0 0 none 0 0 0 0 0 0 0 0 false := by
    have := Sy.new 37 (w.alloc (TO 37 A n c A' m c' f 1 x1 x2 x3 x4 x5)) none 0 0 none 0 0 0 0 0 0 0 0 false
    rwa [World.size_alloc] at this
  have HS := Lib.hid (rsave_any A n c A' m c' f S V 0 x2 x2 t _ (hD.below hb0))
  rw [HPR.out] at HS
  unfold RetS at HS
  dsimp only at HS
  have HBg := Lib.hid (fun W => (rbegin_any S2.length W).mono (R' := fun r w' => r = .returned (.int .i64 (2 * sizR S2.length)) ∧ Below W.heap.size W w') (fun _ _ h => ⟨h.1, h.2 ▸ Below.refl _ _⟩))
  have HB0 := Lib.hid hb0
  have HX0 := Lib.hid hX0
  have HY0 := Lib.hid hY0
  clear hD hb0 hX0 hY0 HPR
  unfold RetT
  by_cases he : e2 = 0
  · subst he
    rw [if_pos rfl]
    dsimp only
    generalize 2 * sizR S2.length = yb at *
    go_enter Tryz.func16, Tryz.ntmps16
    go_upto_region 1 with fail
    generalize (w.alloc (TO 37 A n c A' m c' f 1 x1 x2 x3 x4 x5)).alloc (TO 37 none 0 0 none 0 0 0 0 0 0 0 0 false) = w0 at *
    obtain ⟨c0, c1, c2, c3, c4, c5, c6, c7, c8⟩ := HX0.out.cells
    have hlx := HX0.out.lt
    go_wp2_with fail
    with_reducible refine HS.out.mono ?_
    rintro r w1 ⟨A2, n2, j2, A2', m2, j2', rfl, hd2, hb2⟩
    have ne1 : ¬ w.heap.size + 1 = w1.heap.size := by have := (HY0.out.call hb2).lt; omega
    have ne2 : ¬ w1.heap.size = w.heap.size + 1 := fun e => ne1 e.symm
    have hwa : IntKind.i64.wrap 1 = 1 := by decide
    have hwb : IntKind.i64.wrap 0 = 0 := by decide
    have hwc : IntKind.i64.wrap (1 - 1) = 0 := by decide
    have hwd : IntKind.i64.wrap (1 - 0) = 1 := by decide
    have hn2 := hd2.sec.sec
    have HXa := Lib.hid ((HX0.out.call hb2).alloc (D25 A2 n2 j2 A2' m2 j2' F2))
    have HYa := Lib.hid ((HY0.out.call hb2).alloc (D25 A2 n2 j2 A2' m2 j2' F2))
    have HBa := Lib.hid ((HB0.out.call hb2).push (D25 A2 n2 j2 A2' m2 j2' F2))
    have HDa := Lib.hid (hd2.new (D25 A2 n2 j2 A2' m2 j2' F2))
    have HVa := Lib.hid (St.new w1 A2 n2 j2 A2' m2 j2' F2 25)
    rw [hn2] at HBg
    clear hd2 hb2 HS c0 c1 c2 c3 c4 c5 c6 c7 c8 hlx hn2
    obtain ⟨c0, c1, c2, c3, c4, c5, c6, c7, c8⟩ := HXa.out.cells
    have hlx := HXa.out.lt
    obtain ⟨y0, y1, y2, y3, y4, y5, y6, y7, y8⟩ := HYa.out.cells
    obtain ⟨g0, g1, g2, g3, g4, g5, g6, g7, g8⟩ := HYa.out.live
    have hly := HYa.out.lt
    obtain ⟨v0, v1, v2, u0, u1, u2⟩ := HVa.out.box
    have hlv := HVa.out.lt
    go_upto_region 7 with fail
    generalize w1.alloc (D25 A2 n2 j2 A2' m2 j2' F2) = w2 at *
    go_region_held3 (fun W => W.cell? ⟨w1.heap.size, 0, none⟩ = some (.slice A2 n2 j2) ∧ W.cell? ⟨w1.heap.size, 1, none⟩ = some (.slice A2' m2 j2') ∧ W.cell? ⟨w1.heap.size, 2, none⟩ = some (.int .i64 F2) ∧ W.cell? ⟨w.heap.size, 5, none⟩ = some (.int .i64 x2) ∧ W.cell? ⟨w.heap.size, 3, none⟩ = some (.int .i64 1)) (go_keep)
      (first | (go_at_call 40; ((with_reducible refine (HBg.out _).mono ?_)); rintro r w6 ⟨rfl, hb6⟩; have hbw6 : Below w2.heap.size w2 w6 := (Below.call (by repeat (first | exact Below.refl _ _ | refine Below.drew ?_)) hb6); have q0 : w6.cell? ⟨w1.heap.size, 0, none⟩ = some (.slice A2 n2 j2) := (by rw [hbw6.cell (p := ⟨w1.heap.size, 0, none⟩) hlv]; exact v0); have q1 : w6.cell? ⟨w1.heap.size, 1, none⟩ = some (.slice A2' m2 j2') := (by rw [hbw6.cell (p := ⟨w1.heap.size, 1, none⟩) hlv]; exact v1); have q2 : w6.cell? ⟨w1.heap.size, 2, none⟩ = some (.int .i64 F2) := (by rw [hbw6.cell (p := ⟨w1.heap.size, 2, none⟩) hlv]; exact v2); have q3 : w6.cell? ⟨w.heap.size, 5, none⟩ = some (.int .i64 x2) := (by rw [hbw6.cell (p := ⟨w.heap.size, 5, none⟩) hlx]; exact c5); have q4 : w6.cell? ⟨w.heap.size, 3, none⟩ = some (.int .i64 1) := (by rw [hbw6.cell (p := ⟨w.heap.size, 3, none⟩) hlx]; exact c3); have HD6 := Lib.hid (HDa.out.below hbw6); have HY6 := Lib.hid (HYa.out.call hbw6); have HB6 := Lib.hid (HBa.out.call hbw6); obtain ⟨y0, y1, y2, y3, y4, y5, y6, y7, y8⟩ := HY6.out.cells; obtain ⟨g0, g1, g2, g3, g4, g5, g6, g7, g8⟩ := HY6.out.live; have hly := HY6.out.lt; clear hb6))
    all_goals (
      go_wp2_with fail
      obtain ⟨hY4, hg4⟩ := HY6.out.put A2 n2 j2 A2' m2 j2' F2 0 x2 st2 yb 0 true rfl
      have hD4 := HD6.out.only HY6.out.ns hg4
      have hb4 := below_grown HB6.out hg4 (by omega)
      generalize (((((((((w6.setCell ⟨w.heap.size + 1, 0, none⟩ (.slice A2 n2 j2)).setCell ⟨w.heap.size + 1, 1, none⟩ (.slice A2' m2 j2')).setCell ⟨w.heap.size + 1, 2, none⟩ (.int .i64 F2)).setCell ⟨w.heap.size + 1, 3, none⟩ (.int .i64 0)).setCell ⟨w.heap.size + 1, 4, none⟩ (.int .i64 x2)).setCell ⟨w.heap.size + 1, 5, none⟩ (.int .i64 st2)).setCell ⟨w.heap.size + 1, 6, none⟩ (.int .i64 yb)).setCell ⟨w.heap.size + 1, 7, none⟩ (.int .i64 0)).setCell ⟨w.heap.size + 1, 8, none⟩ (.bool true)) = wf at *
      obtain ⟨k0, k1, k2, k3, k4, k5, k6, k7, k8⟩ := hY4.cells
      refine bodyPost_ret (v := .tuple #[.agg #[.slice A2 n2 j2, .slice A2' m2 j2', .int .i64 F2, .int .i64 0, .int .i64 x2, .int .i64 st2, .int .i64 yb, .int .i64 0, .bool true], .int .i64 0]) (by simp [results, Tryz.results16, go_sem, k0, k1, k2, k3, k4, k5, k6, k7, k8]) rfl ?_
      exact ⟨_, _, _, _, _, _, rfl, hD4, hb4⟩)
  · rw [if_neg he]
    dsimp only
    have hne := neq0 he
    go_enter Tryz.func16, Tryz.ntmps16
    go_upto_region 1 with fail
    generalize (w.alloc (TO 37 A n c A' m c' f 1 x1 x2 x3 x4 x5)).alloc (TO 37 none 0 0 none 0 0 0 0 0 0 0 0 false) = w0 at *
    obtain ⟨c0, c1, c2, c3, c4, c5, c6, c7, c8⟩ := HX0.out.cells
    have hlx := HX0.out.lt
    go_wp2_with fail
    with_reducible refine HS.out.mono ?_
    rintro r w1 ⟨A2, n2, j2, A2', m2, j2', rfl, hd2, hb2⟩
    have HXa := Lib.hid ((HX0.out.call hb2).alloc (D25 A2 n2 j2 A2' m2 j2' F2))
    have HYa := Lib.hid ((HY0.out.call hb2).alloc (D25 A2 n2 j2 A2' m2 j2' F2))
    have HBa := Lib.hid ((HB0.out.call hb2).push (D25 A2 n2 j2 A2' m2 j2' F2))
    have HDa := Lib.hid (hd2.new (D25 A2 n2 j2 A2' m2 j2' F2))
    have HVa := Lib.hid (St.new w1 A2 n2 j2 A2' m2 j2' F2 25)
    clear hd2 hb2 HS c0 c1 c2 c3 c4 c5 c6 c7 c8 hlx
    obtain ⟨c0, c1, c2, c3, c4, c5, c6, c7, c8⟩ := HXa.out.cells
    obtain ⟨f0, f1, f2, -, -, -, -, -, -⟩ := HXa.out.live
    have hlx := HXa.out.lt
    obtain ⟨v0, v1, v2, u0, u1, u2⟩ := HVa.out.box
    have hlv := HVa.out.lt
    go_upto_region 6 with fail
    obtain ⟨hX3, hg3⟩ := HXa.out.put3 A2 n2 j2 A2' m2 j2' F2 rfl
    have hD3 := HDa.out.only HXa.out.ns hg3
    have hb3 := below_grown HBa.out hg3 (Nat.le_refl _)
    have hY3 := HYa.out.other hg3 (by omega)
    generalize (((w1.alloc (D25 A2 n2 j2 A2' m2 j2' F2)).setCell ⟨w.heap.size, 0, none⟩ (.slice A2 n2 j2)).setCell ⟨w.heap.size, 1, none⟩ (.slice A2' m2 j2')).setCell ⟨w.heap.size, 2, none⟩ (.int .i64 F2) = w3 at *
    clear c0 c1 c2 c3 c4 c5 c6 c7 c8 f0 f1 f2 hlx v0 v1 v2 u0 u1 u2 hlv HXa HYa HBa HDa HVa hg3
    have HX3 := Lib.hid hX3
    have HY3 := Lib.hid hY3
    have HD3 := Lib.hid hD3
    have HB3 := Lib.hid hb3
    obtain ⟨c0, c1, c2, c3, c4, c5, c6, c7, c8⟩ := hX3.cells
    have hlx := hX3.lt
    obtain ⟨y0, y1, y2, y3, y4, y5, y6, y7, y8⟩ := hY3.cells
    obtain ⟨g0, g1, g2, g3, g4, g5, g6, g7, g8⟩ := hY3.live
    have hly := hY3.lt
    clear hX3 hY3 hD3 hb3
    go_wp2_with fail
    obtain ⟨hY4, hg4⟩ := HY3.out.put A2 n2 j2 A2' m2 j2' F2 1 x1 x2 x3 x4 x5 rfl
    have hD4 := HD3.out.only HY3.out.ns hg4
    have hb4 := below_grown HB3.out hg4 (by omega)
    generalize (((((((((w3.setCell ⟨w.heap.size + 1, 0, none⟩ (.slice A2 n2 j2)).setCell ⟨w.heap.size + 1, 1, none⟩ (.slice A2' m2 j2')).setCell ⟨w.heap.size + 1, 2, none⟩ (.int .i64 F2)).setCell ⟨w.heap.size + 1, 3, none⟩ (.int .i64 1)).setCell ⟨w.heap.size + 1, 4, none⟩ (.int .i64 x1)).setCell ⟨w.heap.size + 1, 5, none⟩ (.int .i64 x2)).setCell ⟨w.heap.size + 1, 6, none⟩ (.int .i64 x3)).setCell ⟨w.heap.size + 1, 7, none⟩ (.int .i64 x4)).setCell ⟨w.heap.size + 1, 8, none⟩ (.bool x5)) = wf at *
    obtain ⟨q0, q1, q2, q3, q4, q5, q6, q7, q8⟩ := hY4.cells
    refine bodyPost_ret (v := .tuple #[.agg #[.slice A2 n2 j2, .slice A2' m2 j2', .int .i64 F2, .int .i64 1, .int .i64 x1, .int .i64 x2, .int .i64 x3, .int .i64 x4, .bool x5], .int .i64 e2]) (by simp [results, Tryz.results16, go_sem, q0, q1, q2, q3, q4, q5, q6, q7, q8]) rfl ?_
    exact ⟨_, _, _, _, _, _, rfl, hD4, hb4⟩

theorem rsav_bad (x0 x1 x2 x3 x4 : Int) (x5 : Bool) (t : ByteArray) (h0 : ¬ x0 = 0) (h1 : ¬ x0 = 1) :
    Calls Tryz.prog 16 #[.agg #[.slice A n c, .slice A' m c', .int .i64 f, .int .i64 x0, .int .i64 x1, .int .i64 x2, .int .i64 x3, .int .i64 x4, .bool x5], .string t] w (RetT w ⟨S, V, f, ⟨x0, x1, x2, x3, x4, x5⟩, 2⟩) := by
  have hb0 : Below w.heap.size w ((w.alloc (TO 37 A n c A' m c' f x0 x1 x2 x3 x4 x5)).alloc (TO 37 none 0 0 none 0 0 0 0 0 0 0 0 false)) := (new1 _ _).push _
  have hX0 : Sy 37 ((w.alloc (TO 37 A n c A' m c' f x0 x1 x2 x3 x4 x5)).alloc (TO 37 none 0 0 none 0 0 0 0 0 0 0 0 false)) w.heap.size A n c A' m c' f x0 x1 x2 x3 x4 x5 := (Sy.new 37 w A n c A' m c' f x0 x1 x2 x3 x4 x5).alloc _
  have hY0 : Sy 37 ((w.alloc (TO 37 A n c A' m c' f x0 x1 x2 x3 x4 x5)).alloc (TO 37 none 0 0 none 0 0 0 0 0 0 0 0 false)) (w.heap.size + 1) none 0 0 none 0 0 0 0 0 0 0 0 false := by
    have := Sy.new 37 (w.alloc (TO 37 A n c A' m c' f x0 x1 x2 x3 x4 x5)) none 0 0 none 0 0 0 0 0 0 0 0 false
    rwa [World.size_alloc] at this
  have hq0 : (x0 != 0) = true := by simpa using h0
  have hq1 : (x0 != 1) = true := by simpa using h1
  have hp0 : (x0 == 0) = false := by simpa using h0
  have hp1 : (x0 == 1) = false := by simpa using h1
  have HB0 := Lib.hid hb0
  have HD0 := Lib.hid (hD.below hb0)
  have HY0 := Lib.hid hY0
  obtain ⟨c0, c1, c2, c3, c4, c5, c6, c7, c8⟩ := hX0.cells
  have hlx := hX0.lt
  obtain ⟨y0, y1, y2, y3, y4, y5, y6, y7, y8⟩ := hY0.cells
  obtain ⟨g0, g1, g2, g3, g4, g5, g6, g7, g8⟩ := hY0.live
  have hly := hY0.lt
  unfold RetT
  dsimp only
  clear hD hb0 hX0 hY0
  go_enter Tryz.func16, Tryz.ntmps16
  go_upto_region 1 with fail
  generalize (w.alloc (TO 37 A n c A' m c' f x0 x1 x2 x3 x4 x5)).alloc (TO 37 none 0 0 none 0 0 0 0 0 0 0 0 false) = w0 at *
  go_wp2_with fail
  obtain ⟨hY9, hg9⟩ := HY0.out.put A n c A' m c' f x0 x1 x2 x3 x4 x5 rfl
  have hD9 := HD0.out.only HY0.out.ns hg9
  have hb9 := below_grown HB0.out hg9 (by omega)
  generalize ((((((((w0.setCell ⟨w.heap.size + 1, 0, none⟩ (.slice A n c)).setCell ⟨w.heap.size + 1, 1, none⟩ (.slice A' m c')).setCell ⟨w.heap.size + 1, 2, none⟩ (.int .i64 f)).setCell ⟨w.heap.size + 1, 3, none⟩ (.int .i64 x0)).setCell ⟨w.heap.size + 1, 4, none⟩ (.int .i64 x1)).setCell ⟨w.heap.size + 1, 5, none⟩ (.int .i64 x2)).setCell ⟨w.heap.size + 1, 6, none⟩ (.int .i64 x3)).setCell ⟨w.heap.size + 1, 7, none⟩ (.int .i64 x4)).setCell ⟨w.heap.size + 1, 8, none⟩ (.bool x5) = wf at *
  obtain ⟨q0, q1, q2, q3, q4, q5, q6, q7, q8⟩ := hY9.cells
  refine bodyPost_ret (v := .tuple #[.agg #[.slice A n c, .slice A' m c', .int .i64 f, .int .i64 x0, .int .i64 x1, .int .i64 x2, .int .i64 x3, .int .i64 x4, .bool x5], .int .i64 2]) (by simp [results, Tryz.results16, go_sem, q0, q1, q2, q3, q4, q5, q6, q7, q8]) rfl ?_
  exact ⟨_, _, _, _, _, _, rfl, hD9, hb9⟩

theorem rsav_any (x : Nm) (t : ByteArray) : Calls Tryz.prog 16 #[TV A n c A' m c' f x, .string t] w (RetT w (savX S V f x t)) := by
  obtain ⟨x0, x1, x2, x3, x4, x5⟩ := x
  by_cases h0 : x0 = 0
  · subst h0
    obtain ⟨S2, V2, F2, p2, st2, e2, hR⟩ : ∃ S2 V2 F2 p2 st2 e2, saveR S V f 1 x2 x2 t = ⟨S2, V2, F2, p2, st2, e2⟩ := ⟨_, _, _, _, _, _, rfl⟩
    rw [savX_eq (x := ⟨0, x1, x2, x3, x4, x5⟩) (by show (-9223372036854775808 : Int) ≤ 0; decide) (by show (0 : Int) ≤ 9223372036854775807; decide) (z := 1) rfl hR]
    exact rsav_walk0 A n c A' m c' f S V w hD x1 x2 x3 x4 x5 t S2 V2 F2 p2 st2 e2 (Lib.hid hR)
  · by_cases h1 : x0 = 1
    · subst h1
      obtain ⟨S2, V2, F2, p2, st2, e2, hR⟩ : ∃ S2 V2 F2 p2 st2 e2, saveR S V f 0 x2 x2 t = ⟨S2, V2, F2, p2, st2, e2⟩ := ⟨_, _, _, _, _, _, rfl⟩
      rw [savX_eq (x := ⟨1, x1, x2, x3, x4, x5⟩) (by show (-9223372036854775808 : Int) ≤ 1; decide) (by show (1 : Int) ≤ 9223372036854775807; decide) (z := 0) rfl hR]
      exact rsav_walk1 A n c A' m c' f S V w hD x1 x2 x3 x4 x5 t S2 V2 F2 p2 st2 e2 (Lib.hid hR)
    · have e : savX S V f ⟨x0, x1, x2, x3, x4, x5⟩ t = ⟨S, V, f, ⟨x0, x1, x2, x3, x4, x5⟩, 2⟩ := if_neg (by rintro (h | h); exact h0 h; exact h1 h)
      rw [e]
      exact rsav_bad A n c A' m c' f S V w hD x0 x1 x2 x3 x4 x5 t h0 h1

end

end Go.Proofs.YtkglolnghihegaaGreatDoor.Sto

/- Contracts of Log, Fits and Same of package errandref08. -/
namespace Go.Proofs.YtkglolnghihegaaGreatDoor.Sto
open Go.RowKit Go.Proofs.YtkglolnghihegaaGreatDoor.Dsk Go.Proofs.YtkglolnghihegaaGreatDoor.Slt Go.Proofs.YtkglolnghihegaaGreatDoor.Shf Go.Proofs.YtkglolnghihegaaGreatDoor.Jrn
open Go.Proofs.YtkglolnghihegaaGreatDoor.Crc (Tab)

theorem Sy.num3 {T : TypeId} {w w' : World} {b : Nat} {A : Option Addr} {n c : Nat} {A' : Option Addr} {m c' : Nat} {f x0 x1 x2 x3 x4 : Int} {x5 : Bool} (h : Sy T w b A n c A' m c' f x0 x1 x2 x3 x4 x5) (y2 y3 y4 : Int) (e : w' = ((w.setCell ⟨b, 6, none⟩ (.int .i64 y3)).setCell ⟨b, 5, none⟩ (.int .i64 y2)).setCell ⟨b, 7, none⟩ (.int .i64 y4)) :
    Sy T w' b A n c A' m c' f x0 x1 y2 y3 y4 x5 ∧ w.grownBy w' (some b) := by
  subst e
  have hg := grown_set (grown_set (grown_set (World.grownBy.refl w (some b)) 6 (.int .i64 y3)) 5 (.int .i64 y2)) 7 (.int .i64 y4)
  have hB := ((h.blk.set_ 6 (.int .i64 y3)).set_ 5 (.int .i64 y2)).set_ 7 (.int .i64 y4)
  exact ⟨⟨by simpa using hB⟩, hg⟩

section
variable (A : Option Addr) (n c : Nat) (A' : Option Addr) (m c' : Nat) (f : Int) (S : List ByteArray) (V : List Wr) (w : World) (hD : Dev w A n c A' m c' f S V)
include hD

theorem rlog_dead (x0 x1 x2 x3 x4 : Int) (t : ByteArray) :
    Calls Tryz.prog 18 #[.agg #[.slice A n c, .slice A' m c', .int .i64 f, .int .i64 x0, .int .i64 x1, .int .i64 x2, .int .i64 x3, .int .i64 x4, .bool false], .string t] w (RetT w ⟨S, V, f, ⟨x0, x1, x2, x3, x4, false⟩, 9⟩) := by
  have hb0 : Below w.heap.size w ((w.alloc (TO 37 A n c A' m c' f x0 x1 x2 x3 x4 false)).alloc (TO 37 none 0 0 none 0 0 0 0 0 0 0 0 false)) := (new1 _ _).push _
  have hX0 : Sy 37 ((w.alloc (TO 37 A n c A' m c' f x0 x1 x2 x3 x4 false)).alloc (TO 37 none 0 0 none 0 0 0 0 0 0 0 0 false)) w.heap.size A n c A' m c' f x0 x1 x2 x3 x4 false := (Sy.new 37 w A n c A' m c' f x0 x1 x2 x3 x4 false).alloc _
  have hY0 : Sy 37 ((w.alloc (TO 37 A n c A' m c' f x0 x1 x2 x3 x4 false)).alloc (TO 37 none 0 0 none 0 0 0 0 0 0 0 0 false)) (w.heap.size + 1) none 0 0 none 0 0 0 0 0 0 0 0 false := by
    have := Sy.new 37 (w.alloc (TO 37 A n c A' m c' f x0 x1 x2 x3 x4 false)) none 0 0 none 0 0 0 0 0 0 0 0 false
    rwa [World.size_alloc] at this
  have HB0 := Lib.hid hb0
  have HD0 := Lib.hid (hD.below hb0)
  have HY0 := Lib.hid hY0
  obtain ⟨c0, c1, c2, c3, c4, c5, c6, c7, c8⟩ := hX0.cells
  have hlx := hX0.lt
  obtain ⟨y0, y1, y2, y3, y4, y5, y6, y7, y8⟩ := hY0.cells
  obtain ⟨g0, g1, g2, g3, g4, g5, g6, g7, g8⟩ := hY0.live
  have hly := hY0.lt
  unfold RetT
  dsimp only
  clear hD hb0 hX0 hY0
  go_enter Tryz.func18, Tryz.ntmps18
  go_upto_region 1 with fail
  generalize (w.alloc (TO 37 A n c A' m c' f x0 x1 x2 x3 x4 false)).alloc (TO 37 none 0 0 none 0 0 0 0 0 0 0 0 false) = w0 at *
  go_wp2_with fail
  obtain ⟨hY9, hg9⟩ := HY0.out.put A n c A' m c' f x0 x1 x2 x3 x4 false rfl
  have hD9 := HD0.out.only HY0.out.ns hg9
  have hb9 := below_grown HB0.out hg9 (by omega)
  generalize ((((((((w0.setCell ⟨w.heap.size + 1, 0, none⟩ (.slice A n c)).setCell ⟨w.heap.size + 1, 1, none⟩ (.slice A' m c')).setCell ⟨w.heap.size + 1, 2, none⟩ (.int .i64 f)).setCell ⟨w.heap.size + 1, 3, none⟩ (.int .i64 x0)).setCell ⟨w.heap.size + 1, 4, none⟩ (.int .i64 x1)).setCell ⟨w.heap.size + 1, 5, none⟩ (.int .i64 x2)).setCell ⟨w.heap.size + 1, 6, none⟩ (.int .i64 x3)).setCell ⟨w.heap.size + 1, 7, none⟩ (.int .i64 x4)).setCell ⟨w.heap.size + 1, 8, none⟩ (.bool false) = wf at *
  obtain ⟨q0, q1, q2, q3, q4, q5, q6, q7, q8⟩ := hY9.cells
  refine bodyPost_ret (v := .tuple #[.agg #[.slice A n c, .slice A' m c', .int .i64 f, .int .i64 x0, .int .i64 x1, .int .i64 x2, .int .i64 x3, .int .i64 x4, .bool false], .int .i64 9]) (by simp [results, Tryz.results18, go_sem, q0, q1, q2, q3, q4, q5, q6, q7, q8]) rfl ?_
  exact ⟨_, _, _, _, _, _, rfl, hD9, hb9⟩

set_option maxHeartbeats 2000000 in
theorem rlog_walk (x0 x1 x2 x3 x4 : Int) (t : ByteArray) (S2 : List ByteArray) (V2 : List Wr) (F2 p2 st2 e2 : Int) (HPR : Hid (Jrn.putR S V f x3 x1 x4 x2 t = ⟨S2, V2, F2, p2, st2, e2⟩)) :
    Calls Tryz.prog 18 #[.agg #[.slice A n c, .slice A' m c', .int .i64 f, .int .i64 x0, .int .i64 x1, .int .i64 x2, .int .i64 x3, .int .i64 x4, .bool true], .string t] w (RetT w (if e2 = 0 then ⟨S2, V2, F2, ⟨x0, x1, st2, p2, x4 + 1, true⟩, 0⟩ else ⟨S2, V2, F2, ⟨x0, x1, x2, x3, x4, true⟩, e2⟩)) := by
  have hb0 : Below w.heap.size w ((w.alloc (TO 37 A n c A' m c' f x0 x1 x2 x3 x4 true)).alloc (TO 37 none 0 0 none 0 0 0 0 0 0 0 0 false)) := (new1 _ _).push _
  have hX0 : Sy 37 ((w.alloc (TO 37 A n c A' m c' f x0 x1 x2 x3 x4 true)).alloc (TO 37 none 0 0 none 0 0 0 0 0 0 0 0 false)) w.heap.size A n c A' m c' f x0 x1 x2 x3 x4 true := (Sy.new 37 w A n c A' m c' f x0 x1 x2 x3 x4 true).alloc _
  have hY0 : Sy 37 ((w.alloc (TO 37 A n c A' m c' f x0 x1 x2 x3 x4 true)).alloc (TO 37 none 0 0 none 0 0 0 0 0 0 0 0 false)) (w.heap.size + 1) none 0 0 none 0 0 0 0 0 0 0 0 false := by
    have := Sy.new 37 (w.alloc (TO 37 A n c A' m c' f x0 x1 x2 x3 x4 true)) none 0 0 none 0 0 0 0 0 0 0 0 false
    rwa [World.size_alloc] at this
  have HS := Lib.hid (rput_any A n c A' m c' f S V x3 x1 x4 x2 t _ (hD.below hb0))
  have HN : Hid (e2 = 0 → 0 ≤ x4 ∧ x4 ≤ 4294967295) := Lib.hid (fun he => putR_no (S := S) (V := V) (f := f) (p := x3) (g := x1) (st := x2) (t := t) (by rw [HPR.out]; exact he))
  rw [HPR.out] at HS
  unfold RetP at HS
  dsimp only at HS
  have HB0 := Lib.hid hb0
  have HX0 := Lib.hid hX0
  have HY0 := Lib.hid hY0
  clear hD hb0 hX0 hY0 HPR
  obtain ⟨X, hX⟩ : ∃ X, (if e2 = 0 then (⟨S2, V2, F2, ⟨x0, x1, st2, p2, x4 + 1, true⟩, 0⟩ : Std) else ⟨S2, V2, F2, ⟨x0, x1, x2, x3, x4, true⟩, e2⟩) = X := ⟨_, rfl⟩
  rw [hX]
  have HX := Lib.hid hX
  clear hX
  go_enter Tryz.func18, Tryz.ntmps18
  go_upto_region 1 with fail
  generalize (w.alloc (TO 37 A n c A' m c' f x0 x1 x2 x3 x4 true)).alloc (TO 37 none 0 0 none 0 0 0 0 0 0 0 0 false) = w0 at *
  obtain ⟨c0, c1, c2, c3, c4, c5, c6, c7, c8⟩ := HX0.out.cells
  have hlx := HX0.out.lt
  go_wp2_with fail
  with_reducible refine HS.out.mono ?_
  rintro r w1 ⟨A2, n2, j2, A2', m2, j2', rfl, hd2, hb2⟩
  have HXa := Lib.hid ((HX0.out.call hb2).alloc (D25 A2 n2 j2 A2' m2 j2' F2))
  have HYa := Lib.hid ((HY0.out.call hb2).alloc (D25 A2 n2 j2 A2' m2 j2' F2))
  have HBa := Lib.hid ((HB0.out.call hb2).push (D25 A2 n2 j2 A2' m2 j2' F2))
  have HDa := Lib.hid (hd2.new (D25 A2 n2 j2 A2' m2 j2' F2))
  have HVa := Lib.hid (St.new w1 A2 n2 j2 A2' m2 j2' F2 25)
  clear hd2 hb2 HS c0 c1 c2 c3 c4 c5 c6 c7 c8 hlx
  obtain ⟨c0, c1, c2, c3, c4, c5, c6, c7, c8⟩ := HXa.out.cells
  obtain ⟨f0, f1, f2, f3, f4, f5, f6, f7, f8⟩ := HXa.out.live
  have hlx := HXa.out.lt
  obtain ⟨v0, v1, v2, u0, u1, u2⟩ := HVa.out.box
  have hlv := HVa.out.lt
  go_upto_region 5 with fail
  obtain ⟨hX3, hg3⟩ := HXa.out.put3 A2 n2 j2 A2' m2 j2' F2 rfl
  have hD3 := HDa.out.only HXa.out.ns hg3
  have hb3 := below_grown HBa.out hg3 (Nat.le_refl _)
  have hY3 := HYa.out.other hg3 (by omega)
  generalize (((w1.alloc (D25 A2 n2 j2 A2' m2 j2' F2)).setCell ⟨w.heap.size, 0, none⟩ (.slice A2 n2 j2)).setCell ⟨w.heap.size, 1, none⟩ (.slice A2' m2 j2')).setCell ⟨w.heap.size, 2, none⟩ (.int .i64 F2) = w3 at *
  clear c0 c1 c2 c3 c4 c5 c6 c7 c8 f0 f1 f2 f3 f4 f5 f6 f7 f8 hlx v0 v1 v2 u0 u1 u2 hlv HXa HYa HBa HDa HVa hg3
  have HX3 := Lib.hid hX3
  have HY3 := Lib.hid hY3
  have HD3 := Lib.hid hD3
  have HB3 := Lib.hid hb3
  clear hX3 hY3 hD3 hb3
  by_cases he : e2 = 0
  · subst he
    rw [if_pos rfl] at HX
    have hw : IntKind.i64.wrap (x4 + 1) = x4 + 1 := IntWalk.i64_in _ (by have := HN.out rfl; omega)
    obtain ⟨c0, c1, c2, c3, c4, c5, c6, c7, c8⟩ := HX3.out.cells
    obtain ⟨f0, f1, f2, f3, f4, f5, f6, f7, f8⟩ := HX3.out.live
    have hlx := HX3.out.lt
    go_upto_region 8 with fail
    obtain ⟨hX4, hg4⟩ := HX3.out.num3 st2 p2 (x4 + 1) rfl
    have hD4 := HD3.out.only HX3.out.ns hg4
    have hb4 := below_grown HB3.out hg4 (Nat.le_refl _)
    have hY4 := HY3.out.other hg4 (by omega)
    generalize ((w3.setCell ⟨w.heap.size, 6, none⟩ (.int .i64 p2)).setCell ⟨w.heap.size, 5, none⟩ (.int .i64 st2)).setCell ⟨w.heap.size, 7, none⟩ (.int .i64 (x4 + 1)) = w4 at *
    clear c0 c1 c2 c3 c4 c5 c6 c7 c8 f0 f1 f2 f3 f4 f5 f6 f7 f8 hlx HX3 HY3 HD3 HB3 hg4
    have HY4 := Lib.hid hY4
    have HD4 := Lib.hid hD4
    have HB4 := Lib.hid hb4
    obtain ⟨c0, c1, c2, c3, c4, c5, c6, c7, c8⟩ := hX4.cells
    have hlx := hX4.lt
    obtain ⟨y0, y1, y2, y3, y4, y5, y6, y7, y8⟩ := hY4.cells
    obtain ⟨g0, g1, g2, g3, g4, g5, g6, g7, g8⟩ := hY4.live
    have hly := hY4.lt
    clear hX4 hY4 hD4 hb4
    go_wp2_with fail
    obtain ⟨hY9, hg9⟩ := HY4.out.put A2 n2 j2 A2' m2 j2' F2 x0 x1 st2 p2 (x4 + 1) true rfl
    have hD9 := HD4.out.only HY4.out.ns hg9
    have hb9 := below_grown HB4.out hg9 (by omega)
    generalize ((((((((w4.setCell ⟨w.heap.size + 1, 0, none⟩ (.slice A2 n2 j2)).setCell ⟨w.heap.size + 1, 1, none⟩ (.slice A2' m2 j2')).setCell ⟨w.heap.size + 1, 2, none⟩ (.int .i64 F2)).setCell ⟨w.heap.size + 1, 3, none⟩ (.int .i64 x0)).setCell ⟨w.heap.size + 1, 4, none⟩ (.int .i64 x1)).setCell ⟨w.heap.size + 1, 5, none⟩ (.int .i64 st2)).setCell ⟨w.heap.size + 1, 6, none⟩ (.int .i64 p2)).setCell ⟨w.heap.size + 1, 7, none⟩ (.int .i64 (x4 + 1))).setCell ⟨w.heap.size + 1, 8, none⟩ (.bool true) = wf at *
    obtain ⟨q0, q1, q2, q3, q4, q5, q6, q7, q8⟩ := hY9.cells
    refine bodyPost_ret (v := .tuple #[.agg #[.slice A2 n2 j2, .slice A2' m2 j2', .int .i64 F2, .int .i64 x0, .int .i64 x1, .int .i64 st2, .int .i64 p2, .int .i64 (x4 + 1), .bool true], .int .i64 0]) (by simp [results, Tryz.results18, go_sem, q0, q1, q2, q3, q4, q5, q6, q7, q8]) rfl ?_
    rw [← HX.out]
    unfold RetT
    exact ⟨_, _, _, _, _, _, rfl, hD9, hb9⟩
  · rw [if_neg he] at HX
    have hne := neq0 he
    obtain ⟨c0, c1, c2, c3, c4, c5, c6, c7, c8⟩ := HX3.out.cells
    have hlx := HX3.out.lt
    obtain ⟨y0, y1, y2, y3, y4, y5, y6, y7, y8⟩ := HY3.out.cells
    obtain ⟨g0, g1, g2, g3, g4, g5, g6, g7, g8⟩ := HY3.out.live
    have hly := HY3.out.lt
    go_wp2_with fail
    obtain ⟨hY9, hg9⟩ := HY3.out.put A2 n2 j2 A2' m2 j2' F2 x0 x1 x2 x3 x4 true rfl
    have hD9 := HD3.out.only HY3.out.ns hg9
    have hb9 := below_grown HB3.out hg9 (by omega)
    generalize ((((((((w3.setCell ⟨w.heap.size + 1, 0, none⟩ (.slice A2 n2 j2)).setCell ⟨w.heap.size + 1, 1, none⟩ (.slice A2' m2 j2')).setCell ⟨w.heap.size + 1, 2, none⟩ (.int .i64 F2)).setCell ⟨w.heap.size + 1, 3, none⟩ (.int .i64 x0)).setCell ⟨w.heap.size + 1, 4, none⟩ (.int .i64 x1)).setCell ⟨w.heap.size + 1, 5, none⟩ (.int .i64 x2)).setCell ⟨w.heap.size + 1, 6, none⟩ (.int .i64 x3)).setCell ⟨w.heap.size + 1, 7, none⟩ (.int .i64 x4)).setCell ⟨w.heap.size + 1, 8, none⟩ (.bool true) = wf at *
    obtain ⟨q0, q1, q2, q3, q4, q5, q6, q7, q8⟩ := hY9.cells
    refine bodyPost_ret (v := .tuple #[.agg #[.slice A2 n2 j2, .slice A2' m2 j2', .int .i64 F2, .int .i64 x0, .int .i64 x1, .int .i64 x2, .int .i64 x3, .int .i64 x4, .bool true], .int .i64 e2]) (by simp [results, Tryz.results18, go_sem, q0, q1, q2, q3, q4, q5, q6, q7, q8]) rfl ?_
    rw [← HX.out]
    unfold RetT
    exact ⟨_, _, _, _, _, _, rfl, hD9, hb9⟩

theorem rlog_any (x : Nm) (t : ByteArray) :
    Calls Tryz.prog 18 #[TV A n c A' m c' f x, .string t] w (RetT w (logX S V f x t)) := by
  obtain ⟨x0, x1, x2, x3, x4, x5⟩ := x
  unfold logX
  dsimp only
  cases x5 with
  | false => rw [if_neg (by decide)]; exact rlog_dead A n c A' m c' f S V w hD x0 x1 x2 x3 x4 t
  | true =>
    rw [if_pos rfl]
    obtain ⟨S2, V2, F2, p2, st2, e2, hR⟩ : ∃ S2 V2 F2 p2 st2 e2, Jrn.putR S V f x3 x1 x4 x2 t = ⟨S2, V2, F2, p2, st2, e2⟩ := ⟨_, _, _, _, _, _, rfl⟩
    rw [hR]
    exact rlog_walk A n c A' m c' f S V w hD x0 x1 x2 x3 x4 t S2 V2 F2 p2 st2 e2 (Lib.hid hR)

theorem rsfits_any (x : Nm) (z : Int) :
    Calls Tryz.prog 20 #[TV A n c A' m c' f x, .int .i64 z] w fun r w' => r = .returned (.bool (fitsR S.length x.at_ z)) ∧ Below w.heap.size w w' := by
  obtain ⟨x0, x1, x2, x3, x4, x5⟩ := x
  dsimp only
  have HF := Lib.hid (fun W => rfits_any n x3 z W)
  rw [hD.sec.sec]
  clear hD
  go_enter Tryz.func20, Tryz.ntmps20
  go_wp2_with (go_at_call 49; with_reducible refine (HF.out _).mono ?_; rintro r w3 ⟨rfl, rfl⟩)
  go_ret
  exact ⟨rfl, new1 _ _⟩
end

section
variable (A : Option Addr) (n c : Nat) (A' : Option Addr) (m c' : Nat) (f : Int) (S : List ByteArray) (V : List Wr) (B : Option Addr) (p d : Nat) (B' : Option Addr) (q d' : Nat) (g : Int) (Z : List ByteArray) (U : List Wr) (w : World) (hD : Dev w A n c A' m c' f S V) (hE : Dev w B p d B' q d' g Z U)
include hD hE
set_option maxHeartbeats 4000000 in
theorem rssame_any (x y : Nm) :
    Calls Tryz.prog 11 #[TV A n c A' m c' f x, TV B p d B' q d' g y] w fun r w' => r = .returned (.bool (sameT S V f x Z U g y)) ∧ Below w.heap.size w w' := by
  obtain ⟨x0, x1, x2, x3, x4, x5⟩ := x
  obtain ⟨y0, y1, y2, y3, y4, y5⟩ := y
  have hb0 : Below w.heap.size w ((w.alloc (TO 37 A n c A' m c' f x0 x1 x2 x3 x4 x5)).alloc (TO 37 B p d B' q d' g y0 y1 y2 y3 y4 y5)) := (new1 _ _).push _
  have hX0 : Sy 37 ((w.alloc (TO 37 A n c A' m c' f x0 x1 x2 x3 x4 x5)).alloc (TO 37 B p d B' q d' g y0 y1 y2 y3 y4 y5)) w.heap.size A n c A' m c' f x0 x1 x2 x3 x4 x5 := (Sy.new 37 w A n c A' m c' f x0 x1 x2 x3 x4 x5).alloc _
  have hY0 : Sy 37 ((w.alloc (TO 37 A n c A' m c' f x0 x1 x2 x3 x4 x5)).alloc (TO 37 B p d B' q d' g y0 y1 y2 y3 y4 y5)) (w.heap.size + 1) B p d B' q d' g y0 y1 y2 y3 y4 y5 := by
    have := Sy.new 37 (w.alloc (TO 37 A n c A' m c' f x0 x1 x2 x3 x4 x5)) B p d B' q d' g y0 y1 y2 y3 y4 y5
    rwa [World.size_alloc] at this
  have HC := Lib.hid (rsame_any A n c A' m c' f S V B p d B' q d' g Z U _ (hD.below hb0) (hE.below hb0))
  unfold sameT
  generalize sameD S V f Z U g = sd at *
  have HX0 := Lib.hid hX0
  have HY0 := Lib.hid hY0
  have HB0 := Lib.hid hb0
  clear hD hE hb0 hX0 hY0
  cases sd with
  | false =>
    go_enter Tryz.func11, Tryz.ntmps11
    go_wp2_with (go_at_call 42; with_reducible refine HC.out.mono ?_; rintro r w1 ⟨rfl, hb1⟩; have HB1 := Lib.hid (HB0.out.call hb1); obtain ⟨c0, c1, c2, c3, c4, c5, c6, c7, c8⟩ := (HX0.out.call hb1).cells; have hlx := (HX0.out.call hb1).lt; obtain ⟨k0, k1, k2, k3, k4, k5, k6, k7, k8⟩ := (HY0.out.call hb1).cells; have hly := (HY0.out.call hb1).lt; clear hb1)
    go_ret
    exact ⟨by simp [*], HB1.out⟩
  | true =>
    by_cases h0 : x0 = y0
    · subst h0
      have e0 : (x0 == x0) = true := by simp
      by_cases h1 : x1 = y1
      · subst h1
        have e1 : (x1 == x1) = true := by simp
        by_cases h2 : x2 = y2
        · subst h2
          have e2 : (x2 == x2) = true := by simp
          by_cases h3 : x3 = y3
          · subst h3
            have e3 : (x3 == x3) = true := by simp
            by_cases h4 : x4 = y4
            · subst h4
              have e4 : (x4 == x4) = true := by simp
              by_cases h5 : x5 = y5
              · subst h5
                have e5 : (x5 == x5) = true := by simp
                go_enter Tryz.func11, Tryz.ntmps11
                go_wp2_with (go_at_call 42; with_reducible refine HC.out.mono ?_; rintro r w1 ⟨rfl, hb1⟩; have HB1 := Lib.hid (HB0.out.call hb1); obtain ⟨c0, c1, c2, c3, c4, c5, c6, c7, c8⟩ := (HX0.out.call hb1).cells; have hlx := (HX0.out.call hb1).lt; obtain ⟨k0, k1, k2, k3, k4, k5, k6, k7, k8⟩ := (HY0.out.call hb1).cells; have hly := (HY0.out.call hb1).lt; clear hb1)
                go_ret
                exact ⟨by simp [*], HB1.out⟩
              · have e5 : (x5 == y5) = false := by simpa using h5
                go_enter Tryz.func11, Tryz.ntmps11
                go_wp2_with (go_at_call 42; with_reducible refine HC.out.mono ?_; rintro r w1 ⟨rfl, hb1⟩; have HB1 := Lib.hid (HB0.out.call hb1); obtain ⟨c0, c1, c2, c3, c4, c5, c6, c7, c8⟩ := (HX0.out.call hb1).cells; have hlx := (HX0.out.call hb1).lt; obtain ⟨k0, k1, k2, k3, k4, k5, k6, k7, k8⟩ := (HY0.out.call hb1).cells; have hly := (HY0.out.call hb1).lt; clear hb1)
                go_ret
                exact ⟨by simp [*], HB1.out⟩
            · have e4 : (x4 == y4) = false := by simpa using h4
              go_enter Tryz.func11, Tryz.ntmps11
              go_wp2_with (go_at_call 42; with_reducible refine HC.out.mono ?_; rintro r w1 ⟨rfl, hb1⟩; have HB1 := Lib.hid (HB0.out.call hb1); obtain ⟨c0, c1, c2, c3, c4, c5, c6, c7, c8⟩ := (HX0.out.call hb1).cells; have hlx := (HX0.out.call hb1).lt; obtain ⟨k0, k1, k2, k3, k4, k5, k6, k7, k8⟩ := (HY0.out.call hb1).cells; have hly := (HY0.out.call hb1).lt; clear hb1)
              go_ret
              exact ⟨by simp [*], HB1.out⟩
          · have e3 : (x3 == y3) = false := by simpa using h3
            go_enter Tryz.func11, Tryz.ntmps11
            go_wp2_with (go_at_call 42; with_reducible refine HC.out.mono ?_; rintro r w1 ⟨rfl, hb1⟩; have HB1 := Lib.hid (HB0.out.call hb1); obtain ⟨c0, c1, c2, c3, c4, c5, c6, c7, c8⟩ := (HX0.out.call hb1).cells; have hlx := (HX0.out.call hb1).lt; obtain ⟨k0, k1, k2, k3, k4, k5, k6, k7, k8⟩ := (HY0.out.call hb1).cells; have hly := (HY0.out.call hb1).lt; clear hb1)
            go_ret
            exact ⟨by simp [*], HB1.out⟩
        · have e2 : (x2 == y2) = false := by simpa using h2
          go_enter Tryz.func11, Tryz.ntmps11
          go_wp2_with (go_at_call 42; with_reducible refine HC.out.mono ?_; rintro r w1 ⟨rfl, hb1⟩; have HB1 := Lib.hid (HB0.out.call hb1); obtain ⟨c0, c1, c2, c3, c4, c5, c6, c7, c8⟩ := (HX0.out.call hb1).cells; have hlx := (HX0.out.call hb1).lt; obtain ⟨k0, k1, k2, k3, k4, k5, k6, k7, k8⟩ := (HY0.out.call hb1).cells; have hly := (HY0.out.call hb1).lt; clear hb1)
          go_ret
          exact ⟨by simp [*], HB1.out⟩
      · have e1 : (x1 == y1) = false := by simpa using h1
        go_enter Tryz.func11, Tryz.ntmps11
        go_wp2_with (go_at_call 42; with_reducible refine HC.out.mono ?_; rintro r w1 ⟨rfl, hb1⟩; have HB1 := Lib.hid (HB0.out.call hb1); obtain ⟨c0, c1, c2, c3, c4, c5, c6, c7, c8⟩ := (HX0.out.call hb1).cells; have hlx := (HX0.out.call hb1).lt; obtain ⟨k0, k1, k2, k3, k4, k5, k6, k7, k8⟩ := (HY0.out.call hb1).cells; have hly := (HY0.out.call hb1).lt; clear hb1)
        go_ret
        exact ⟨by simp [*], HB1.out⟩
    · have e0 : (x0 == y0) = false := by simpa using h0
      go_enter Tryz.func11, Tryz.ntmps11
      go_wp2_with (go_at_call 42; with_reducible refine HC.out.mono ?_; rintro r w1 ⟨rfl, hb1⟩; have HB1 := Lib.hid (HB0.out.call hb1); obtain ⟨c0, c1, c2, c3, c4, c5, c6, c7, c8⟩ := (HX0.out.call hb1).cells; have hlx := (HX0.out.call hb1).lt; obtain ⟨k0, k1, k2, k3, k4, k5, k6, k7, k8⟩ := (HY0.out.call hb1).cells; have hly := (HY0.out.call hb1).lt; clear hb1)
      go_ret
      exact ⟨by simp [*], HB1.out⟩
end

end Go.Proofs.YtkglolnghihegaaGreatDoor.Sto

/- Contract of Open of package errandref08. -/
namespace Go.Proofs.YtkglolnghihegaaGreatDoor.Sto
open Go.RowKit Go.Proofs.YtkglolnghihegaaGreatDoor.Dsk Go.Proofs.YtkglolnghihegaaGreatDoor.Slt Go.Proofs.YtkglolnghihegaaGreatDoor.Jrn
open Go.Proofs.YtkglolnghihegaaGreatDoor.Crc (Tab)

section
variable (A : Option Addr) (n c : Nat) (A' : Option Addr) (m c' : Nat) (f : Int) (S : List ByteArray) (V : List Wr) (w : World) (hD : Dev w A n c A' m c' f S V)
include hD

theorem ropen_arg (h : ¬ chk S V f = 0) : Calls Tryz.prog 10 #[DV A n c A' m c' f] w (RetOG w [] [] 0 zN ⟨#[]⟩ [] 2) := by
  have hb0 : Below w.heap.size w ((w.alloc (D25 A n c A' m c' f)).alloc (TO 37 none 0 0 none 0 0 0 0 0 0 0 0 false)) := (new1 _ _).push _
  have hY0 : Sy 37 ((w.alloc (D25 A n c A' m c' f)).alloc (TO 37 none 0 0 none 0 0 0 0 0 0 0 0 false)) (w.heap.size + 1) none 0 0 none 0 0 0 0 0 0 0 0 false := by
    have := Sy.new 37 (w.alloc (D25 A n c A' m c' f)) none 0 0 none 0 0 0 0 0 0 0 0 false
    rwa [World.size_alloc] at this
  have HC := Lib.hid (rcheck_any A n c A' m c' f S V _ (hD.below hb0))
  have hne := neq0 h
  generalize chk S V f = e0 at *
  have HB0 := Lib.hid hb0
  have HY0 := Lib.hid hY0
  clear hD h hb0 hY0
  go_enter Tryz.func10, Tryz.ntmps10
  go_wp2_with (go_at_call 37; (with_reducible refine HC.out.mono ?_); rintro e w1 ⟨rfl, hb1⟩; have HB1 := Lib.hid (HB0.out.call hb1); have HY1 := Lib.hid (HY0.out.call hb1); obtain ⟨y0, y1, y2, y3, y4, y5, y6, y7, y8⟩ := (HY0.out.call hb1).cells; obtain ⟨g0, g1, g2, g3, g4, g5, g6, g7, g8⟩ := (HY0.out.call hb1).live; have hly := (HY0.out.call hb1).lt; clear hb1)
  obtain ⟨hY9, hg9⟩ := HY1.out.put none 0 0 none 0 0 0 0 0 0 0 0 false rfl
  have hb9 := below_grown HB1.out hg9 (by omega)
  generalize ((((((((w1.setCell ⟨w.heap.size + 1, 0, none⟩ (.slice none 0 0)).setCell ⟨w.heap.size + 1, 1, none⟩ (.slice none 0 0)).setCell ⟨w.heap.size + 1, 2, none⟩ (.int .i64 0)).setCell ⟨w.heap.size + 1, 3, none⟩ (.int .i64 0)).setCell ⟨w.heap.size + 1, 4, none⟩ (.int .i64 0)).setCell ⟨w.heap.size + 1, 5, none⟩ (.int .i64 0)).setCell ⟨w.heap.size + 1, 6, none⟩ (.int .i64 0)).setCell ⟨w.heap.size + 1, 7, none⟩ (.int .i64 0)).setCell ⟨w.heap.size + 1, 8, none⟩ (.bool false) = wf at *
  obtain ⟨q0, q1, q2, q3, q4, q5, q6, q7, q8⟩ := hY9.cells
  refine bodyPost_ret (v := .tuple #[TV none 0 0 none 0 0 0 zN, .string ⟨#[]⟩, .slice none 0 0, .int .i64 2]) (by simp [results, Tryz.results10, go_sem, q0, q1, q2, q3, q4, q5, q6, q7, q8]) rfl ?_
  exact ⟨_, _, _, _, _, _, _, _, _, rfl, dev_nil _, RV.nil _ _ _, hb9⟩

theorem ropen_spent (h : chk S V f = 0) (ht : 1099511627776 ≤ topD S V f) : Calls Tryz.prog 10 #[DV A n c A' m c' f] w (RetOG w [] [] 0 zN ⟨#[]⟩ [] 13) := by
  have hb0 : Below w.heap.size w ((w.alloc (D25 A n c A' m c' f)).alloc (TO 37 none 0 0 none 0 0 0 0 0 0 0 0 false)) := (new1 _ _).push _
  have hX0 : St ((w.alloc (D25 A n c A' m c' f)).alloc (TO 37 none 0 0 none 0 0 0 0 0 0 0 0 false)) w.heap.size A n c A' m c' f := (St.new w A n c A' m c' f 25).alloc _
  have hY0 : Sy 37 ((w.alloc (D25 A n c A' m c' f)).alloc (TO 37 none 0 0 none 0 0 0 0 0 0 0 0 false)) (w.heap.size + 1) none 0 0 none 0 0 0 0 0 0 0 0 false := by
    have := Sy.new 37 (w.alloc (D25 A n c A' m c' f)) none 0 0 none 0 0 0 0 0 0 0 0 false
    rwa [World.size_alloc] at this
  have hc := rcheck_any A n c A' m c' f S V _ (hD.below hb0)
  rw [h] at hc
  have HC := Lib.hid hc
  have HTp := Lib.hid (fun W (hb : Below w.heap.size w W) => rtopD_any A n c A' m c' f S V W (hD.below hb))
  generalize topD S V f = tp at *
  have htp : (1099511627776 : Int) ≤ tp := ht
  have HB0 := Lib.hid hb0
  have HX0 := Lib.hid hX0
  have HY0 := Lib.hid hY0
  clear hD h hb0 hX0 hY0 hc ht
  go_enter Tryz.func10, Tryz.ntmps10
  go_wp2_with (first | (go_at_call 37; (with_reducible refine HC.out.mono ?_); rintro e w1 ⟨rfl, hb1⟩; have HB1 := Lib.hid (HB0.out.call hb1); have HY1 := Lib.hid (HY0.out.call hb1); obtain ⟨c0, c1, c2, -, -, -⟩ := (HX0.out.call hb1).box; have hlx := (HX0.out.call hb1).lt; clear hb1) | (go_at_call 38; (with_reducible refine (HTp.out _ HB1.out).mono ?_); rintro e w2 ⟨rfl, hb2⟩; have HB2 := Lib.hid (HB1.out.call hb2); have HY2 := Lib.hid (HY1.out.call hb2); obtain ⟨y0, y1, y2, y3, y4, y5, y6, y7, y8⟩ := (HY1.out.call hb2).cells; obtain ⟨g0, g1, g2, g3, g4, g5, g6, g7, g8⟩ := (HY1.out.call hb2).live; have hly := (HY1.out.call hb2).lt; clear hb2))
  obtain ⟨hY9, hg9⟩ := HY2.out.put none 0 0 none 0 0 0 0 0 0 0 0 false rfl
  have hb9 := below_grown HB2.out hg9 (by omega)
  generalize ((((((((w2.setCell ⟨w.heap.size + 1, 0, none⟩ (.slice none 0 0)).setCell ⟨w.heap.size + 1, 1, none⟩ (.slice none 0 0)).setCell ⟨w.heap.size + 1, 2, none⟩ (.int .i64 0)).setCell ⟨w.heap.size + 1, 3, none⟩ (.int .i64 0)).setCell ⟨w.heap.size + 1, 4, none⟩ (.int .i64 0)).setCell ⟨w.heap.size + 1, 5, none⟩ (.int .i64 0)).setCell ⟨w.heap.size + 1, 6, none⟩ (.int .i64 0)).setCell ⟨w.heap.size + 1, 7, none⟩ (.int .i64 0)).setCell ⟨w.heap.size + 1, 8, none⟩ (.bool false) = wf at *
  obtain ⟨q0, q1, q2, q3, q4, q5, q6, q7, q8⟩ := hY9.cells
  refine bodyPost_ret (v := .tuple #[TV none 0 0 none 0 0 0 zN, .string ⟨#[]⟩, .slice none 0 0, .int .i64 13]) (by simp [results, Tryz.results10, go_sem, q0, q1, q2, q3, q4, q5, q6, q7, q8]) rfl ?_
  exact ⟨_, _, _, _, _, _, _, _, _, rfl, dev_nil _, RV.nil _ _ _, hb9⟩

set_option maxRecDepth 100000 in
set_option maxHeartbeats 4000000 in
theorem ropen_none (h : chk S V f = 0) (ht : topD S V f < 1099511627776) (hbe : ¬ (bestR S V f).e = 0) : Calls Tryz.prog 10 #[DV A n c A' m c' f] w (RetOG w S V f ⟨1, 0, topD S V f + 1, 2 * sizR S.length, 0, false⟩ ⟨#[]⟩ [] 0) := by
  have hb0 : Below w.heap.size w ((w.alloc (D25 A n c A' m c' f)).alloc (TO 37 none 0 0 none 0 0 0 0 0 0 0 0 false)) := (new1 _ _).push _
  have hX0 : St ((w.alloc (D25 A n c A' m c' f)).alloc (TO 37 none 0 0 none 0 0 0 0 0 0 0 0 false)) w.heap.size A n c A' m c' f := (St.new w A n c A' m c' f 25).alloc _
  have hY0 : Sy 37 ((w.alloc (D25 A n c A' m c' f)).alloc (TO 37 none 0 0 none 0 0 0 0 0 0 0 0 false)) (w.heap.size + 1) none 0 0 none 0 0 0 0 0 0 0 0 false := by
    have := Sy.new 37 (w.alloc (D25 A n c A' m c' f)) none 0 0 none 0 0 0 0 0 0 0 0 false
    rwa [World.size_alloc] at this
  have hc := rcheck_any A n c A' m c' f S V _ (hD.below hb0)
  rw [h] at hc
  have HC := Lib.hid hc
  have HTp := Lib.hid (fun W (hb : Below w.heap.size w W) => rtopD_any A n c A' m c' f S V W (hD.below hb))
  have HSv := Lib.hid (fun W (hb : Below w.heap.size w W) => rbest_any A n c A' m c' f S V W (hD.below hb))
  have HBg := Lib.hid (fun W => rbegin_any S.length W)
  rw [hD.sec.sec] at HBg ⊢
  have htn := topD_nn S V f
  unfold RetB at HSv
  generalize bestR S V f = bb at *
  obtain ⟨bz, bg, bt, be⟩ := bb
  dsimp only at hbe HSv
  have hne := neq0 hbe
  generalize 2 * sizR n = a at *
  generalize topD S V f = tp at *
  have htp : tp < 1099511627776 := ht
  have hw : IntKind.i64.wrap (tp + 1) = tp + 1 := IntWalk.i64_in _ (by omega)
  have HDv := Lib.hid (fun W (hb : Below w.heap.size w W) => hD.below hb)
  have HB0 := Lib.hid hb0
  have HX0 := Lib.hid hX0
  have HY0 := Lib.hid hY0
  clear hD h hb0 hX0 hY0 hc ht
  go_enter Tryz.func10, Tryz.ntmps10
  go_upto_region 1 with fail
  generalize (w.alloc (D25 A n c A' m c' f)).alloc (TO 37 none 0 0 none 0 0 0 0 0 0 0 0 false) = w0 at *
  obtain ⟨c0, c1, c2, -, -, -⟩ := HX0.out.box
  have hlx := HX0.out.lt
  go_wp2_with fail
  with_reducible refine HC.out.mono ?_
  rintro r w1 ⟨rfl, hb1⟩
  have HB1 := Lib.hid (HB0.out.call hb1)
  have HX1 := Lib.hid (HX0.out.call hb1)
  have HY1 := Lib.hid (HY0.out.call hb1)
  clear hb1 c0 c1 c2 hlx HC HX0 HY0 HB0
  obtain ⟨c0, c1, c2, -, -, -⟩ := HX1.out.box
  have hlx := HX1.out.lt
  go_wp2_with fail
  with_reducible refine (HTp.out _ HB1.out).mono ?_
  rintro r w2 ⟨rfl, hb2⟩
  have HB2 := Lib.hid (HB1.out.call hb2)
  have HX2 := Lib.hid (HX1.out.call hb2)
  have HY2 := Lib.hid (HY1.out.call hb2)
  clear hb2 c0 c1 c2 hlx HTp HX1 HY1 HB1
  obtain ⟨c0, c1, c2, -, -, -⟩ := HX2.out.box
  have hlx := HX2.out.lt
  go_wp2_with fail
  with_reducible refine (HSv.out _ HB2.out).mono ?_
  rintro r w3 ⟨rfl, hb3⟩
  have HB2s : Hid (w.heap.size + 1 < w3.heap.size) := Lib.hid (Nat.lt_of_lt_of_le HY2.out.lt hb3.size)
  have HB3 := Lib.hid ((HB2.out.call hb3).push (.cells #[.int .i64 bg, .string bt] 87))
  have HX3 := Lib.hid ((HX2.out.call hb3).alloc (.cells #[.int .i64 bg, .string bt] 87))
  have HY3 := Lib.hid ((HY2.out.call hb3).alloc (.cells #[.int .i64 bg, .string bt] 87))
  have HS3 := Lib.hid (Bx2.new w3 (.int .i64 bg) (.string bt) 87)
  clear hb3 c0 c1 c2 hlx HSv HX2 HY2 HB2
  obtain ⟨c0, c1, c2, -, -, -⟩ := HX3.out.box
  have hlx := HX3.out.lt
  have HD4 := Lib.hid (HDv.out _ HB3.out)
  obtain ⟨y0, y1, y2, y3, y4, y5, y6, y7, y8⟩ := HY3.out.cells
  obtain ⟨g0, g1, g2, g3, g4, g5, g6, g7, g8⟩ := HY3.out.live
  have hly := HY3.out.lt
  have neh : ¬ w.heap.size + 1 = w.heap.size := by omega
  have neh2 : ¬ w.heap.size = w.heap.size + 1 := by omega
  go_upto_region 8 with fail
  generalize w3.alloc (.cells #[.int .i64 bg, .string bt] 87) = w4 at *
  go_region_with (go_at_call 40; with_reducible refine (HBg.out _).mono ?_; rintro r w9 ⟨rfl, rfl⟩)
  all_goals (
    go_wp2_with fail
    obtain ⟨hYf, hgf⟩ := HY3.out.put A n c A' m c' f 1 0 (tp + 1) a 0 false rfl
    have hDf := HD4.out.only HY3.out.ns hgf
    have hbf := below_grown HB3.out hgf (by omega)
    generalize (((((((((w4.setCell ⟨w.heap.size + 1, 0, none⟩ (.slice A n c)).setCell ⟨w.heap.size + 1, 1, none⟩ (.slice A' m c')).setCell ⟨w.heap.size + 1, 2, none⟩ (.int .i64 f)).setCell ⟨w.heap.size + 1, 3, none⟩ (.int .i64 1)).setCell ⟨w.heap.size + 1, 4, none⟩ (.int .i64 0)).setCell ⟨w.heap.size + 1, 5, none⟩ (.int .i64 (tp + 1))).setCell ⟨w.heap.size + 1, 6, none⟩ (.int .i64 a)).setCell ⟨w.heap.size + 1, 7, none⟩ (.int .i64 0)).setCell ⟨w.heap.size + 1, 8, none⟩ (.bool false)) = wf at *
    obtain ⟨q0, q1, q2, q3, q4, q5, q6, q7, q8⟩ := hYf.cells
    refine bodyPost_ret (v := .tuple #[.agg #[.slice A n c, .slice A' m c', .int .i64 f, .int .i64 1, .int .i64 0, .int .i64 (tp + 1), .int .i64 a, .int .i64 0, .bool false], .string ⟨#[]⟩, .slice none 0 0, .int .i64 0]) (by simp [results, Tryz.results10, go_sem, q0, q1, q2, q3, q4, q5, q6, q7, q8]) rfl ?_
    exact ⟨_, _, _, _, _, _, _, _, _, rfl, hDf.below (Below.refl _ _).drew, RV.nil _ _ _, hbf.drew⟩)

set_option maxRecDepth 100000 in
set_option maxHeartbeats 4000000 in
theorem ropen_ok (h : chk S V f = 0) (ht : topD S V f < 1099511627776) (hbe : (bestR S V f).e = 0) : Calls Tryz.prog 10 #[DV A n c A' m c' f] w (RetOG w S V f (opnX S V f) (opnT S V f) (opnL S V f) 0) := by
  obtain ⟨ex, et, el⟩ := opnX_sav h
  unfold savZ savG at ex
  unfold savT at et
  unfold savG at el
  simp only [if_pos hbe] at ex et el
  rw [ex, et, el]
  have hb0 : Below w.heap.size w ((w.alloc (D25 A n c A' m c' f)).alloc (TO 37 none 0 0 none 0 0 0 0 0 0 0 0 false)) := (new1 _ _).push _
  have hX0 : St ((w.alloc (D25 A n c A' m c' f)).alloc (TO 37 none 0 0 none 0 0 0 0 0 0 0 0 false)) w.heap.size A n c A' m c' f := (St.new w A n c A' m c' f 25).alloc _
  have hY0 : Sy 37 ((w.alloc (D25 A n c A' m c' f)).alloc (TO 37 none 0 0 none 0 0 0 0 0 0 0 0 false)) (w.heap.size + 1) none 0 0 none 0 0 0 0 0 0 0 0 false := by
    have := Sy.new 37 (w.alloc (D25 A n c A' m c' f)) none 0 0 none 0 0 0 0 0 0 0 0 false
    rwa [World.size_alloc] at this
  have hc := rcheck_any A n c A' m c' f S V _ (hD.below hb0)
  rw [h] at hc
  have HC := Lib.hid hc
  have HTp := Lib.hid (fun W (hb : Below w.heap.size w W) => rtopD_any A n c A' m c' f S V W (hD.below hb))
  have HSv := Lib.hid (fun W (hb : Below w.heap.size w W) => rbest_any A n c A' m c' f S V W (hD.below hb))
  have HSc := Lib.hid (fun W (hb : Below w.heap.size w W) => rscan_any A n c A' m c' f S V (bestR S V f).g W (hD.below hb))
  have htn := topD_nn S V f
  unfold RetSc at HSc
  unfold RetB at HSv
  generalize bestR S V f = bb at *
  obtain ⟨bz, bg, bt, be⟩ := bb
  dsimp only at hbe HSv HSc ⊢
  subst hbe
  generalize scanDL S V f bg = L at *
  generalize scanDA S V f bg = a at *
  generalize topD S V f = tp at *
  have htp : tp < 1099511627776 := ht
  have hw : IntKind.i64.wrap (tp + 1) = tp + 1 := IntWalk.i64_in _ (by omega)
  obtain ⟨ll, hll⟩ : ∃ ll, L.length = ll := ⟨_, rfl⟩
  rw [hll]
  have HLL := Lib.hid hll
  have HDv := Lib.hid (fun W (hb : Below w.heap.size w W) => hD.below hb)
  have HB0 := Lib.hid hb0
  have HX0 := Lib.hid hX0
  have HY0 := Lib.hid hY0
  clear hD h hb0 hX0 hY0 hc ht ex et el hll
  go_enter Tryz.func10, Tryz.ntmps10
  go_upto_region 1 with fail
  generalize (w.alloc (D25 A n c A' m c' f)).alloc (TO 37 none 0 0 none 0 0 0 0 0 0 0 0 false) = w0 at *
  obtain ⟨c0, c1, c2, -, -, -⟩ := HX0.out.box
  have hlx := HX0.out.lt
  go_wp2_with fail
  with_reducible refine HC.out.mono ?_
  rintro r w1 ⟨rfl, hb1⟩
  have HB1 := Lib.hid (HB0.out.call hb1)
  have HX1 := Lib.hid (HX0.out.call hb1)
  have HY1 := Lib.hid (HY0.out.call hb1)
  clear hb1 c0 c1 c2 hlx HC HX0 HY0 HB0
  obtain ⟨c0, c1, c2, -, -, -⟩ := HX1.out.box
  have hlx := HX1.out.lt
  go_wp2_with fail
  with_reducible refine (HTp.out _ HB1.out).mono ?_
  rintro r w2 ⟨rfl, hb2⟩
  have HB2 := Lib.hid (HB1.out.call hb2)
  have HX2 := Lib.hid (HX1.out.call hb2)
  have HY2 := Lib.hid (HY1.out.call hb2)
  clear hb2 c0 c1 c2 hlx HTp HX1 HY1 HB1
  obtain ⟨c0, c1, c2, -, -, -⟩ := HX2.out.box
  have hlx := HX2.out.lt
  go_wp2_with fail
  with_reducible refine (HSv.out _ HB2.out).mono ?_
  rintro r w3 ⟨rfl, hb3⟩
  have HB2s : Hid (w.heap.size + 1 < w3.heap.size) := Lib.hid (Nat.lt_of_lt_of_le HY2.out.lt hb3.size)
  have HB3 := Lib.hid ((HB2.out.call hb3).push (.cells #[.int .i64 bg, .string bt] 87))
  have HX3 := Lib.hid ((HX2.out.call hb3).alloc (.cells #[.int .i64 bg, .string bt] 87))
  have HY3 := Lib.hid ((HY2.out.call hb3).alloc (.cells #[.int .i64 bg, .string bt] 87))
  have HS3 := Lib.hid (Bx2.new w3 (.int .i64 bg) (.string bt) 87)
  clear hb3 c0 c1 c2 hlx HSv HX2 HY2 HB2
  obtain ⟨c0, c1, c2, -, -, -⟩ := HX3.out.box
  have hlx := HX3.out.lt
  obtain ⟨s0, s1, -, -⟩ := HS3.out
  have hls := HS3.out.lt
  go_upto_region 7 with fail
  generalize hsb : w3.heap.size = sb at *
  generalize w3.alloc (.cells #[.int .i64 bg, .string bt] 87) = w4 at *
  go_wp2_with fail
  with_reducible refine (HSc.out _ HB3.out).mono ?_
  rintro r w5 ⟨B, q, d, rfl, hr5, hb5⟩
  have HB5 := Lib.hid (HB3.out.call hb5)
  have HX5 := Lib.hid (HX3.out.call hb5)
  have HY5 := Lib.hid (HY3.out.call hb5)
  have HS5 := Lib.hid (HS3.out.call hb5)
  have HR5 := Lib.hid hr5
  obtain rfl : ll = q := by have := hr5.sec; have := HLL.out; omega
  clear hb5 hr5 c0 c1 c2 hlx s0 s1 hls HSc HX3 HY3 HB3 HS3
  obtain ⟨c0, c1, c2, -, -, -⟩ := HX5.out.box
  have hlx := HX5.out.lt
  obtain ⟨s0, s1, -, -⟩ := HS5.out
  have hls := HS5.out.lt
  have nes : ¬ w.heap.size + 1 = sb := by have := HB2s.out; omega
  have nes2 : ¬ sb = w.heap.size + 1 := fun e => nes e.symm
  have neh : ¬ w.heap.size + 1 = w.heap.size := by omega
  have neh2 : ¬ w.heap.size = w.heap.size + 1 := by omega
  have HD5 := Lib.hid (HDv.out _ HB5.out)
  obtain ⟨y0, y1, y2, y3, y4, y5, y6, y7, y8⟩ := HY5.out.cells
  obtain ⟨g0, g1, g2, g3, g4, g5, g6, g7, g8⟩ := HY5.out.live
  have hly := HY5.out.lt
  go_wp2_with fail
  go_region
  all_goals (
    go_wp2_with fail
    obtain ⟨hYf, hgf⟩ := HY5.out.put A n c A' m c' f bz bg (tp + 1) a ll false rfl
    have hDf := HD5.out.only HY5.out.ns hgf
    have hRf : RV _ B ll 1 (SV L) := HR5.out.secOnly HY5.out.ns hgf
    have hbf := below_grown HB5.out hgf (by omega)
    generalize (((((((((w5.setCell ⟨w.heap.size + 1, 0, none⟩ (.slice A n c)).setCell ⟨w.heap.size + 1, 1, none⟩ (.slice A' m c')).setCell ⟨w.heap.size + 1, 2, none⟩ (.int .i64 f)).setCell ⟨w.heap.size + 1, 3, none⟩ (.int .i64 bz)).setCell ⟨w.heap.size + 1, 4, none⟩ (.int .i64 bg)).setCell ⟨w.heap.size + 1, 5, none⟩ (.int .i64 (tp + 1))).setCell ⟨w.heap.size + 1, 6, none⟩ (.int .i64 a)).setCell ⟨w.heap.size + 1, 7, none⟩ (.int .i64 ll)).setCell ⟨w.heap.size + 1, 8, none⟩ (.bool false)) = wf at *
    obtain ⟨q0, q1, q2, q3, q4, q5, q6, q7, q8⟩ := hYf.cells
    refine bodyPost_ret (v := .tuple #[.agg #[.slice A n c, .slice A' m c', .int .i64 f, .int .i64 bz, .int .i64 bg, .int .i64 (tp + 1), .int .i64 a, .int .i64 ll, .bool false], .string bt, .slice B ll d, .int .i64 0]) (by simp [results, Tryz.results10, go_sem, q0, q1, q2, q3, q4, q5, q6, q7, q8]) rfl ?_
    exact ⟨_, _, _, _, _, _, _, _, _, rfl, hDf.below (Below.refl _ _).drew, hRf.below (Below.refl _ _).drew, hbf.drew⟩)

/-- What Open answers, of whatever disk. -/
theorem ropen_gen : Calls Tryz.prog 10 #[DV A n c A' m c' f] w (RetOG w (opnS S V f) (opnV S V f) (opnF S V f) (opnXe S V f) (opnTe S V f) (opnLe S V f) (opnE S V f)) := by
  by_cases h : chk S V f = 0
  · by_cases ht : 1099511627776 ≤ topD S V f
    · have he : opnE S V f = 13 := by unfold opnE; rw [if_pos h, if_pos ht]
      unfold opnS opnV opnF opnXe opnTe opnLe
      rw [he, if_neg (by decide), if_neg (by decide), if_neg (by decide), if_neg (by decide), if_neg (by decide), if_neg (by decide)]
      exact ropen_spent A n c A' m c' f S V w hD h ht
    · have he : opnE S V f = 0 := by unfold opnE; rw [if_pos h, if_neg ht]
      unfold opnS opnV opnF opnXe opnTe opnLe
      rw [he, if_pos rfl, if_pos rfl, if_pos rfl, if_pos rfl, if_pos rfl, if_pos rfl]
      by_cases hbe : (bestR S V f).e = 0
      · exact ropen_ok A n c A' m c' f S V w hD h (by omega) hbe
      · have e1 : opnX S V f = ⟨1, 0, topD S V f + 1, 2 * sizR S.length, 0, false⟩ := if_neg hbe
        have e2 : opnT S V f = ⟨#[]⟩ := if_neg hbe
        have e3 : opnL S V f = [] := if_neg hbe
        rw [e1, e2, e3]
        exact ropen_none A n c A' m c' f S V w hD h (by omega) hbe
  · have he : opnE S V f = 2 := by unfold opnE; rw [if_neg h]
    unfold opnS opnV opnF opnXe opnTe opnLe
    rw [he, if_neg (by decide), if_neg (by decide), if_neg (by decide), if_neg (by decide), if_neg (by decide), if_neg (by decide)]
    exact ropen_arg A n c A' m c' f S V w hD h
end

end Go.Proofs.YtkglolnghihegaaGreatDoor.Sto

/- Contracts of Own and Back of the law of stores. -/
namespace Go.Proofs.YtkglolnghihegaaGreatDoor.Sto
open Go.RowKit Go.Proofs.YtkglolnghihegaaGreatDoor.Dsk Go.Proofs.YtkglolnghihegaaGreatDoor.Slt
open Go.Proofs.YtkglolnghihegaaGreatDoor.Crc (Tab)

def RetSt (w : World) (S : List ByteArray) (V : List Wr) (f : Int) (x : Nm) (r : Ending) (w' : World) : Prop :=
  ∃ A n c A' m c', r = .returned (TV A n c A' m c' f x) ∧ Dev w' A n c A' m c' f S V ∧ Below w.heap.size w w'
section
variable (A : Option Addr) (n c : Nat) (A' : Option Addr) (m c' : Nat) (f : Int) (S : List ByteArray) (V : List Wr) (w : World) (hD : Dev w A n c A' m c' f S V)
include hD

set_option maxRecDepth 100000 in
set_option maxHeartbeats 2000000 in
/-- Back makes a state of the document of one of the program. -/
theorem back8_any (x : Nm) : Calls Tryz.prog 12 #[TV A n c A' m c' f x] w (RetSt w S V f x) := by
  obtain ⟨x0, x1, x2, x3, x4, x5⟩ := x
  have hb0 : Below w.heap.size w ((w.alloc (TO 31 A n c A' m c' f x0 x1 x2 x3 x4 x5)).alloc (TO 37 none 0 0 none 0 0 0 0 0 0 0 0 false)) := (new1 _ _).push _
  have hX0 : Sy 31 ((w.alloc (TO 31 A n c A' m c' f x0 x1 x2 x3 x4 x5)).alloc (TO 37 none 0 0 none 0 0 0 0 0 0 0 0 false)) w.heap.size A n c A' m c' f x0 x1 x2 x3 x4 x5 := (Sy.new 31 w A n c A' m c' f x0 x1 x2 x3 x4 x5).alloc _
  have hY0 : Sy 37 ((w.alloc (TO 31 A n c A' m c' f x0 x1 x2 x3 x4 x5)).alloc (TO 37 none 0 0 none 0 0 0 0 0 0 0 0 false)) (w.heap.size + 1) none 0 0 none 0 0 0 0 0 0 0 0 false := by
    have := Sy.new 37 (w.alloc (TO 31 A n c A' m c' f x0 x1 x2 x3 x4 x5)) none 0 0 none 0 0 0 0 0 0 0 0 false
    rwa [World.size_alloc] at this
  have HBk := Lib.hid (fun W (hb : Below w.heap.size w W) => back_any A n c A' m c' f S V W (hD.below hb))
  unfold RetD at HBk
  unfold RetSt
  have HB0 := Lib.hid hb0
  have HX0 := Lib.hid hX0
  have HY0 := Lib.hid hY0
  clear hD hb0 hX0 hY0
  go_enter Tryz.func12, Tryz.ntmps12
  go_upto_region 1 with fail
  generalize (w.alloc (TO 31 A n c A' m c' f x0 x1 x2 x3 x4 x5)).alloc (TO 37 none 0 0 none 0 0 0 0 0 0 0 0 false) = w0 at *
  obtain ⟨c0, c1, c2, c3, c4, c5, c6, c7, c8⟩ := HX0.out.cells
  have hlx := HX0.out.lt
  go_region_held3 (fun W => W.cell? ⟨w.heap.size, 0, none⟩ = some (.slice A n c) ∧ W.cell? ⟨w.heap.size, 1, none⟩ = some (.slice A' m c') ∧ W.cell? ⟨w.heap.size, 2, none⟩ = some (.int .i64 f) ∧ W.cell? ⟨w.heap.size, 3, none⟩ = some (.int .i64 x0) ∧ W.cell? ⟨w.heap.size, 4, none⟩ = some (.int .i64 x1) ∧ W.cell? ⟨w.heap.size, 5, none⟩ = some (.int .i64 x2) ∧ W.cell? ⟨w.heap.size, 6, none⟩ = some (.int .i64 x3) ∧ W.cell? ⟨w.heap.size, 7, none⟩ = some (.int .i64 x4) ∧ W.cell? ⟨w.heap.size, 8, none⟩ = some (.bool x5)) (go_keep)
    (first | (go_at_call 43; ((with_reducible refine (HBk.out _ (HB0.out.call (by repeat (first | exact Below.refl _ _ | refine Below.drew ?_)))).mono ?_)); rintro r w6 ⟨B, p, d, B', q, d', rfl, hd6, hb6⟩; have hbw6 : Below w0.heap.size w0 w6 := (Below.call (by repeat (first | exact Below.refl _ _ | refine Below.drew ?_)) hb6); have q0 : w6.cell? ⟨w.heap.size, 0, none⟩ = some (.slice A n c) := (by rw [hbw6.cell (p := ⟨w.heap.size, 0, none⟩) hlx]; exact c0); have q1 : w6.cell? ⟨w.heap.size, 1, none⟩ = some (.slice A' m c') := (by rw [hbw6.cell (p := ⟨w.heap.size, 1, none⟩) hlx]; exact c1); have q2 : w6.cell? ⟨w.heap.size, 2, none⟩ = some (.int .i64 f) := (by rw [hbw6.cell (p := ⟨w.heap.size, 2, none⟩) hlx]; exact c2); have q3 : w6.cell? ⟨w.heap.size, 3, none⟩ = some (.int .i64 x0) := (by rw [hbw6.cell (p := ⟨w.heap.size, 3, none⟩) hlx]; exact c3); have q4 : w6.cell? ⟨w.heap.size, 4, none⟩ = some (.int .i64 x1) := (by rw [hbw6.cell (p := ⟨w.heap.size, 4, none⟩) hlx]; exact c4); have q5 : w6.cell? ⟨w.heap.size, 5, none⟩ = some (.int .i64 x2) := (by rw [hbw6.cell (p := ⟨w.heap.size, 5, none⟩) hlx]; exact c5); have q6 : w6.cell? ⟨w.heap.size, 6, none⟩ = some (.int .i64 x3) := (by rw [hbw6.cell (p := ⟨w.heap.size, 6, none⟩) hlx]; exact c6); have q7 : w6.cell? ⟨w.heap.size, 7, none⟩ = some (.int .i64 x4) := (by rw [hbw6.cell (p := ⟨w.heap.size, 7, none⟩) hlx]; exact c7); have q8 : w6.cell? ⟨w.heap.size, 8, none⟩ = some (.bool x5) := (by rw [hbw6.cell (p := ⟨w.heap.size, 8, none⟩) hlx]; exact c8); have HD6 := Lib.hid hd6; have HY6 := Lib.hid (HY0.out.call hbw6); have HB6 := Lib.hid (HB0.out.call hbw6); obtain ⟨y0, y1, y2, y3, y4, y5, y6, y7, y8⟩ := HY6.out.cells; obtain ⟨g0, g1, g2, g3, g4, g5, g6, g7, g8⟩ := HY6.out.live; have hly := HY6.out.lt; clear hd6 hb6))
  all_goals (
    go_wp2_with fail
    obtain ⟨hYf, hgf⟩ := HY6.out.put B p d B' q d' f x0 x1 x2 x3 x4 x5 rfl
    have hDf := HD6.out.only HY6.out.ns hgf
    have hbf := below_grown HB6.out hgf (by omega)
    generalize (((((((((w6).setCell ⟨w.heap.size + 1, 0, none⟩ (.slice B p d)).setCell ⟨w.heap.size + 1, 1, none⟩ (.slice B' q d')).setCell ⟨w.heap.size + 1, 2, none⟩ (.int .i64 f)).setCell ⟨w.heap.size + 1, 3, none⟩ (.int .i64 x0)).setCell ⟨w.heap.size + 1, 4, none⟩ (.int .i64 x1)).setCell ⟨w.heap.size + 1, 5, none⟩ (.int .i64 x2)).setCell ⟨w.heap.size + 1, 6, none⟩ (.int .i64 x3)).setCell ⟨w.heap.size + 1, 7, none⟩ (.int .i64 x4)).setCell ⟨w.heap.size + 1, 8, none⟩ (.bool x5) = wf at *
    obtain ⟨k0, k1, k2, k3, k4, k5, k6, k7, k8⟩ := hYf.cells
    refine bodyPost_ret (v := .agg #[.slice B p d, .slice B' q d', .int .i64 f, .int .i64 x0, .int .i64 x1, .int .i64 x2, .int .i64 x3, .int .i64 x4, .bool x5]) (by simp [results, Tryz.results12, go_sem, k0, k1, k2, k3, k4, k5, k6, k7, k8]) rfl ?_
    exact ⟨_, _, _, _, _, _, rfl, hDf, hbf⟩)

set_option maxRecDepth 100000 in
set_option maxHeartbeats 2000000 in
/-- Own makes a state of the program of one of the document. -/
theorem own8_any (x : Nm) : Calls Tryz.prog 14 #[TV A n c A' m c' f x] w (RetSt w S V f x) := by
  obtain ⟨x0, x1, x2, x3, x4, x5⟩ := x
  have hb0 : Below w.heap.size w ((w.alloc (TO 37 A n c A' m c' f x0 x1 x2 x3 x4 x5)).alloc (TO 31 none 0 0 none 0 0 0 0 0 0 0 0 false)) := (new1 _ _).push _
  have hX0 : Sy 37 ((w.alloc (TO 37 A n c A' m c' f x0 x1 x2 x3 x4 x5)).alloc (TO 31 none 0 0 none 0 0 0 0 0 0 0 0 false)) w.heap.size A n c A' m c' f x0 x1 x2 x3 x4 x5 := (Sy.new 37 w A n c A' m c' f x0 x1 x2 x3 x4 x5).alloc _
  have hY0 : Sy 31 ((w.alloc (TO 37 A n c A' m c' f x0 x1 x2 x3 x4 x5)).alloc (TO 31 none 0 0 none 0 0 0 0 0 0 0 0 false)) (w.heap.size + 1) none 0 0 none 0 0 0 0 0 0 0 0 false := by
    have := Sy.new 31 (w.alloc (TO 37 A n c A' m c' f x0 x1 x2 x3 x4 x5)) none 0 0 none 0 0 0 0 0 0 0 0 false
    rwa [World.size_alloc] at this
  have HBk := Lib.hid (fun W (hb : Below w.heap.size w W) => own_any A n c A' m c' f S V W (hD.below hb))
  unfold RetD at HBk
  unfold RetSt
  have HB0 := Lib.hid hb0
  have HX0 := Lib.hid hX0
  have HY0 := Lib.hid hY0
  clear hD hb0 hX0 hY0
  go_enter Tryz.func14, Tryz.ntmps14
  go_upto_region 1 with fail
  generalize (w.alloc (TO 37 A n c A' m c' f x0 x1 x2 x3 x4 x5)).alloc (TO 31 none 0 0 none 0 0 0 0 0 0 0 0 false) = w0 at *
  obtain ⟨c0, c1, c2, c3, c4, c5, c6, c7, c8⟩ := HX0.out.cells
  have hlx := HX0.out.lt
  go_region_held3 (fun W => W.cell? ⟨w.heap.size, 0, none⟩ = some (.slice A n c) ∧ W.cell? ⟨w.heap.size, 1, none⟩ = some (.slice A' m c') ∧ W.cell? ⟨w.heap.size, 2, none⟩ = some (.int .i64 f) ∧ W.cell? ⟨w.heap.size, 3, none⟩ = some (.int .i64 x0) ∧ W.cell? ⟨w.heap.size, 4, none⟩ = some (.int .i64 x1) ∧ W.cell? ⟨w.heap.size, 5, none⟩ = some (.int .i64 x2) ∧ W.cell? ⟨w.heap.size, 6, none⟩ = some (.int .i64 x3) ∧ W.cell? ⟨w.heap.size, 7, none⟩ = some (.int .i64 x4) ∧ W.cell? ⟨w.heap.size, 8, none⟩ = some (.bool x5)) (go_keep)
    (first | (go_at_call 9; ((with_reducible refine (HBk.out _ (HB0.out.call (by repeat (first | exact Below.refl _ _ | refine Below.drew ?_)))).mono ?_)); rintro r w6 ⟨B, p, d, B', q, d', rfl, hd6, hb6⟩; have hbw6 : Below w0.heap.size w0 w6 := (Below.call (by repeat (first | exact Below.refl _ _ | refine Below.drew ?_)) hb6); have q0 : w6.cell? ⟨w.heap.size, 0, none⟩ = some (.slice A n c) := (by rw [hbw6.cell (p := ⟨w.heap.size, 0, none⟩) hlx]; exact c0); have q1 : w6.cell? ⟨w.heap.size, 1, none⟩ = some (.slice A' m c') := (by rw [hbw6.cell (p := ⟨w.heap.size, 1, none⟩) hlx]; exact c1); have q2 : w6.cell? ⟨w.heap.size, 2, none⟩ = some (.int .i64 f) := (by rw [hbw6.cell (p := ⟨w.heap.size, 2, none⟩) hlx]; exact c2); have q3 : w6.cell? ⟨w.heap.size, 3, none⟩ = some (.int .i64 x0) := (by rw [hbw6.cell (p := ⟨w.heap.size, 3, none⟩) hlx]; exact c3); have q4 : w6.cell? ⟨w.heap.size, 4, none⟩ = some (.int .i64 x1) := (by rw [hbw6.cell (p := ⟨w.heap.size, 4, none⟩) hlx]; exact c4); have q5 : w6.cell? ⟨w.heap.size, 5, none⟩ = some (.int .i64 x2) := (by rw [hbw6.cell (p := ⟨w.heap.size, 5, none⟩) hlx]; exact c5); have q6 : w6.cell? ⟨w.heap.size, 6, none⟩ = some (.int .i64 x3) := (by rw [hbw6.cell (p := ⟨w.heap.size, 6, none⟩) hlx]; exact c6); have q7 : w6.cell? ⟨w.heap.size, 7, none⟩ = some (.int .i64 x4) := (by rw [hbw6.cell (p := ⟨w.heap.size, 7, none⟩) hlx]; exact c7); have q8 : w6.cell? ⟨w.heap.size, 8, none⟩ = some (.bool x5) := (by rw [hbw6.cell (p := ⟨w.heap.size, 8, none⟩) hlx]; exact c8); have HD6 := Lib.hid hd6; have HY6 := Lib.hid (HY0.out.call hbw6); have HB6 := Lib.hid (HB0.out.call hbw6); obtain ⟨y0, y1, y2, y3, y4, y5, y6, y7, y8⟩ := HY6.out.cells; obtain ⟨g0, g1, g2, g3, g4, g5, g6, g7, g8⟩ := HY6.out.live; have hly := HY6.out.lt; clear hd6 hb6))
  all_goals (
    go_wp2_with fail
    obtain ⟨hYf, hgf⟩ := HY6.out.put B p d B' q d' f x0 x1 x2 x3 x4 x5 rfl
    have hDf := HD6.out.only HY6.out.ns hgf
    have hbf := below_grown HB6.out hgf (by omega)
    generalize (((((((((w6).setCell ⟨w.heap.size + 1, 0, none⟩ (.slice B p d)).setCell ⟨w.heap.size + 1, 1, none⟩ (.slice B' q d')).setCell ⟨w.heap.size + 1, 2, none⟩ (.int .i64 f)).setCell ⟨w.heap.size + 1, 3, none⟩ (.int .i64 x0)).setCell ⟨w.heap.size + 1, 4, none⟩ (.int .i64 x1)).setCell ⟨w.heap.size + 1, 5, none⟩ (.int .i64 x2)).setCell ⟨w.heap.size + 1, 6, none⟩ (.int .i64 x3)).setCell ⟨w.heap.size + 1, 7, none⟩ (.int .i64 x4)).setCell ⟨w.heap.size + 1, 8, none⟩ (.bool x5) = wf at *
    obtain ⟨k0, k1, k2, k3, k4, k5, k6, k7, k8⟩ := hYf.cells
    refine bodyPost_ret (v := .agg #[.slice B p d, .slice B' q d', .int .i64 f, .int .i64 x0, .int .i64 x1, .int .i64 x2, .int .i64 x3, .int .i64 x4, .bool x5]) (by simp [results, Tryz.results14, go_sem, k0, k1, k2, k3, k4, k5, k6, k7, k8]) rfl ?_
    exact ⟨_, _, _, _, _, _, rfl, hDf, hbf⟩)

end

end Go.Proofs.YtkglolnghihegaaGreatDoor.Sto
