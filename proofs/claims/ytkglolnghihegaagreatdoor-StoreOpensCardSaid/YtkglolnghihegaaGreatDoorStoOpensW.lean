/- The walk of StoreOpens. -/
import Derived.Test.YtkglolnghihegaaGreatDoorStoAw
import Derived.Test.YtkglolnghihegaaGreatDoorStoR
import Derived.Test.YtkglolnghihegaaGreatDoorSltR
import Derived.Deep.RegionHeld3
import Derived.Deep.DeepCutAuto
namespace Go.Proofs.YtkglolnghihegaaGreatDoor.Sto
open Go.RowKit Go.Proofs.YtkglolnghihegaaGreatDoor.Dsk Go.Proofs.YtkglolnghihegaaGreatDoor.Slt Go.Proofs.YtkglolnghihegaaGreatDoor.Jrn
open Go.Proofs.YtkglolnghihegaaGreatDoor.Crc (Tab)

theorem opnLe_len (S : List ByteArray) (V : List Wr) (f : Int) : (opnLe S V f).length ≤ 600 := by
  unfold opnLe
  split
  · unfold opnL
    split
    · unfold scanDL
      split
      · exact scanL_len _ _ _ _
      · simp
    · simp
  · simp

set_option maxRecDepth 100000 in
set_option maxHeartbeats 4000000 in
theorem walk_opens (A : Option Addr) (n c : Nat) (A' : Option Addr) (m c' : Nat) (f : Int) (S : List ByteArray) (V : List Wr) (w : World) (hS : RV w A n 1 (SV S)) (hW : RV w A' m 2 (WV V)) (hf1 : -9223372036854775808 ≤ f) (hf2 : f ≤ 9223372036854775807) (hT : Tab w) :
    Calls Tryz.prog 3 #[DV A n c A' m c' f] w fun r w' => r = .returned (.bool true) ∧ Below w.heap.size w w' := by
  have HAw := Lib.hid (fun W (hb : Below w.heap.size w W) => awakeS_any W (Shf.tab_call hT hb))
  by_cases h1 : (n : Int) ≤ 60
  · by_cases h2 : (m : Int) ≤ 1100
    · have hD : Dev w A n c A' m c' f S V := ⟨hS, hW, hf1, hf2, by have := hS.sec; omega, by have := hW.wr; omega⟩
      have hb0 : Below w.heap.size w (w.alloc (D25 A n c A' m c' f)) := new1 w _
      have hX : St (w.alloc (D25 A n c A' m c' f)) w.heap.size A n c A' m c' f := St.new w A n c A' m c' f 25
      have HOw := Lib.hid (fun W (hb : Below w.heap.size w W) => own_any A n c A' m c' f S V W (hD.below hb))
      have HRo := Lib.hid (fun W (hb : Below w.heap.size w W) => ropen_gen A n c A' m c' f S V W (hD.below hb))
      have HPo : Hid (∀ W A n c A' m c', Below w.heap.size w W → Dev W A n c A' m c' f S V → Calls Tryz.prog 8 #[DV A n c A' m c' f] W (RetOG W (opnS S V f) (opnV S V f) (opnF S V f) (opnXe S V f) (opnTe S V f) (opnLe S V f) (opnE S V f))) := Lib.hid (fun W A n c A' m c' hb hd => open_gen A n c A' m c' f S V W hd (Shf.tab_call hT hb))
      have HLn := Lib.hid (opnLe_len S V f)
      unfold RetD at HOw
      unfold RetOG at HRo HPo
      generalize opnS S V f = S1 at *
      generalize opnV S V f = V1 at *
      generalize opnF S V f = F at *
      generalize opnXe S V f = x at *
      generalize opnTe S V f = T at *
      generalize opnLe S V f = L at *
      generalize opnE S V f = E at *
      have HB0 := Lib.hid hb0
      have HX0 := Lib.hid hX
      clear hS hW hD hf1 hf2 hT hb0 hX
      obtain ⟨d0, d1, d2, -, -, -⟩ := HX0.out.box
      have hld := HX0.out.lt
      go_enter Tryz.func3, Tryz.ntmps3
      go_upto_region 3 with fail
      generalize w.alloc (D25 A n c A' m c' f) = w0 at *
      go_wp2_with fail
      with_reducible refine (HOw.out _ HB0.out).mono ?_
      rintro r w1 ⟨A3, n3, c3, A3', m3, c3', rfl, hd1, b1⟩
      have HB1 := Lib.hid (HB0.out.call b1)
      have HX1 := Lib.hid (HX0.out.call b1)
      have HD1 := Lib.hid hd1
      clear d0 d1 d2 hld b1 hd1 HX0 HB0 HOw
      go_wp2_with fail
      with_reducible refine (HPo.out _ _ _ _ _ _ _ HB1.out HD1.out).mono ?_
      rintro r w2 ⟨A4, n4, c4, A4', m4, c4', B4, q4, e4, rfl, hd2, hr2, b2⟩
      have HB2 := Lib.hid ((HB1.out.call b2).push (TO 31 A4 n4 c4 A4' m4 c4' F x.slot x.gen x.stamp x.at_ x.no x.live))
      have HX2 := Lib.hid ((HX1.out.call b2).alloc (TO 31 A4 n4 c4 A4' m4 c4' F x.slot x.gen x.stamp x.at_ x.no x.live))
      have HDa := Lib.hid (hd2.new (TO 31 A4 n4 c4 A4' m4 c4' F x.slot x.gen x.stamp x.at_ x.no x.live))
      have HYa := Lib.hid (Sy.new 31 w2 A4 n4 c4 A4' m4 c4' F x.slot x.gen x.stamp x.at_ x.no x.live)
      have HR2 := Lib.hid (hr2.below (new1 w2 (TO 31 A4 n4 c4 A4' m4 c4' F x.slot x.gen x.stamp x.at_ x.no x.live)))
      have hq4 := hr2.sec
      clear b2 hd2 hr2 HX1 HB1 HPo HD1
      obtain ⟨d0, d1, d2, -, -, -⟩ := HX2.out.box
      have hld := HX2.out.lt
      go_upto_region 4 with fail
      generalize hba : w2.heap.size = ba at *
      generalize w2.alloc (TO 31 A4 n4 c4 A4' m4 c4' F x.slot x.gen x.stamp x.at_ x.no x.live) = w3 at *
      go_wp2_with fail
      with_reducible refine (HRo.out _ HB2.out).mono ?_
      rintro r w4 ⟨A5, n5, c5, A5', m5, c5', B5, q5, e5, rfl, hd4, hr4, b4⟩
      have HB4 := Lib.hid ((HB2.out.call b4).push (TO 37 A5 n5 c5 A5' m5 c5' F x.slot x.gen x.stamp x.at_ x.no x.live))
      have HDb := Lib.hid (hd4.new (TO 37 A5 n5 c5 A5' m5 c5' F x.slot x.gen x.stamp x.at_ x.no x.live))
      have HYb := Lib.hid (Sy.new 37 w4 A5 n5 c5 A5' m5 c5' F x.slot x.gen x.stamp x.at_ x.no x.live)
      have HR4 := Lib.hid (hr4.below (new1 w4 (TO 37 A5 n5 c5 A5' m5 c5' F x.slot x.gen x.stamp x.at_ x.no x.live)))
      have HDa' := Lib.hid ((HDa.out.below b4).new (TO 37 A5 n5 c5 A5' m5 c5' F x.slot x.gen x.stamp x.at_ x.no x.live))
      have HYa' := Lib.hid ((HYa.out.call b4).alloc (TO 37 A5 n5 c5 A5' m5 c5' F x.slot x.gen x.stamp x.at_ x.no x.live))
      have HR2' := Lib.hid ((HR2.out.below b4).below (new1 w4 (TO 37 A5 n5 c5 A5' m5 c5' F x.slot x.gen x.stamp x.at_ x.no x.live)))
      clear b4 hd4 hr4 HX2 HB2 HRo HDa HYa HR2 d0 d1 d2 hld
      go_upto_region 5 with fail
      generalize hbb : w4.heap.size = bb at *
      generalize w4.alloc (TO 37 A5 n5 c5 A5' m5 c5' F x.slot x.gen x.stamp x.at_ x.no x.live) = w5 at *
      obtain ⟨a0, a1, a2, a3, a4, a5, a6, a7, a8⟩ := HYa'.out.cells
      have hla := HYa'.out.lt
      obtain ⟨b0, b1, b2, b3, b4, b5, b6, b7, b8⟩ := HYb.out.cells
      have hlb := HYb.out.lt
      have hq5 : (q4 : Int) ≤ 2000 := by have := HLn.out; omega
      clear hq4
      have HBk := Lib.hid (fun W (hb : Below w5.heap.size w5 W) => back8_any A4 n4 c4 A4' m4 c4' F S1 V1 W (HDa'.out.below hb) x)
      have HSm : Hid (∀ W B p d B' q d', Below w5.heap.size w5 W → Dev W B p d B' q d' F S1 V1 → Calls Tryz.prog 11 #[TV B p d B' q d' F x, TV A5 n5 c5 A5' m5 c5' F x] W fun r w' => r = .returned (.bool true) ∧ Below W.heap.size W w') := Lib.hid (fun W B p d B' q d' hb hd => by
        have := rssame_any B p d B' q d' F S1 V1 A5 n5 c5 A5' m5 c5' F S1 V1 W hd (HDb.out.below hb) x x
        rwa [sameT_refl] at this)
      unfold RetSt at HBk
      go_region_held3 (fun W => W.cell? ⟨ba, 0, none⟩ = some (.slice A4 n4 c4) ∧ W.cell? ⟨ba, 1, none⟩ = some (.slice A4' m4 c4') ∧ W.cell? ⟨ba, 2, none⟩ = some (.int .i64 F) ∧ W.cell? ⟨ba, 3, none⟩ = some (.int .i64 x.slot) ∧ W.cell? ⟨ba, 4, none⟩ = some (.int .i64 x.gen) ∧ W.cell? ⟨ba, 5, none⟩ = some (.int .i64 x.stamp) ∧ W.cell? ⟨ba, 6, none⟩ = some (.int .i64 x.at_) ∧ W.cell? ⟨ba, 7, none⟩ = some (.int .i64 x.no) ∧ W.cell? ⟨ba, 8, none⟩ = some (.bool x.live) ∧ W.cell? ⟨bb, 0, none⟩ = some (.slice A5 n5 c5) ∧ W.cell? ⟨bb, 1, none⟩ = some (.slice A5' m5 c5') ∧ W.cell? ⟨bb, 2, none⟩ = some (.int .i64 F) ∧ W.cell? ⟨bb, 3, none⟩ = some (.int .i64 x.slot) ∧ W.cell? ⟨bb, 4, none⟩ = some (.int .i64 x.gen) ∧ W.cell? ⟨bb, 5, none⟩ = some (.int .i64 x.stamp) ∧ W.cell? ⟨bb, 6, none⟩ = some (.int .i64 x.at_) ∧ W.cell? ⟨bb, 7, none⟩ = some (.int .i64 x.no) ∧ W.cell? ⟨bb, 8, none⟩ = some (.bool x.live)) (go_keep)
        (first
          | (go_at_call 12; ((with_reducible refine (HBk.out _ (by repeat (first | exact Below.refl _ _ | refine Below.push ?_ _ | refine Below.drew ?_))).mono ?_); rintro r wa ⟨B, p, d, B', q, d', rfl, hDk, ba_⟩; have hbwwa : Below w5.heap.size w5 wa := (Below.call (by repeat (first | exact Below.refl _ _ | refine Below.push ?_ _ | refine Below.drew ?_)) ba_); have qwa0 : wa.cell? ⟨ba, 0, none⟩ = some (.slice A4 n4 c4) := (hbwwa.cell (p := ⟨ba, 0, none⟩) hla).trans a0; have qwa1 : wa.cell? ⟨ba, 1, none⟩ = some (.slice A4' m4 c4') := (hbwwa.cell (p := ⟨ba, 1, none⟩) hla).trans a1; have qwa2 : wa.cell? ⟨ba, 2, none⟩ = some (.int .i64 F) := (hbwwa.cell (p := ⟨ba, 2, none⟩) hla).trans a2; have qwa3 : wa.cell? ⟨ba, 3, none⟩ = some (.int .i64 x.slot) := (hbwwa.cell (p := ⟨ba, 3, none⟩) hla).trans a3; have qwa4 : wa.cell? ⟨ba, 4, none⟩ = some (.int .i64 x.gen) := (hbwwa.cell (p := ⟨ba, 4, none⟩) hla).trans a4; have qwa5 : wa.cell? ⟨ba, 5, none⟩ = some (.int .i64 x.stamp) := (hbwwa.cell (p := ⟨ba, 5, none⟩) hla).trans a5; have qwa6 : wa.cell? ⟨ba, 6, none⟩ = some (.int .i64 x.at_) := (hbwwa.cell (p := ⟨ba, 6, none⟩) hla).trans a6; have qwa7 : wa.cell? ⟨ba, 7, none⟩ = some (.int .i64 x.no) := (hbwwa.cell (p := ⟨ba, 7, none⟩) hla).trans a7; have qwa8 : wa.cell? ⟨ba, 8, none⟩ = some (.bool x.live) := (hbwwa.cell (p := ⟨ba, 8, none⟩) hla).trans a8; have qwa9 : wa.cell? ⟨bb, 0, none⟩ = some (.slice A5 n5 c5) := (hbwwa.cell (p := ⟨bb, 0, none⟩) hlb).trans b0; have qwa10 : wa.cell? ⟨bb, 1, none⟩ = some (.slice A5' m5 c5') := (hbwwa.cell (p := ⟨bb, 1, none⟩) hlb).trans b1; have qwa11 : wa.cell? ⟨bb, 2, none⟩ = some (.int .i64 F) := (hbwwa.cell (p := ⟨bb, 2, none⟩) hlb).trans b2; have qwa12 : wa.cell? ⟨bb, 3, none⟩ = some (.int .i64 x.slot) := (hbwwa.cell (p := ⟨bb, 3, none⟩) hlb).trans b3; have qwa13 : wa.cell? ⟨bb, 4, none⟩ = some (.int .i64 x.gen) := (hbwwa.cell (p := ⟨bb, 4, none⟩) hlb).trans b4; have qwa14 : wa.cell? ⟨bb, 5, none⟩ = some (.int .i64 x.stamp) := (hbwwa.cell (p := ⟨bb, 5, none⟩) hlb).trans b5; have qwa15 : wa.cell? ⟨bb, 6, none⟩ = some (.int .i64 x.at_) := (hbwwa.cell (p := ⟨bb, 6, none⟩) hlb).trans b6; have qwa16 : wa.cell? ⟨bb, 7, none⟩ = some (.int .i64 x.no) := (hbwwa.cell (p := ⟨bb, 7, none⟩) hlb).trans b7; have qwa17 : wa.cell? ⟨bb, 8, none⟩ = some (.bool x.live) := (hbwwa.cell (p := ⟨bb, 8, none⟩) hlb).trans b8; have HDk := Lib.hid hDk; clear hDk ba_))
          | (go_at_call 11; ((with_reducible refine (HSm.out _ _ _ _ _ _ _ (by repeat (first | exact Below.refl _ _ | exact hbwwa | refine Below.drew ?_)) HDk.out).mono ?_); rintro r wb ⟨rfl, bb_⟩; have hbwwb : Below w5.heap.size w5 wb := (Below.call (by repeat (first | exact Below.refl _ _ | exact hbwwa | refine Below.drew ?_)) bb_); clear qwa0 qwa1 qwa2 qwa3 qwa4 qwa5 qwa6 qwa7 qwa8 qwa9 qwa10 qwa11 qwa12 qwa13 qwa14 qwa15 qwa16 qwa17; have qwb0 : wb.cell? ⟨ba, 0, none⟩ = some (.slice A4 n4 c4) := (hbwwb.cell (p := ⟨ba, 0, none⟩) hla).trans a0; have qwb1 : wb.cell? ⟨ba, 1, none⟩ = some (.slice A4' m4 c4') := (hbwwb.cell (p := ⟨ba, 1, none⟩) hla).trans a1; have qwb2 : wb.cell? ⟨ba, 2, none⟩ = some (.int .i64 F) := (hbwwb.cell (p := ⟨ba, 2, none⟩) hla).trans a2; have qwb3 : wb.cell? ⟨ba, 3, none⟩ = some (.int .i64 x.slot) := (hbwwb.cell (p := ⟨ba, 3, none⟩) hla).trans a3; have qwb4 : wb.cell? ⟨ba, 4, none⟩ = some (.int .i64 x.gen) := (hbwwb.cell (p := ⟨ba, 4, none⟩) hla).trans a4; have qwb5 : wb.cell? ⟨ba, 5, none⟩ = some (.int .i64 x.stamp) := (hbwwb.cell (p := ⟨ba, 5, none⟩) hla).trans a5; have qwb6 : wb.cell? ⟨ba, 6, none⟩ = some (.int .i64 x.at_) := (hbwwb.cell (p := ⟨ba, 6, none⟩) hla).trans a6; have qwb7 : wb.cell? ⟨ba, 7, none⟩ = some (.int .i64 x.no) := (hbwwb.cell (p := ⟨ba, 7, none⟩) hla).trans a7; have qwb8 : wb.cell? ⟨ba, 8, none⟩ = some (.bool x.live) := (hbwwb.cell (p := ⟨ba, 8, none⟩) hla).trans a8; have qwb9 : wb.cell? ⟨bb, 0, none⟩ = some (.slice A5 n5 c5) := (hbwwb.cell (p := ⟨bb, 0, none⟩) hlb).trans b0; have qwb10 : wb.cell? ⟨bb, 1, none⟩ = some (.slice A5' m5 c5') := (hbwwb.cell (p := ⟨bb, 1, none⟩) hlb).trans b1; have qwb11 : wb.cell? ⟨bb, 2, none⟩ = some (.int .i64 F) := (hbwwb.cell (p := ⟨bb, 2, none⟩) hlb).trans b2; have qwb12 : wb.cell? ⟨bb, 3, none⟩ = some (.int .i64 x.slot) := (hbwwb.cell (p := ⟨bb, 3, none⟩) hlb).trans b3; have qwb13 : wb.cell? ⟨bb, 4, none⟩ = some (.int .i64 x.gen) := (hbwwb.cell (p := ⟨bb, 4, none⟩) hlb).trans b4; have qwb14 : wb.cell? ⟨bb, 5, none⟩ = some (.int .i64 x.stamp) := (hbwwb.cell (p := ⟨bb, 5, none⟩) hlb).trans b5; have qwb15 : wb.cell? ⟨bb, 6, none⟩ = some (.int .i64 x.at_) := (hbwwb.cell (p := ⟨bb, 6, none⟩) hlb).trans b6; have qwb16 : wb.cell? ⟨bb, 7, none⟩ = some (.int .i64 x.no) := (hbwwb.cell (p := ⟨bb, 7, none⟩) hlb).trans b7; have qwb17 : wb.cell? ⟨bb, 8, none⟩ = some (.bool x.live) := (hbwwb.cell (p := ⟨bb, 8, none⟩) hlb).trans b8; clear bb_))
          | (go_at_call 13; ((with_reducible refine (Slt.same_any B4 q4 e4 B5 q5 e5 L _ (HR2'.out.below (by repeat (first | exact Below.refl _ _ | exact hbwwb | refine Below.drew ?_))) (HR4.out.below (by repeat (first | exact Below.refl _ _ | exact hbwwb | refine Below.drew ?_))) hq5).mono ?_); rintro r wd ⟨rfl, bd_⟩; have hbwwd : Below w5.heap.size w5 wd := (Below.call (by repeat (first | exact Below.refl _ _ | exact hbwwb | refine Below.drew ?_)) bd_); clear qwb0 qwb1 qwb2 qwb3 qwb4 qwb5 qwb6 qwb7 qwb8 qwb9 qwb10 qwb11 qwb12 qwb13 qwb14 qwb15 qwb16 qwb17; have qwd0 : wd.cell? ⟨ba, 0, none⟩ = some (.slice A4 n4 c4) := (hbwwd.cell (p := ⟨ba, 0, none⟩) hla).trans a0; have qwd1 : wd.cell? ⟨ba, 1, none⟩ = some (.slice A4' m4 c4') := (hbwwd.cell (p := ⟨ba, 1, none⟩) hla).trans a1; have qwd2 : wd.cell? ⟨ba, 2, none⟩ = some (.int .i64 F) := (hbwwd.cell (p := ⟨ba, 2, none⟩) hla).trans a2; have qwd3 : wd.cell? ⟨ba, 3, none⟩ = some (.int .i64 x.slot) := (hbwwd.cell (p := ⟨ba, 3, none⟩) hla).trans a3; have qwd4 : wd.cell? ⟨ba, 4, none⟩ = some (.int .i64 x.gen) := (hbwwd.cell (p := ⟨ba, 4, none⟩) hla).trans a4; have qwd5 : wd.cell? ⟨ba, 5, none⟩ = some (.int .i64 x.stamp) := (hbwwd.cell (p := ⟨ba, 5, none⟩) hla).trans a5; have qwd6 : wd.cell? ⟨ba, 6, none⟩ = some (.int .i64 x.at_) := (hbwwd.cell (p := ⟨ba, 6, none⟩) hla).trans a6; have qwd7 : wd.cell? ⟨ba, 7, none⟩ = some (.int .i64 x.no) := (hbwwd.cell (p := ⟨ba, 7, none⟩) hla).trans a7; have qwd8 : wd.cell? ⟨ba, 8, none⟩ = some (.bool x.live) := (hbwwd.cell (p := ⟨ba, 8, none⟩) hla).trans a8; have qwd9 : wd.cell? ⟨bb, 0, none⟩ = some (.slice A5 n5 c5) := (hbwwd.cell (p := ⟨bb, 0, none⟩) hlb).trans b0; have qwd10 : wd.cell? ⟨bb, 1, none⟩ = some (.slice A5' m5 c5') := (hbwwd.cell (p := ⟨bb, 1, none⟩) hlb).trans b1; have qwd11 : wd.cell? ⟨bb, 2, none⟩ = some (.int .i64 F) := (hbwwd.cell (p := ⟨bb, 2, none⟩) hlb).trans b2; have qwd12 : wd.cell? ⟨bb, 3, none⟩ = some (.int .i64 x.slot) := (hbwwd.cell (p := ⟨bb, 3, none⟩) hlb).trans b3; have qwd13 : wd.cell? ⟨bb, 4, none⟩ = some (.int .i64 x.gen) := (hbwwd.cell (p := ⟨bb, 4, none⟩) hlb).trans b4; have qwd14 : wd.cell? ⟨bb, 5, none⟩ = some (.int .i64 x.stamp) := (hbwwd.cell (p := ⟨bb, 5, none⟩) hlb).trans b5; have qwd15 : wd.cell? ⟨bb, 6, none⟩ = some (.int .i64 x.at_) := (hbwwd.cell (p := ⟨bb, 6, none⟩) hlb).trans b6; have qwd16 : wd.cell? ⟨bb, 7, none⟩ = some (.int .i64 x.no) := (hbwwd.cell (p := ⟨bb, 7, none⟩) hlb).trans b7; have qwd17 : wd.cell? ⟨bb, 8, none⟩ = some (.bool x.live) := (hbwwd.cell (p := ⟨bb, 8, none⟩) hlb).trans b8; clear bd_))
          | (go_at_call 7; ((with_reducible refine (HAw.out _ (HB4.out.call (by repeat (first | exact Below.refl _ _ | exact hbwwd | refine Below.drew ?_)))).mono ?_); rintro r wf ⟨rfl, bf_⟩; have hbwwf : Below w5.heap.size w5 wf := (Below.call (by repeat (first | exact Below.refl _ _ | exact hbwwd | refine Below.drew ?_)) bf_); have HBf : Hid (Below w.heap.size w wf) := Lib.hid (HB4.out.call hbwwf); clear qwd0 qwd1 qwd2 qwd3 qwd4 qwd5 qwd6 qwd7 qwd8 qwd9 qwd10 qwd11 qwd12 qwd13 qwd14 qwd15 qwd16 qwd17; have qwf0 : wf.cell? ⟨ba, 0, none⟩ = some (.slice A4 n4 c4) := (hbwwf.cell (p := ⟨ba, 0, none⟩) hla).trans a0; have qwf1 : wf.cell? ⟨ba, 1, none⟩ = some (.slice A4' m4 c4') := (hbwwf.cell (p := ⟨ba, 1, none⟩) hla).trans a1; have qwf2 : wf.cell? ⟨ba, 2, none⟩ = some (.int .i64 F) := (hbwwf.cell (p := ⟨ba, 2, none⟩) hla).trans a2; have qwf3 : wf.cell? ⟨ba, 3, none⟩ = some (.int .i64 x.slot) := (hbwwf.cell (p := ⟨ba, 3, none⟩) hla).trans a3; have qwf4 : wf.cell? ⟨ba, 4, none⟩ = some (.int .i64 x.gen) := (hbwwf.cell (p := ⟨ba, 4, none⟩) hla).trans a4; have qwf5 : wf.cell? ⟨ba, 5, none⟩ = some (.int .i64 x.stamp) := (hbwwf.cell (p := ⟨ba, 5, none⟩) hla).trans a5; have qwf6 : wf.cell? ⟨ba, 6, none⟩ = some (.int .i64 x.at_) := (hbwwf.cell (p := ⟨ba, 6, none⟩) hla).trans a6; have qwf7 : wf.cell? ⟨ba, 7, none⟩ = some (.int .i64 x.no) := (hbwwf.cell (p := ⟨ba, 7, none⟩) hla).trans a7; have qwf8 : wf.cell? ⟨ba, 8, none⟩ = some (.bool x.live) := (hbwwf.cell (p := ⟨ba, 8, none⟩) hla).trans a8; have qwf9 : wf.cell? ⟨bb, 0, none⟩ = some (.slice A5 n5 c5) := (hbwwf.cell (p := ⟨bb, 0, none⟩) hlb).trans b0; have qwf10 : wf.cell? ⟨bb, 1, none⟩ = some (.slice A5' m5 c5') := (hbwwf.cell (p := ⟨bb, 1, none⟩) hlb).trans b1; have qwf11 : wf.cell? ⟨bb, 2, none⟩ = some (.int .i64 F) := (hbwwf.cell (p := ⟨bb, 2, none⟩) hlb).trans b2; have qwf12 : wf.cell? ⟨bb, 3, none⟩ = some (.int .i64 x.slot) := (hbwwf.cell (p := ⟨bb, 3, none⟩) hlb).trans b3; have qwf13 : wf.cell? ⟨bb, 4, none⟩ = some (.int .i64 x.gen) := (hbwwf.cell (p := ⟨bb, 4, none⟩) hlb).trans b4; have qwf14 : wf.cell? ⟨bb, 5, none⟩ = some (.int .i64 x.stamp) := (hbwwf.cell (p := ⟨bb, 5, none⟩) hlb).trans b5; have qwf15 : wf.cell? ⟨bb, 6, none⟩ = some (.int .i64 x.at_) := (hbwwf.cell (p := ⟨bb, 6, none⟩) hlb).trans b6; have qwf16 : wf.cell? ⟨bb, 7, none⟩ = some (.int .i64 x.no) := (hbwwf.cell (p := ⟨bb, 7, none⟩) hlb).trans b7; have qwf17 : wf.cell? ⟨bb, 8, none⟩ = some (.bool x.live) := (hbwwf.cell (p := ⟨bb, 8, none⟩) hlb).trans b8; clear bf_)))
      all_goals (
        go_wp2_with fail
        go_ret
        first
          | exact ⟨by simp, HBf.out⟩
          | exact ⟨by simp, HBf.out.drew⟩)
    · have h2' : (1100 : Int) < m := by omega
      clear hS hW hf1 hf2 hT
      go_enter Tryz.func3, Tryz.ntmps3
      go_wp2_with (go_at_call 7; with_reducible refine (HAw.out _ ((Below.refl w.heap.size w).push _)).mono ?_; rintro r w1 ⟨rfl, b1⟩; have HB1 := Lib.hid (((Below.refl w.heap.size w).push _).call b1); clear b1)
      go_ret
      exact ⟨rfl, HB1.out⟩
  · have h1' : (60 : Int) < n := by omega
    clear hS hW hf1 hf2 hT
    go_enter Tryz.func3, Tryz.ntmps3
    go_wp2_with (go_at_call 7; with_reducible refine (HAw.out _ ((Below.refl w.heap.size w).push _)).mono ?_; rintro r w1 ⟨rfl, b1⟩; have HB1 := Lib.hid (((Below.refl w.heap.size w).push _).call b1); clear b1)
    go_ret
    exact ⟨rfl, HB1.out⟩

end Go.Proofs.YtkglolnghihegaaGreatDoor.Sto
