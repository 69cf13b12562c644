/- The walk of SlotsPours. -/
import Derived.Test.YtpeckeiaonjaaaaGreatDoorSlotsRefF
import Derived.Test.YtpeckeiaonjaaaaGreatDoorSlotsOwn
import Derived.Test.YtpeckeiaonjaaaaGreatDoorSlotsAw
import Derived.Deep.RegionHeld3
import Derived.Deep.DeepCutAuto
namespace Go.Proofs.YtpeckeiaonjaaaaGreatDoor.Slt
open Go.RowKit Go.Proofs.YtpeckeiaonjaaaaGreatDoor.Dsk Go.Proofs.YtpeckeiaonjaaaaGreatDoor.Sht Go.Proofs.YtpeckeiaonjaaaaGreatDoor.Shf
open Go.Proofs.YtpeckeiaonjaaaaGreatDoor.Crc (Tab)

theorem sameD_self (S : List ByteArray) (W : List Wr) (f : Int) : sameD S W f S W f = true := by simp [sameD]

/-- What is poured. -/
abbrev poV (a b z : Int) (k : Nat) (g no st : Int) (t : ByteArray) : List Value := [.int .i64 a, .int .i64 b, .int .i64 z, .int .u8 k, .int .i64 g, .int .i64 no, .int .i64 st, .string t]
structure PoI (w wr : World) (xb : Nat) (A : Option Addr) (n c : Nat) (A' : Option Addr) (m c' : Nat) (B : Option Addr) (p d : Nat) (B' : Option Addr) (q d' : Nat) (f : Int) (pv : List Value) (S : List ByteArray) (V : List Wr) : Prop where
  bel : Below w.heap.size w wr
  st : Box wr w.heap.size (.slice A n c) (.slice A' m c') (.int .i64 f)
  ps : Blk wr (w.heap.size + 1) 29 pv
  own : Box wr xb (.slice B p d) (.slice B' q d') (.int .i64 f)
  dev : Dev wr A n c A' m c' f S V
  odev : Dev wr B p d B' q d' f S V
theorem PoI.call {w wr w' : World} {xb : Nat} {A : Option Addr} {n c : Nat} {A' : Option Addr} {m c' : Nat} {B : Option Addr} {p d : Nat} {B' : Option Addr} {q d' : Nat} {f : Int} {pv : List Value} {S : List ByteArray} {V : List Wr} (h : PoI w wr xb A n c A' m c' B p d B' q d' f pv S V) (hb : Below wr.heap.size wr w') : PoI w w' xb A n c A' m c' B p d B' q d' f pv S V :=
  ⟨h.bel.call hb, h.st.call hb, h.ps.call hb, h.own.call hb, h.dev.below hb, h.odev.below hb⟩
theorem po_cells {w : World} {x : Nat} {a b z : Int} {k : Nat} {g no st : Int} {t : ByteArray} (h : Blk w x 29 (poV a b z k g no st t)) :
    w.cell? ⟨x, 0, none⟩ = some (.int .i64 a) ∧ w.cell? ⟨x, 1, none⟩ = some (.int .i64 b) ∧ w.cell? ⟨x, 2, none⟩ = some (.int .i64 z) ∧ w.cell? ⟨x, 3, none⟩ = some (.int .u8 k) ∧ w.cell? ⟨x, 4, none⟩ = some (.int .i64 g) ∧ w.cell? ⟨x, 5, none⟩ = some (.int .i64 no) ∧ w.cell? ⟨x, 6, none⟩ = some (.int .i64 st) ∧ w.cell? ⟨x, 7, none⟩ = some (.string t) :=
  ⟨h.cell (i := 0) (by simp), h.cell (i := 1) (by simp), h.cell (i := 2) (by simp), h.cell (i := 3) (by simp), h.cell (i := 4) (by simp), h.cell (i := 5) (by simp), h.cell (i := 6) (by simp), h.cell (i := 7) (by simp)⟩

set_option maxRecDepth 100000 in
set_option maxHeartbeats 4000000 in
theorem walk_pours (A : Option Addr) (n c : Nat) (A' : Option Addr) (m c' : Nat) (f : Int) (S : List ByteArray) (V : List Wr) (a b z : Int) (k : Nat) (hk : k < 256) (g no st : Int) (t : ByteArray) (w : World) (hS : RV w A n 1 (SV S)) (hW : RV w A' m 2 (WV V)) (hf1 : -9223372036854775808 ≤ f) (hf2 : f ≤ 9223372036854775807) (hT : Tab w) :
    Calls Tryz.prog 3 #[DV A n c A' m c' f, .agg #[.int .i64 a, .int .i64 b, .int .i64 z, .int .u8 k, .int .i64 g, .int .i64 no, .int .i64 st, .string t]] w fun r w' => r = .returned (.bool true) ∧ Below w.heap.size w w' := by
  have HAw := Lib.hid (fun W (hb : Below w.heap.size w W) => awake_any W (Shf.tab_call hT hb))
  by_cases h1 : (n : Int) ≤ 60
  · by_cases h2 : (m : Int) ≤ 1100
    · by_cases h3 : (t.size : Int) ≤ 1500
      · have hD : Dev w A n c A' m c' f S V := ⟨hS, hW, hf1, hf2, by have := hS.sec; omega, by have := hW.wr; omega⟩
        have HOw := Lib.hid (own_any A n c A' m c' f S V _ ((hD.new (D25 A n c A' m c' f)).new (.cells #[.int .i64 a, .int .i64 b, .int .i64 z, .int .u8 k, .int .i64 g, .int .i64 no, .int .i64 st, .string t] 29)))
        unfold RetD at HOw
        have HD := Lib.hid hD
        have HT := Lib.hid hT
        have HK := Lib.hid hk
        clear hS hW hD hf1 hf2 hT hk
        go_enter Tryz.func3, Tryz.ntmps3
        go_wp2_with fail
        with_reducible refine HOw.out.mono ?_
        rintro r w1 ⟨B, p, d, B', q, d', rfl, hd1, b1⟩
        have HI : Hid (PoI w (w1.alloc (D33 B p d B' q d' f)) w1.heap.size A n c A' m c' B p d B' q d' f (poV a b z k g no st t) S V) := Lib.hid
          ⟨(((new1 w (D25 A n c A' m c' f)).push _).call b1).push _,
            (((Box.new w (.slice A n c) (.slice A' m c') (.int .i64 f) 25).call (new1 _ _)).call b1).call (new1 _ _),
            (by have := (Blk.new (w.alloc (D25 A n c A' m c' f)) 29 #[.int .i64 a, .int .i64 b, .int .i64 z, .int .u8 k, .int .i64 g, .int .i64 no, .int .i64 st, .string t]).call b1; rwa [World.size_alloc] at this : Blk w1 (w.heap.size + 1) 29 (poV a b z k g no st t)).call (new1 _ _),
            Box.new _ _ _ _ _, (((HD.out.new _).new _).below b1).new _, hd1.new _⟩
        have hps1 := (by have := (Blk.new (w.alloc (D25 A n c A' m c' f)) 29 #[.int .i64 a, .int .i64 b, .int .i64 z, .int .u8 k, .int .i64 g, .int .i64 no, .int .i64 st, .string t]).call b1; rwa [World.size_alloc] at this : Blk w1 (w.heap.size + 1) 29 (poV a b z k g no st t))
        have hlv := hps1.lt
        obtain ⟨v0, v1, v2, v3, v4, v5, v6, v7⟩ := po_cells hps1
        clear b1 hd1 HOw hps1
        go_wp2_with fail
        generalize w1.alloc (D33 B p d B' q d' f) = w2 at *
        generalize w1.heap.size = xb at *
        clear v0 v1 v2 v3 v4 v5 v6 v7 hlv
        have HP1 := Lib.hid (pour_any B p d B' q d' f S V a b k g no st t w2 HI.out.odev HK.out (Shf.tab_call HT.out HI.out.bel))
        have HP2 := Lib.hid (fun W (hb : Below w2.heap.size w2 W) => rpour_any A n c A' m c' f S V a b k g no st t W (HI.out.dev.below hb) HK.out)
        unfold RetP at HP1 HP2
        generalize pourR S V f a b k g no st t = X at *
        refine HP1.out.mono ?_
        rintro r w3 ⟨A3, n3, c3, A3', m3, c3', rfl, hd3, b3⟩
        have HBw := Lib.hid (((Below.refl w2.heap.size w2).call b3).push (D33 A3 n3 c3 A3' m3 c3' X.f))
        have HI3 := Lib.hid ((HI.out.call b3).call (new1 w3 (D33 A3 n3 c3 A3' m3 c3' X.f)))
        have HX3 := Lib.hid (Box.new w3 (.slice A3 n3 c3) (.slice A3' m3 c3') (.int .i64 X.f) 33)
        have HD3 := Lib.hid (hd3.new (D33 A3 n3 c3 A3' m3 c3' X.f))
        have hps3 := (HI.out.call b3).ps
        have hlv := hps3.lt
        obtain ⟨v0, v1, v2, v3, v4, v5, v6, v7⟩ := po_cells hps3
        obtain ⟨s0, s1, s2, -, -, -⟩ := (HI.out.call b3).st
        have hls := (HI.out.call b3).st.lt
        clear b3 hd3 hps3 HP1
        go_wp2_with fail
        refine (HP2.out _ HBw.out).mono ?_
        rintro r w4 ⟨A4, n4, c4, A4', m4, c4', rfl, hd4, b4⟩
        have HI4 := Lib.hid ((HI3.out.call b4).call (new1 w4 (D25 A4 n4 c4 A4' m4 c4' X.f)))
        have HX4 := Lib.hid ((HX3.out.call b4).call (new1 w4 (D25 A4 n4 c4 A4' m4 c4' X.f)))
        have HY4 := Lib.hid (Box.new w4 (.slice A4 n4 c4) (.slice A4' m4 c4') (.int .i64 X.f) 25)
        have HD4 := Lib.hid ((HD3.out.below b4).new (D25 A4 n4 c4 A4' m4 c4' X.f))
        have HE4 := Lib.hid (hd4.new (D25 A4 n4 c4 A4' m4 c4' X.f))
        clear b4 hd4 v0 v1 v2 v3 v4 v5 v6 v7 hlv s0 s1 s2 hls HP2 HBw HI3 HX3 HD3
        go_upto_region 6 with fail
        generalize (w4.alloc (D25 A4 n4 c4 A4' m4 c4' X.f)) = W at *
        generalize w3.heap.size = xc at *
        generalize w4.heap.size = xd at *
        have HBk : Hid (∀ W', Below W.heap.size W W' → Calls Tryz.prog 11 #[DV A3 n3 c3 A3' m3 c3' X.f] W' (RetD W' X.S X.W X.f)) := Lib.hid (fun W' hb => back_any A3 n3 c3 A3' m3 c3' X.f X.S X.W W' (HD4.out.below hb))
        unfold RetD at HBk
        obtain ⟨x0, x1, x2, -, -, -⟩ := HX4.out
        obtain ⟨y0, y1, y2, -, -, -⟩ := HY4.out
        have hlx := HX4.out.lt
        have hly := HY4.out.lt
        go_cut [92] (fun s92 wx => s92 = .bool false ∧ Hid (Below W.heap.size W wx))
        case first =>
          go_region_held3 (fun W => W.cell? ⟨xc, 0, none⟩ = some (.slice A3 n3 c3) ∧ W.cell? ⟨xc, 1, none⟩ = some (.slice A3' m3 c3') ∧ W.cell? ⟨xc, 2, none⟩ = some (.int .i64 X.f) ∧ W.cell? ⟨xd, 0, none⟩ = some (.slice A4 n4 c4) ∧ W.cell? ⟨xd, 1, none⟩ = some (.slice A4' m4 c4') ∧ W.cell? ⟨xd, 2, none⟩ = some (.int .i64 X.f)) (go_keep)
            (first
              | (go_at_call 11; ((with_reducible refine (HBk.out _ (by repeat (first | exact Below.refl _ _ | refine Below.drew ?_))).mono ?_); rintro r wa ⟨A5, n5, c5, A5', m5, c5', rfl, hD5, ba⟩; have hbwwa : Below W.heap.size W wa := (Below.call (by repeat (first | exact Below.refl _ _ | refine Below.drew ?_)) ba); have qwa0 : wa.cell? ⟨xc, 0, none⟩ = some (.slice A3 n3 c3) := (hbwwa.cell (p := ⟨xc, 0, none⟩) hlx).trans x0; have qwa1 : wa.cell? ⟨xc, 1, none⟩ = some (.slice A3' m3 c3') := (hbwwa.cell (p := ⟨xc, 1, none⟩) hlx).trans x1; have qwa2 : wa.cell? ⟨xc, 2, none⟩ = some (.int .i64 X.f) := (hbwwa.cell (p := ⟨xc, 2, none⟩) hlx).trans x2; have qwa3 : wa.cell? ⟨xd, 0, none⟩ = some (.slice A4 n4 c4) := (hbwwa.cell (p := ⟨xd, 0, none⟩) hly).trans y0; have qwa4 : wa.cell? ⟨xd, 1, none⟩ = some (.slice A4' m4 c4') := (hbwwa.cell (p := ⟨xd, 1, none⟩) hly).trans y1; have qwa5 : wa.cell? ⟨xd, 2, none⟩ = some (.int .i64 X.f) := (hbwwa.cell (p := ⟨xd, 2, none⟩) hly).trans y2; have HD5 := Lib.hid hD5; clear hD5 ba))
              | (go_at_call 10; ((with_reducible refine (rsame_any A5 n5 c5 A5' m5 c5' X.f X.S X.W A4 n4 c4 A4' m4 c4' X.f X.S X.W _ HD5.out (HE4.out.below (by repeat (first | exact Below.refl _ _ | exact hbwwa | refine Below.drew ?_)))).mono ?_); rintro r wb ⟨rfl, bb⟩; rw [sameD_self]; have hbwwb : Below W.heap.size W wb := (Below.call (by first | exact hbwwa | exact hbwwa.drew) bb); have qwb0 : wb.cell? ⟨xc, 0, none⟩ = some (.slice A3 n3 c3) := (hbwwb.cell (p := ⟨xc, 0, none⟩) hlx).trans x0; have qwb1 : wb.cell? ⟨xc, 1, none⟩ = some (.slice A3' m3 c3') := (hbwwb.cell (p := ⟨xc, 1, none⟩) hlx).trans x1; have qwb2 : wb.cell? ⟨xc, 2, none⟩ = some (.int .i64 X.f) := (hbwwb.cell (p := ⟨xc, 2, none⟩) hlx).trans x2; have qwb3 : wb.cell? ⟨xd, 0, none⟩ = some (.slice A4 n4 c4) := (hbwwb.cell (p := ⟨xd, 0, none⟩) hly).trans y0; have qwb4 : wb.cell? ⟨xd, 1, none⟩ = some (.slice A4' m4 c4') := (hbwwb.cell (p := ⟨xd, 1, none⟩) hly).trans y1; have qwb5 : wb.cell? ⟨xd, 2, none⟩ = some (.int .i64 X.f) := (hbwwb.cell (p := ⟨xd, 2, none⟩) hly).trans y2; clear bb)))
          all_goals (
            go_wp2_with fail
            go_meet
            first
              | exact ⟨rfl, Lib.hid hbwwb⟩
              | exact ⟨rfl, Lib.hid hbwwb.drew⟩)
        case rest =>
          obtain ⟨rfl, hbx⟩ := hcut
          have HI := Lib.hid (HI4.out.call hbx.out)
          clear HBk x0 x1 x2 y0 y1 y2 hlx hly HX4 HY4 HD4 HE4 HI4 hbx
          obtain ⟨v0, v1, v2, v3, v4, v5, v6, v7⟩ := po_cells HI.out.ps
          have hlv := HI.out.ps.lt
          obtain ⟨o0, o1, o2, -, -, -⟩ := HI.out.own
          have hlo := HI.out.own.lt
          have HP1 := Lib.hid (save_any B p d B' q d' f S V z g st t wc HI.out.odev (Shf.tab_call HT.out HI.out.bel))
          have HP2 := Lib.hid (fun W (hb : Below wc.heap.size wc W) => rsave_any A n c A' m c' f S V z g st t W (HI.out.dev.below hb))
          unfold RetS at HP1 HP2

          generalize saveR S V f z g st t = X at *
          go_wp2_with fail
          refine HP1.out.mono ?_
          rintro r w3 ⟨A3, n3, c3, A3', m3, c3', rfl, hd3, b3⟩
          have HBw := Lib.hid (((Below.refl wc.heap.size wc).call b3).push (D33 A3 n3 c3 A3' m3 c3' X.f))
          have HI3 := Lib.hid ((HI.out.call b3).call (new1 w3 (D33 A3 n3 c3 A3' m3 c3' X.f)))
          have HX3 := Lib.hid (Box.new w3 (.slice A3 n3 c3) (.slice A3' m3 c3') (.int .i64 X.f) 33)
          have HD3 := Lib.hid (hd3.new (D33 A3 n3 c3 A3' m3 c3' X.f))
          have hps3 := (HI.out.call b3).ps
          have hlv3 := hps3.lt
          obtain ⟨v0', v1', v2', v3', v4', v5', v6', v7'⟩ := po_cells hps3
          obtain ⟨s0, s1, s2, -, -, -⟩ := (HI.out.call b3).st
          have hls := (HI.out.call b3).st.lt
          clear b3 hd3 hps3 HP1 v0 v1 v2 v3 v4 v5 v6 v7 hlv o0 o1 o2 hlo
          go_wp2_with fail
          refine (HP2.out _ HBw.out).mono ?_
          rintro r w4 ⟨A4, n4, c4, A4', m4, c4', rfl, hd4, b4⟩
          have HI4 := Lib.hid ((HI3.out.call b4).call (new1 w4 (D25 A4 n4 c4 A4' m4 c4' X.f)))
          have HX4 := Lib.hid ((HX3.out.call b4).call (new1 w4 (D25 A4 n4 c4 A4' m4 c4' X.f)))
          have HY4 := Lib.hid (Box.new w4 (.slice A4 n4 c4) (.slice A4' m4 c4') (.int .i64 X.f) 25)
          have HD4 := Lib.hid ((HD3.out.below b4).new (D25 A4 n4 c4 A4' m4 c4' X.f))
          have HE4 := Lib.hid (hd4.new (D25 A4 n4 c4 A4' m4 c4' X.f))
          clear b4 hd4 v0' v1' v2' v3' v4' v5' v6' v7' hlv3 s0 s1 s2 hls HP2 HBw HI3 HX3 HD3
          go_upto_region 10 with fail

          generalize (w4.alloc (D25 A4 n4 c4 A4' m4 c4' X.f)) = W at *

          generalize w3.heap.size = xc at *
          generalize w4.heap.size = xd at *
          have HBk : Hid (∀ W', Below W.heap.size W W' → Calls Tryz.prog 11 #[DV A3 n3 c3 A3' m3 c3' X.f] W' (RetD W' X.S X.W X.f)) := Lib.hid (fun W' hb => back_any A3 n3 c3 A3' m3 c3' X.f X.S X.W W' (HD4.out.below hb))
          unfold RetD at HBk
          obtain ⟨x0, x1, x2, -, -, -⟩ := HX4.out
          obtain ⟨y0, y1, y2, -, -, -⟩ := HY4.out
          have hlx := HX4.out.lt
          have hly := HY4.out.lt
          go_region_held3 (fun W => W.cell? ⟨xc, 0, none⟩ = some (.slice A3 n3 c3) ∧ W.cell? ⟨xc, 1, none⟩ = some (.slice A3' m3 c3') ∧ W.cell? ⟨xc, 2, none⟩ = some (.int .i64 X.f) ∧ W.cell? ⟨xd, 0, none⟩ = some (.slice A4 n4 c4) ∧ W.cell? ⟨xd, 1, none⟩ = some (.slice A4' m4 c4') ∧ W.cell? ⟨xd, 2, none⟩ = some (.int .i64 X.f)) (go_keep)
            (first
              | (go_at_call 11; ((with_reducible refine (HBk.out _ (by repeat (first | exact Below.refl _ _ | refine Below.drew ?_))).mono ?_); rintro r wa ⟨A5, n5, c5, A5', m5, c5', rfl, hD5, ba⟩; have hbwwa : Below W.heap.size W wa := (Below.call (by repeat (first | exact Below.refl _ _ | refine Below.drew ?_)) ba); have qwa0 : wa.cell? ⟨xc, 0, none⟩ = some (.slice A3 n3 c3) := (hbwwa.cell (p := ⟨xc, 0, none⟩) hlx).trans x0; have qwa1 : wa.cell? ⟨xc, 1, none⟩ = some (.slice A3' m3 c3') := (hbwwa.cell (p := ⟨xc, 1, none⟩) hlx).trans x1; have qwa2 : wa.cell? ⟨xc, 2, none⟩ = some (.int .i64 X.f) := (hbwwa.cell (p := ⟨xc, 2, none⟩) hlx).trans x2; have qwa3 : wa.cell? ⟨xd, 0, none⟩ = some (.slice A4 n4 c4) := (hbwwa.cell (p := ⟨xd, 0, none⟩) hly).trans y0; have qwa4 : wa.cell? ⟨xd, 1, none⟩ = some (.slice A4' m4 c4') := (hbwwa.cell (p := ⟨xd, 1, none⟩) hly).trans y1; have qwa5 : wa.cell? ⟨xd, 2, none⟩ = some (.int .i64 X.f) := (hbwwa.cell (p := ⟨xd, 2, none⟩) hly).trans y2; have HD5 := Lib.hid hD5; clear hD5 ba))
              | (go_at_call 10; ((with_reducible refine (rsame_any A5 n5 c5 A5' m5 c5' X.f X.S X.W A4 n4 c4 A4' m4 c4' X.f X.S X.W _ HD5.out (HE4.out.below (by repeat (first | exact Below.refl _ _ | exact hbwwa | refine Below.drew ?_)))).mono ?_); rintro r wb ⟨rfl, bb⟩; rw [sameD_self]; have hbwwb : Below W.heap.size W wb := (Below.call (by first | exact hbwwa | exact hbwwa.drew) bb); have qwb0 : wb.cell? ⟨xc, 0, none⟩ = some (.slice A3 n3 c3) := (hbwwb.cell (p := ⟨xc, 0, none⟩) hlx).trans x0; have qwb1 : wb.cell? ⟨xc, 1, none⟩ = some (.slice A3' m3 c3') := (hbwwb.cell (p := ⟨xc, 1, none⟩) hlx).trans x1; have qwb2 : wb.cell? ⟨xc, 2, none⟩ = some (.int .i64 X.f) := (hbwwb.cell (p := ⟨xc, 2, none⟩) hlx).trans x2; have qwb3 : wb.cell? ⟨xd, 0, none⟩ = some (.slice A4 n4 c4) := (hbwwb.cell (p := ⟨xd, 0, none⟩) hly).trans y0; have qwb4 : wb.cell? ⟨xd, 1, none⟩ = some (.slice A4' m4 c4') := (hbwwb.cell (p := ⟨xd, 1, none⟩) hly).trans y1; have qwb5 : wb.cell? ⟨xd, 2, none⟩ = some (.int .i64 X.f) := (hbwwb.cell (p := ⟨xd, 2, none⟩) hly).trans y2; clear bb))
              | (go_at_call 6; ((with_reducible refine (HAw.out _ (HI4.out.bel.call (by first | exact hbwwb | exact hbwwb.drew))).mono ?_); rintro r wf ⟨rfl, bf⟩; have HBf : Hid (Below w.heap.size w wf) := Lib.hid ((HI4.out.bel.call (by first | exact hbwwb | exact hbwwb.drew)).call bf); have hbwwf : Below W.heap.size W wf := (Below.call (by first | exact hbwwb | exact hbwwb.drew) bf); have qwf0 : wf.cell? ⟨xc, 0, none⟩ = some (.slice A3 n3 c3) := (hbwwf.cell (p := ⟨xc, 0, none⟩) hlx).trans x0; have qwf1 : wf.cell? ⟨xc, 1, none⟩ = some (.slice A3' m3 c3') := (hbwwf.cell (p := ⟨xc, 1, none⟩) hlx).trans x1; have qwf2 : wf.cell? ⟨xc, 2, none⟩ = some (.int .i64 X.f) := (hbwwf.cell (p := ⟨xc, 2, none⟩) hlx).trans x2; have qwf3 : wf.cell? ⟨xd, 0, none⟩ = some (.slice A4 n4 c4) := (hbwwf.cell (p := ⟨xd, 0, none⟩) hly).trans y0; have qwf4 : wf.cell? ⟨xd, 1, none⟩ = some (.slice A4' m4 c4') := (hbwwf.cell (p := ⟨xd, 1, none⟩) hly).trans y1; have qwf5 : wf.cell? ⟨xd, 2, none⟩ = some (.int .i64 X.f) := (hbwwf.cell (p := ⟨xd, 2, none⟩) hly).trans y2; clear bf)))
          all_goals (
            go_wp2_with fail
            go_ret
            first
              | exact ⟨rfl, HBf.out⟩
              | exact ⟨rfl, HBf.out.drew⟩)
      · have h3' : (1500 : Int) < t.size := by omega
        clear hS hW hf1 hf2 hT
        go_enter Tryz.func3, Tryz.ntmps3
        go_wp2_with (go_at_call 6; with_reducible refine (HAw.out _ (((Below.refl w.heap.size w).push _).push _)).mono ?_; rintro r w1 ⟨rfl, b1⟩; have HB1 := Lib.hid ((((Below.refl w.heap.size w).push _).push _).call b1); clear b1)
        go_ret
        exact ⟨rfl, HB1.out⟩
    · have h2' : (1100 : Int) < m := by omega
      clear hS hW hf1 hf2 hT
      go_enter Tryz.func3, Tryz.ntmps3
      go_wp2_with (go_at_call 6; with_reducible refine (HAw.out _ (((Below.refl w.heap.size w).push _).push _)).mono ?_; rintro r w1 ⟨rfl, b1⟩; have HB1 := Lib.hid ((((Below.refl w.heap.size w).push _).push _).call b1); clear b1)
      go_ret
      exact ⟨rfl, HB1.out⟩
  · have h1' : (60 : Int) < n := by omega
    clear hS hW hf1 hf2 hT
    go_enter Tryz.func3, Tryz.ntmps3
    go_wp2_with (go_at_call 6; with_reducible refine (HAw.out _ (((Below.refl w.heap.size w).push _).push _)).mono ?_; rintro r w1 ⟨rfl, b1⟩; have HB1 := Lib.hid ((((Below.refl w.heap.size w).push _).push _).call b1); clear b1)
    go_ret
    exact ⟨rfl, HB1.out⟩

end Go.Proofs.YtpeckeiaonjaaaaGreatDoor.Slt
