/- The walk of SlotsLoads. -/
import Derived.Test.YtpeckeiaonjaaaaGreatDoorSlotsRefD
import Derived.Test.YtpeckeiaonjaaaaGreatDoorSlotsOwn
import Derived.Test.YtpeckeiaonjaaaaGreatDoorSlotsAw
import Derived.Deep.RegionHeld3
import Derived.Deep.DeepCutAuto
namespace Go.Proofs.YtpeckeiaonjaaaaGreatDoor.Slt
open Go.RowKit Go.Proofs.YtpeckeiaonjaaaaGreatDoor.Dsk Go.Proofs.YtpeckeiaonjaaaaGreatDoor.Sht Go.Proofs.YtpeckeiaonjaaaaGreatDoor.Shf
open Go.Proofs.YtpeckeiaonjaaaaGreatDoor.Crc (Tab)

/-- What is kept: both devices' variables, and the numbers. -/
structure LdI (w wr : World) (xb : Nat) (A : Option Addr) (n c : Nat) (A' : Option Addr) (m c' : Nat) (B : Option Addr) (p d : Nat) (B' : Option Addr) (q d' : Nat) (f z0 z1 z2 : Int) (S : List ByteArray) (V : List Wr) : Prop where
  bel : Below w.heap.size w wr
  st : Box wr w.heap.size (.slice A n c) (.slice A' m c') (.int .i64 f)
  nums : Box wr (w.heap.size + 1) (.int .i64 z0) (.int .i64 z1) (.int .i64 z2)
  own : Box wr xb (.slice B p d) (.slice B' q d') (.int .i64 f)
  dev : Dev wr A n c A' m c' f S V
  odev : Dev wr B p d B' q d' f S V
theorem LdI.call {w wr w' : World} {xb : Nat} {A : Option Addr} {n c : Nat} {A' : Option Addr} {m c' : Nat} {B : Option Addr} {p d : Nat} {B' : Option Addr} {q d' : Nat} {f z0 z1 z2 : Int} {S : List ByteArray} {V : List Wr} (h : LdI w wr xb A n c A' m c' B p d B' q d' f z0 z1 z2 S V) (hb : Below wr.heap.size wr w') : LdI w w' xb A n c A' m c' B p d B' q d' f z0 z1 z2 S V :=
  ⟨h.bel.call hb, h.st.call hb, h.nums.call hb, h.own.call hb, h.dev.below hb, h.odev.below hb⟩

theorem drainD_len (S : List ByteArray) (V : List Wr) (f p q : Int) : (drainD S V f p q).length ≤ S.length := by
  unfold drainD
  split
  · refine Nat.le_trans (drainL_len _) ?_
    unfold part; simp [secsD]; omega
  · simp

set_option maxRecDepth 100000 in
set_option maxHeartbeats 4000000 in
theorem walk_loads (A : Option Addr) (n c : Nat) (A' : Option Addr) (m c' : Nat) (f : Int) (S : List ByteArray) (V : List Wr) (z0 z1 z2 : Int) (w : World) (hS : RV w A n 1 (SV S)) (hW : RV w A' m 2 (WV V)) (hf1 : -9223372036854775808 ≤ f) (hf2 : f ≤ 9223372036854775807) (hT : Tab w) :
    Calls Tryz.prog 4 #[DV A n c A' m c' f, .agg #[.int .i64 z0, .int .i64 z1, .int .i64 z2]] w fun r w' => r = .returned (.bool true) ∧ Below w.heap.size w w' := by
  have HAw := Lib.hid (fun W (hb : Below w.heap.size w W) => awake_any W (Shf.tab_call hT hb))
  by_cases h1 : (n : Int) ≤ 60
  · by_cases h2 : (m : Int) ≤ 1100
    · have hD : Dev w A n c A' m c' f S V := ⟨hS, hW, hf1, hf2, by have := hS.sec; omega, by have := hW.wr; omega⟩
      have HOw := Lib.hid (own_any A n c A' m c' f S V _ ((hD.new (D25 A n c A' m c' f)).new (.cells #[.int .i64 z0, .int .i64 z1, .int .i64 z2] 48)))
      unfold RetD at HOw
      have HD := Lib.hid hD
      have HT := Lib.hid hT
      have HLen := Lib.hid (show ∀ p q, (drainD S V f p q).length ≤ 60 from fun p q => Nat.le_trans (drainD_len S V f p q) (by have := hS.sec; omega))
      clear hS hW hD hf1 hf2 hT
      go_enter Tryz.func4, Tryz.ntmps4
      go_wp2_with fail
      with_reducible refine HOw.out.mono ?_
      rintro r w1 ⟨B, p, d, B', q, d', rfl, hd1, b1⟩
      have HI0 : Hid (LdI w (w1.alloc (D33 B p d B' q d' f)) w1.heap.size A n c A' m c' B p d B' q d' f z0 z1 z2 S V) := Lib.hid
        ⟨(((new1 w (D25 A n c A' m c' f)).push (.cells #[.int .i64 z0, .int .i64 z1, .int .i64 z2] 48)).call b1).push _,
          (((Box.new w (.slice A n c) (.slice A' m c') (.int .i64 f) 25).alloc (.cells #[.int .i64 z0, .int .i64 z1, .int .i64 z2] 48)).call b1).alloc _,
          (by have := (Box.new (w.alloc (D25 A n c A' m c' f)) (.int .i64 z0) (.int .i64 z1) (.int .i64 z2) 48).call b1; rwa [World.size_alloc] at this : Box w1 (w.heap.size + 1) (.int .i64 z0) (.int .i64 z1) (.int .i64 z2)).alloc _,
          Box.new _ _ _ _ _, (((HD.out.new _).new _).below b1).new _, hd1.new _⟩
      clear b1 hd1 HOw
      go_wp2_with fail
      generalize w1.alloc (D33 B p d B' q d' f) = w2 at *
      generalize w1.heap.size = xb at *
      go_loopw [6] (fun s6 wr => ∃ i : Nat, (i : Int) ≤ 4 ∧ s6 = .int .i64 ((i : Int) - 1) ∧ Hid (LdI w wr xb A n c A' m c' B p d B' q d' f z0 z1 z2 S V)) (fun s6 _ => 4 - (intOf s6 + 1).toNat)
      case atStart => exact ⟨0, by decide, rfl, HI0⟩
      case round =>
        obtain ⟨i, hi, rfl, HI⟩ := hrel
        obtain ⟨c0, c1, c2, -, -, -⟩ := HI.out.st
        obtain ⟨o0, o1, o2, -, -, -⟩ := HI.out.own
        have hlc := HI.out.st.lt
        have hlo := HI.out.own.lt
        clear HI0
        by_cases hlt : (i : Int) - 1 < 3
        · have HL1 := Lib.hid (load_any B p d B' q d' f S V ((i : Int) - 1) _ HI.out.odev (Shf.tab_call HT.out HI.out.bel))
          have HL2 := Lib.hid (fun W (hb : Below wr.heap.size wr W) => rload_any A n c A' m c' f S V ((i : Int) - 1) W (HI.out.dev.below hb))
          unfold RetN at HL1 HL2
          generalize loadDG S V f ((i : Int) - 1) = lg at *
          generalize loadDT S V f ((i : Int) - 1) = lt at *
          generalize loadDE S V f ((i : Int) - 1) = le at *
          go_wp2_with fail
          with_reducible refine HL1.out.mono ?_
          rintro r w3 ⟨rfl, b3⟩
          have HB3 := Lib.hid (((Below.refl wr.heap.size wr).call b3).push (.cells #[.int .i64 lg, .string lt] 50))
          have HX3 := Lib.hid (Bx2.new w3 (.int .i64 lg) (.string lt) 50)
          have HI3 := Lib.hid ((HI.out.call b3).call (new1 w3 (.cells #[.int .i64 lg, .string lt] 50)))
          obtain ⟨c0, c1, c2, -, -, -⟩ := (HI.out.call b3).st
          have hlc := (HI.out.call b3).st.lt
          clear b3 HL1 HI o0 o1 o2 hlo
          go_wp2_with fail
          with_reducible refine (HL2.out _ HB3.out).mono ?_
          rintro r w4 ⟨rfl, b4⟩
          have HI4 := Lib.hid ((HI3.out.call b4).call (new1 w4 (.cells #[.int .i64 lg, .string lt] 53)))
          obtain ⟨x0, x1, -, -⟩ := HX3.out.call b4
          have hlx := (HX3.out.call b4).lt
          clear b4 HL2 HB3 HX3 HI3 c0 c1 c2 hlc
          go_wp2_with fail
          go_roundw
          case rel => exact ⟨i + 1, by omega, by go_num, HI4⟩
          case measure => simp [intOf]; omega
        · obtain rfl : i = 4 := by omega
          have HB1 := Lib.hid (best_any B p d B' q d' f S V _ HI.out.odev (Shf.tab_call HT.out HI.out.bel))
          have HB2 := Lib.hid (fun W (hb : Below wr.heap.size wr W) => rbest_any A n c A' m c' f S V W (HI.out.dev.below hb))
          unfold RetB at HB1 HB2
          generalize bestR S V f = bb at *
          obtain ⟨bz, bg, bt, be⟩ := bb
          dsimp only at HB1 HB2
          go_wp2_with fail
          with_reducible refine HB1.out.mono ?_
          rintro r w3 ⟨rfl, b3⟩
          have HBw3 := Lib.hid (((Below.refl wr.heap.size wr).call b3).push (.cells #[.int .i64 bg, .string bt] 50))
          have HX3 := Lib.hid (Bx2.new w3 (.int .i64 bg) (.string bt) 50)
          have HI3 := Lib.hid ((HI.out.call b3).call (new1 w3 (.cells #[.int .i64 bg, .string bt] 50)))
          obtain ⟨c0, c1, c2, -, -, -⟩ := (HI.out.call b3).st
          have hlc := (HI.out.call b3).st.lt
          clear b3 HB1 HI o0 o1 o2 hlo
          go_wp2_with fail
          with_reducible refine (HB2.out _ HBw3.out).mono ?_
          rintro r w4 ⟨rfl, b4⟩
          have HI4 := Lib.hid ((HI3.out.call b4).call (new1 w4 (.cells #[.int .i64 bg, .string bt] 53)))
          obtain ⟨x0, x1, -, -⟩ := HX3.out.call b4
          have hlx := (HX3.out.call b4).lt
          clear b4 HB2 HBw3 HX3 HI3 c0 c1 c2 hlc
          go_upto_region 15 with fail
          generalize w4.alloc (.cells #[.int .i64 bg, .string bt] 53) = W at *
          clear x0 x1 hlx
          --REGION15
          have HDr1 : Hid (∀ W', Below W.heap.size W W' → Calls Tryz.prog 19 #[DV B p d B' q d' f, .int .i64 z0, .int .i64 z1] W' (RetT W' (drainD S V f z0 z1))) := Lib.hid (fun W' hb => drain_any B p d B' q d' f S V z0 z1 W' (HI4.out.odev.below hb))
          have HDr2 : Hid (∀ W', Below W.heap.size W W' → Calls Tryz.prog 20 #[DV A n c A' m c' f, .int .i64 z0, .int .i64 z1] W' (RetT W' (drainD S V f z0 z1))) := Lib.hid (fun W' hb => rdrain_any A n c A' m c' f S V z0 z1 W' (HI4.out.dev.below hb))
          have HLn := Lib.hid (HLen.out z0 z1)
          have HTp1 : Hid (∀ W', Below W.heap.size W W' → Calls Tryz.prog 21 #[DV B p d B' q d' f] W' fun r w' => r = .returned (.int .i64 (topD S V f)) ∧ Below W'.heap.size W' w') := Lib.hid (fun W' hb => topD_any B p d B' q d' f S V W' (HI4.out.odev.below hb))
          have HTp2 : Hid (∀ W', Below W.heap.size W W' → Calls Tryz.prog 22 #[DV A n c A' m c' f] W' fun r w' => r = .returned (.int .i64 (topD S V f)) ∧ Below W'.heap.size W' w') := Lib.hid (fun W' hb => rtopD_any A n c A' m c' f S V W' (HI4.out.dev.below hb))
          have HZ1 := Lib.hid (fun W => size_any z2 W)
          have HZ2 := Lib.hid (fun W => rsize_any z2 W)
          have HZ3 := Lib.hid (fun W => begin_any z2 W)
          have HZ4 := Lib.hid (fun W => rbegin_any z2 W)
          have HZ5 := Lib.hid (fun W => room_any z2 W)
          have HZ6 := Lib.hid (fun W => rroom_any z2 W)
          unfold RetT at HDr1 HDr2
          generalize drainD S V f z0 z1 = D at *
          generalize topD S V f = tp at *
          generalize 2 * sizR z2 = y2 at *
          generalize longR (sizR z2) = y3 at *
          generalize sizR z2 = y1 at *
          obtain ⟨x0, x1, x2, -, -, -⟩ := HI4.out.st
          obtain ⟨x3, x4, x5, -, -, -⟩ := HI4.out.nums
          obtain ⟨x6, x7, x8, -, -, -⟩ := HI4.out.own
          have hlxa := HI4.out.st.lt
          have hlxn := HI4.out.nums.lt
          have hlxb := HI4.out.own.lt
          generalize w.heap.size + 1 = xn at *
          obtain ⟨xa, hxa⟩ : ∃ xa, xa = w.heap.size := ⟨_, rfl⟩
          rw [← hxa] at x0 x1 x2 hlxa ⊢
          clear hxa
          go_region_held3 (fun W => W.cell? ⟨xa, 0, none⟩ = some (.slice A n c) ∧ W.cell? ⟨xa, 1, none⟩ = some (.slice A' m c') ∧ W.cell? ⟨xa, 2, none⟩ = some (.int .i64 f) ∧ W.cell? ⟨xn, 0, none⟩ = some (.int .i64 z0) ∧ W.cell? ⟨xn, 1, none⟩ = some (.int .i64 z1) ∧ W.cell? ⟨xn, 2, none⟩ = some (.int .i64 z2) ∧ W.cell? ⟨xb, 0, none⟩ = some (.slice B p d) ∧ W.cell? ⟨xb, 1, none⟩ = some (.slice B' q d') ∧ W.cell? ⟨xb, 2, none⟩ = some (.int .i64 f)) (go_keep)
            (first
              | (go_at_call 19; ((with_reducible refine (HDr1.out _ (by repeat (first | exact Below.refl _ _ | refine Below.drew ?_))).mono ?_); rintro r wa ⟨A5, m5, k5, rfl, hr5, bwa⟩; have hbwwa : Below W.heap.size W wa := (Below.call (by repeat (first | exact Below.refl _ _ | refine Below.drew ?_)) bwa); have HR5 := Lib.hid hr5; clear hr5; have qwa0 : wa.cell? ⟨xa, 0, none⟩ = some (.slice A n c) := (hbwwa.cell (p := ⟨xa, 0, none⟩) hlxa).trans x0; have qwa1 : wa.cell? ⟨xa, 1, none⟩ = some (.slice A' m c') := (hbwwa.cell (p := ⟨xa, 1, none⟩) hlxa).trans x1; have qwa2 : wa.cell? ⟨xa, 2, none⟩ = some (.int .i64 f) := (hbwwa.cell (p := ⟨xa, 2, none⟩) hlxa).trans x2; have qwa3 : wa.cell? ⟨xn, 0, none⟩ = some (.int .i64 z0) := (hbwwa.cell (p := ⟨xn, 0, none⟩) hlxn).trans x3; have qwa4 : wa.cell? ⟨xn, 1, none⟩ = some (.int .i64 z1) := (hbwwa.cell (p := ⟨xn, 1, none⟩) hlxn).trans x4; have qwa5 : wa.cell? ⟨xn, 2, none⟩ = some (.int .i64 z2) := (hbwwa.cell (p := ⟨xn, 2, none⟩) hlxn).trans x5; have qwa6 : wa.cell? ⟨xb, 0, none⟩ = some (.slice B p d) := (hbwwa.cell (p := ⟨xb, 0, none⟩) hlxb).trans x6; have qwa7 : wa.cell? ⟨xb, 1, none⟩ = some (.slice B' q d') := (hbwwa.cell (p := ⟨xb, 1, none⟩) hlxb).trans x7; have qwa8 : wa.cell? ⟨xb, 2, none⟩ = some (.int .i64 f) := (hbwwa.cell (p := ⟨xb, 2, none⟩) hlxb).trans x8; have hlwa := hbwwa.size; clear bwa))
              | (go_at_call 20; ((with_reducible refine (HDr2.out _ (by repeat (first | exact Below.refl _ _ | exact hbwwa | refine Below.drew ?_))).mono ?_); rintro r wb ⟨A6, m6, k6, rfl, hr6, bwb⟩; have hbwwb : Below W.heap.size W wb := (Below.call (by repeat (first | exact Below.refl _ _ | exact hbwwa | refine Below.drew ?_)) bwb); have HR6 := Lib.hid hr6; have HR5b := Lib.hid (HR5.out.below bwb); clear hr6; have qwb0 : wb.cell? ⟨xa, 0, none⟩ = some (.slice A n c) := (hbwwb.cell (p := ⟨xa, 0, none⟩) hlxa).trans x0; have qwb1 : wb.cell? ⟨xa, 1, none⟩ = some (.slice A' m c') := (hbwwb.cell (p := ⟨xa, 1, none⟩) hlxa).trans x1; have qwb2 : wb.cell? ⟨xa, 2, none⟩ = some (.int .i64 f) := (hbwwb.cell (p := ⟨xa, 2, none⟩) hlxa).trans x2; have qwb3 : wb.cell? ⟨xn, 0, none⟩ = some (.int .i64 z0) := (hbwwb.cell (p := ⟨xn, 0, none⟩) hlxn).trans x3; have qwb4 : wb.cell? ⟨xn, 1, none⟩ = some (.int .i64 z1) := (hbwwb.cell (p := ⟨xn, 1, none⟩) hlxn).trans x4; have qwb5 : wb.cell? ⟨xn, 2, none⟩ = some (.int .i64 z2) := (hbwwb.cell (p := ⟨xn, 2, none⟩) hlxn).trans x5; have qwb6 : wb.cell? ⟨xb, 0, none⟩ = some (.slice B p d) := (hbwwb.cell (p := ⟨xb, 0, none⟩) hlxb).trans x6; have qwb7 : wb.cell? ⟨xb, 1, none⟩ = some (.slice B' q d') := (hbwwb.cell (p := ⟨xb, 1, none⟩) hlxb).trans x7; have qwb8 : wb.cell? ⟨xb, 2, none⟩ = some (.int .i64 f) := (hbwwb.cell (p := ⟨xb, 2, none⟩) hlxb).trans x8; have hlwb := hbwwb.size; clear bwb))
              | (go_at_call 18; ((with_reducible refine (same_any A5 m5 k5 A6 m6 k6 _ _ HR5b.out HR6.out (by have := HR5.out.sec; have := HLn.out; omega)).mono ?_); rintro r wc ⟨rfl, bwc⟩; have hbwwc : Below W.heap.size W wc := (Below.call (by repeat (first | exact Below.refl _ _ | exact hbwwb | refine Below.drew ?_)) bwc); have qwc0 : wc.cell? ⟨xa, 0, none⟩ = some (.slice A n c) := (hbwwc.cell (p := ⟨xa, 0, none⟩) hlxa).trans x0; have qwc1 : wc.cell? ⟨xa, 1, none⟩ = some (.slice A' m c') := (hbwwc.cell (p := ⟨xa, 1, none⟩) hlxa).trans x1; have qwc2 : wc.cell? ⟨xa, 2, none⟩ = some (.int .i64 f) := (hbwwc.cell (p := ⟨xa, 2, none⟩) hlxa).trans x2; have qwc3 : wc.cell? ⟨xn, 0, none⟩ = some (.int .i64 z0) := (hbwwc.cell (p := ⟨xn, 0, none⟩) hlxn).trans x3; have qwc4 : wc.cell? ⟨xn, 1, none⟩ = some (.int .i64 z1) := (hbwwc.cell (p := ⟨xn, 1, none⟩) hlxn).trans x4; have qwc5 : wc.cell? ⟨xn, 2, none⟩ = some (.int .i64 z2) := (hbwwc.cell (p := ⟨xn, 2, none⟩) hlxn).trans x5; have qwc6 : wc.cell? ⟨xb, 0, none⟩ = some (.slice B p d) := (hbwwc.cell (p := ⟨xb, 0, none⟩) hlxb).trans x6; have qwc7 : wc.cell? ⟨xb, 1, none⟩ = some (.slice B' q d') := (hbwwc.cell (p := ⟨xb, 1, none⟩) hlxb).trans x7; have qwc8 : wc.cell? ⟨xb, 2, none⟩ = some (.int .i64 f) := (hbwwc.cell (p := ⟨xb, 2, none⟩) hlxb).trans x8; have hlwc := hbwwc.size; clear bwc))
              | (go_at_call 21; ((with_reducible refine (HTp1.out _ (by repeat (first | exact Below.refl _ _ | exact hbwwc | refine Below.drew ?_))).mono ?_); rintro r wd ⟨rfl, bwd⟩; have hbwwd : Below W.heap.size W wd := (Below.call (by repeat (first | exact Below.refl _ _ | exact hbwwc | refine Below.drew ?_)) bwd); have qwd0 : wd.cell? ⟨xa, 0, none⟩ = some (.slice A n c) := (hbwwd.cell (p := ⟨xa, 0, none⟩) hlxa).trans x0; have qwd1 : wd.cell? ⟨xa, 1, none⟩ = some (.slice A' m c') := (hbwwd.cell (p := ⟨xa, 1, none⟩) hlxa).trans x1; have qwd2 : wd.cell? ⟨xa, 2, none⟩ = some (.int .i64 f) := (hbwwd.cell (p := ⟨xa, 2, none⟩) hlxa).trans x2; have qwd3 : wd.cell? ⟨xn, 0, none⟩ = some (.int .i64 z0) := (hbwwd.cell (p := ⟨xn, 0, none⟩) hlxn).trans x3; have qwd4 : wd.cell? ⟨xn, 1, none⟩ = some (.int .i64 z1) := (hbwwd.cell (p := ⟨xn, 1, none⟩) hlxn).trans x4; have qwd5 : wd.cell? ⟨xn, 2, none⟩ = some (.int .i64 z2) := (hbwwd.cell (p := ⟨xn, 2, none⟩) hlxn).trans x5; have qwd6 : wd.cell? ⟨xb, 0, none⟩ = some (.slice B p d) := (hbwwd.cell (p := ⟨xb, 0, none⟩) hlxb).trans x6; have qwd7 : wd.cell? ⟨xb, 1, none⟩ = some (.slice B' q d') := (hbwwd.cell (p := ⟨xb, 1, none⟩) hlxb).trans x7; have qwd8 : wd.cell? ⟨xb, 2, none⟩ = some (.int .i64 f) := (hbwwd.cell (p := ⟨xb, 2, none⟩) hlxb).trans x8; have hlwd := hbwwd.size; clear bwd))
              | (go_at_call 22; ((with_reducible refine (HTp2.out _ (by repeat (first | exact Below.refl _ _ | exact hbwwd | refine Below.drew ?_))).mono ?_); rintro r we ⟨rfl, bwe⟩; have hbwwe : Below W.heap.size W we := (Below.call (by repeat (first | exact Below.refl _ _ | exact hbwwd | refine Below.drew ?_)) bwe); have qwe0 : we.cell? ⟨xa, 0, none⟩ = some (.slice A n c) := (hbwwe.cell (p := ⟨xa, 0, none⟩) hlxa).trans x0; have qwe1 : we.cell? ⟨xa, 1, none⟩ = some (.slice A' m c') := (hbwwe.cell (p := ⟨xa, 1, none⟩) hlxa).trans x1; have qwe2 : we.cell? ⟨xa, 2, none⟩ = some (.int .i64 f) := (hbwwe.cell (p := ⟨xa, 2, none⟩) hlxa).trans x2; have qwe3 : we.cell? ⟨xn, 0, none⟩ = some (.int .i64 z0) := (hbwwe.cell (p := ⟨xn, 0, none⟩) hlxn).trans x3; have qwe4 : we.cell? ⟨xn, 1, none⟩ = some (.int .i64 z1) := (hbwwe.cell (p := ⟨xn, 1, none⟩) hlxn).trans x4; have qwe5 : we.cell? ⟨xn, 2, none⟩ = some (.int .i64 z2) := (hbwwe.cell (p := ⟨xn, 2, none⟩) hlxn).trans x5; have qwe6 : we.cell? ⟨xb, 0, none⟩ = some (.slice B p d) := (hbwwe.cell (p := ⟨xb, 0, none⟩) hlxb).trans x6; have qwe7 : we.cell? ⟨xb, 1, none⟩ = some (.slice B' q d') := (hbwwe.cell (p := ⟨xb, 1, none⟩) hlxb).trans x7; have qwe8 : we.cell? ⟨xb, 2, none⟩ = some (.int .i64 f) := (hbwwe.cell (p := ⟨xb, 2, none⟩) hlxb).trans x8; have hlwe := hbwwe.size; clear bwe))
              | (go_at_call 23; ((with_reducible refine (HZ1.out _).mono ?_); rintro r wq ⟨rfl, rfl⟩))
              | (go_at_call 24; ((with_reducible refine (HZ2.out _).mono ?_); rintro r wq ⟨rfl, rfl⟩))
              | (go_at_call 25; ((with_reducible refine (HZ3.out _).mono ?_); rintro r wq ⟨rfl, rfl⟩))
              | (go_at_call 26; ((with_reducible refine (HZ4.out _).mono ?_); rintro r wq ⟨rfl, rfl⟩))
              | (go_at_call 27; ((with_reducible refine (HZ5.out _).mono ?_); rintro r wq ⟨rfl, rfl⟩))
              | (go_at_call 28; ((with_reducible refine (HZ6.out _).mono ?_); rintro r wq ⟨rfl, rfl⟩))
              | (go_at_call 6; ((with_reducible refine (HAw.out _ (HI4.out.bel.call (by repeat (first | exact Below.refl _ _ | exact hbwwe | refine Below.drew ?_)))).mono ?_); rintro r wf ⟨rfl, bwf⟩; have HBf : Hid (Below w.heap.size w wf) := Lib.hid (HI4.out.bel.call (Below.call (by repeat (first | exact Below.refl _ _ | exact hbwwe | refine Below.drew ?_)) bwf)); have hbwf : Below W.heap.size W wf := (Below.call (by repeat (first | exact Below.refl _ _ | exact hbwwe | refine Below.drew ?_)) bwf); have qwf0 : wf.cell? ⟨xa, 0, none⟩ = some (.slice A n c) := (hbwf.cell (p := ⟨xa, 0, none⟩) hlxa).trans x0; have qwf1 : wf.cell? ⟨xa, 1, none⟩ = some (.slice A' m c') := (hbwf.cell (p := ⟨xa, 1, none⟩) hlxa).trans x1; have qwf2 : wf.cell? ⟨xa, 2, none⟩ = some (.int .i64 f) := (hbwf.cell (p := ⟨xa, 2, none⟩) hlxa).trans x2; have qwf3 : wf.cell? ⟨xn, 0, none⟩ = some (.int .i64 z0) := (hbwf.cell (p := ⟨xn, 0, none⟩) hlxn).trans x3; have qwf4 : wf.cell? ⟨xn, 1, none⟩ = some (.int .i64 z1) := (hbwf.cell (p := ⟨xn, 1, none⟩) hlxn).trans x4; have qwf5 : wf.cell? ⟨xn, 2, none⟩ = some (.int .i64 z2) := (hbwf.cell (p := ⟨xn, 2, none⟩) hlxn).trans x5; have qwf6 : wf.cell? ⟨xb, 0, none⟩ = some (.slice B p d) := (hbwf.cell (p := ⟨xb, 0, none⟩) hlxb).trans x6; have qwf7 : wf.cell? ⟨xb, 1, none⟩ = some (.slice B' q d') := (hbwf.cell (p := ⟨xb, 1, none⟩) hlxb).trans x7; have qwf8 : wf.cell? ⟨xb, 2, none⟩ = some (.int .i64 f) := (hbwf.cell (p := ⟨xb, 2, none⟩) hlxb).trans x8; clear bwf)))
          all_goals (
            go_wp2_with fail
            go_ret
            first
              | exact ⟨rfl, HBf.out⟩
              | exact ⟨rfl, HBf.out.drew⟩)
    · have h2' : (1100 : Int) < m := by omega
      clear hS hW hf1 hf2 hT
      go_enter Tryz.func4, Tryz.ntmps4
      go_wp2_with (go_at_call 6; with_reducible refine (HAw.out _ (((Below.refl w.heap.size w).push _).push _)).mono ?_; rintro r w1 ⟨rfl, b1⟩; have HB1 := Lib.hid ((((Below.refl w.heap.size w).push _).push _).call b1); clear b1)
      go_ret
      exact ⟨rfl, HB1.out⟩
  · have h1' : (60 : Int) < n := by omega
    clear hS hW hf1 hf2 hT
    go_enter Tryz.func4, Tryz.ntmps4
    go_wp2_with (go_at_call 6; with_reducible refine (HAw.out _ (((Below.refl w.heap.size w).push _).push _)).mono ?_; rintro r w1 ⟨rfl, b1⟩; have HB1 := Lib.hid ((((Below.refl w.heap.size w).push _).push _).call b1); clear b1)
    go_ret
    exact ⟨rfl, HB1.out⟩

end Go.Proofs.YtpeckeiaonjaaaaGreatDoor.Slt
