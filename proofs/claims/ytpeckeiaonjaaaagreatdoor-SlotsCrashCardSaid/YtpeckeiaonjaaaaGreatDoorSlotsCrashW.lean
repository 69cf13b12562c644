/- The walk of SlotsCrash. -/
import Derived.Test.YtpeckeiaonjaaaaGreatDoorSlotsAw
import Derived.Test.YtpeckeiaonjaaaaGreatDoorSlotsLeft
import Derived.Test.YtpeckeiaonjaaaaGreatDoorSlotsPRow
import Derived.Test.YtpeckeiaonjaaaaGreatDoorDskB
import Derived.Test.YtpeckeiaonjaaaaGreatDoorDiskNewD
import Derived.Deep.RegionHeld3
import Derived.Deep.DeepCutAuto
namespace Go.Proofs.YtpeckeiaonjaaaaGreatDoor.Slt
open Go.RowKit Go.Proofs.YtpeckeiaonjaaaaGreatDoor.Dsk Go.Proofs.YtpeckeiaonjaaaaGreatDoor.Sht Go.Proofs.YtpeckeiaonjaaaaGreatDoor.Shf
open Go.Proofs.YtpeckeiaonjaaaaGreatDoor.Crc (Tab)

/-- A try: a text, a fuse, and what is left of each write. -/
structure Tr where
  t : ByteArray
  f : Nat
  cs : List UInt8
def UV (l : List UInt8) : List Value := l.map fun b => Value.int .u8 b.toNat
def ints (l : List UInt8) : List Int := l.map fun b => ((b.toNat : Nat) : Int)
theorem UV_length (l : List UInt8) : (UV l).length = l.length := by simp [UV]
/-- A slice reads as these tries. -/
def TrV (w : World) (A : Option Addr) (n : Nat) (L : List Tr) : Prop :=
  L.length = n ∧ (0 < n → ∃ b off, A = some ⟨b, off, none⟩ ∧ b < w.heap.size ∧ ∀ i, (hi : i < L.length) → w.cell? ⟨b, off + i * 3, none⟩ = some (.string L[i].t) ∧ w.cell? ⟨b, off + i * 3 + 1, none⟩ = some (.int .u8 L[i].f) ∧ L[i].f < 256 ∧
    ∃ a m c, w.cell? ⟨b, off + i * 3 + 2, none⟩ = some (.slice a m c) ∧ RV w a m 1 (UV L[i].cs) ∧ m ≤ c)
theorem TrV.below {w w' : World} {A : Option Addr} {n : Nat} {L : List Tr} (h : TrV w A n L) (hb : Below w.heap.size w w') : TrV w' A n L :=
  ⟨h.1, fun hn => by
    obtain ⟨b, off, e, hl, hc⟩ := h.2 hn
    refine ⟨b, off, e, Nat.lt_of_lt_of_le hl hb.size, fun i hi => ?_⟩
    obtain ⟨h1, h2, h3, a, m, c, h4, h5, h6⟩ := hc i hi
    exact ⟨(hb.cell (p := ⟨b, off + i * 3, none⟩) hl).trans h1, (hb.cell (p := ⟨b, off + i * 3 + 1, none⟩) hl).trans h2, h3, a, m, c, (hb.cell (p := ⟨b, off + i * 3 + 2, none⟩) hl).trans h4, h5.below hb, h6⟩⟩

/-- What is kept behind each try. -/
structure CrI (w wr : World) (db : Nat) (A : Option Addr) (n c : Nat) (A' : Option Addr) (m c' : Nat) (v : Value) (S1 S : List ByteArray) (M : List Wr) (i : Nat) : Prop where
  bel : Below w.heap.size w wr
  st : St wr db A n c A' m c' (-1)
  dev : Dev wr A n c A' m c' (-1) S []
  row : PRow wr w.heap.size v M
  inv : CInv S1 S M (4 + 4 * i)
  len : M.length = i

theorem CrI.call {w wr w' : World} {db : Nat} {A : Option Addr} {n c : Nat} {A' : Option Addr} {m c' : Nat} {v : Value} {S1 S : List ByteArray} {M : List Wr} {i : Nat} (h : CrI w wr db A n c A' m c' v S1 S M i) (hb : Below wr.heap.size wr w') : CrI w w' db A n c A' m c' v S1 S M i :=
  ⟨h.bel.call hb, h.st.call hb, h.dev.below hb, h.row.call hb, h.inv, h.len⟩

set_option maxRecDepth 100000 in
set_option maxHeartbeats 4000000 in
theorem walk_crash (first : ByteArray) (A : Option Addr) (N cl : Nat) (L : List Tr) (w : World) (hT : Tab w) (hL : TrV w A N L) (hcl : N ≤ cl) :
    Calls Tryz.prog 5 #[.string first, .slice A N cl] w fun r w' => r = .returned (.bool true) ∧ Below w.heap.size w w' := by
  have HAw := Lib.hid (fun W (hb : Below w.heap.size w W) => awake_any W (Shf.tab_call hT hb))
  by_cases h1 : (first.size : Int) ≤ 140
  · by_cases h2 : (N : Int) ≤ 6
    · have HN := Lib.hid (fun W => new_yes 16 W (by omega) (by omega))
      rw [show ((16 : Nat) : Int) = 16 from rfl] at HN
      unfold RetDE at HN
      obtain ⟨S1, p1, hs1, hinv, hfirst⟩ := first_ (first := first) (by omega)
      have HS1 := Lib.hid (fun W A n c A' m c' (hD : Dev W A n c A' m c' (-1) (newS 16) []) hT => save_any A n c A' m c' (-1) (newS 16) [] 0 1 1 first W hD hT)
      rw [hs1] at HS1
      unfold RetS at HS1
      dsimp only at HS1
      have HInv := Lib.hid hinv
      have HFi := Lib.hid hfirst
      have HT := Lib.hid hT
      have HLv := Lib.hid hL
      have HLl := Lib.hid hL.1
      clear hs1 hinv hfirst hT hL
      generalize ((1 : Int) + (cntN first.size : Nat)) = st1 at *
      go_enter Tryz.func5, Tryz.ntmps5
      go_wp2_with fail
      with_reducible refine (HN.out _).mono ?_
      rintro r w1 ⟨A1, n1, c1, A1', m1, c1', rfl, hd1, b1⟩
      have HB1 := Lib.hid (((Below.refl w.heap.size w).call b1).push (D33 A1 n1 c1 A1' m1 c1' (-1)))
      have HD1 := Lib.hid (hd1.new (D33 A1 n1 c1 A1' m1 c1' (-1)))
      have HX1 := Lib.hid (St.new w1 A1 n1 c1 A1' m1 c1' (-1) 33)
      have hwd : w.heap.size ≤ w1.heap.size := b1.size
      clear b1 hd1 HN
      go_wp2_with fail
      with_reducible refine (HS1.out _ _ _ _ _ _ _ HD1.out (Shf.tab_call HT.out HB1.out)).mono ?_
      rintro r w2 ⟨A2, n2, c2, A2', m2, c2', rfl, hd2, b2⟩
      have HB2 := Lib.hid (HB1.out.call b2)
      have HX2 := Lib.hid (HX1.out.call b2)
      have HD2 := Lib.hid hd2
      obtain ⟨d0, d1, d2, f0, f1, f2⟩ := HX2.out.box
      have hld := HX2.out.lt
      clear b2 hd2 HS1 HB1 HX1 HD1
      go_wp2_with fail
      have H0 : Hid (CrI w (((w2.setCell ⟨w1.heap.size, 0, none⟩ (.slice A2 n2 c2)).setCell ⟨w1.heap.size, 1, none⟩ (.slice A2' m2 c2')).setCell ⟨w1.heap.size, 2, none⟩ (.int .i64 (-1))) w1.heap.size A2 n2 c2 A2' m2 c2' (.slice none 0 0) S1 S1 [] 0) :=
        Lib.hid ⟨HB2.out.set3 hwd _ _ _, HX2.out.set3 _ _ _ _ _ _ _, HD2.out.only HX2.out.ns (grown_set3 _ _ _ _ _), PRow.nil _ _, HInv.out, rfl⟩
      generalize (((w2.setCell ⟨w1.heap.size, 0, none⟩ (.slice A2 n2 c2)).setCell ⟨w1.heap.size, 1, none⟩ (.slice A2' m2 c2')).setCell ⟨w1.heap.size, 2, none⟩ (.int .i64 (-1))) = WL at *
      clear d0 d1 d2 f0 f1 f2 hld HB2 HX2 HD2 HInv
      generalize w1.heap.size = db at *
      have HWD := Lib.hid hwd
      clear hwd
      go_loopw [7, 8] (fun s7 s8 wr => ∃ i : Nat, i ≤ N ∧ s8 = .int .i64 i ∧ Hid (∃ A n c A' m c' S M, CrI w wr db A n c A' m c' s7 S1 S M i)) (fun _ s8 _ => N - (intOf s8).toNat)
      case atStart => exact ⟨0, Nat.zero_le _, rfl, Lib.hid ⟨_, _, _, _, _, _, _, _, H0.out⟩⟩
      case round =>
        obtain ⟨i, hi, rfl, HI⟩ := hrel
        obtain ⟨A3, n3, c3, A3', m3, c3', S, M, hI⟩ := HI.out
        have HI3 := Lib.hid hI
        obtain ⟨d0, d1, d2, f0, f1, f2⟩ := hI.st.box
        have hld := hI.st.lt
        clear hI HI H0
        by_cases hlt : i < N
        · have hil : i < L.length := by have := HLl.out; omega
          obtain ⟨b, off, rfl, hb, hall⟩ := (HLv.out.below HI3.out.bel).2 (by omega)
          obtain ⟨t0, t1, t3, ca, cm, cc, t2, hcu, hcc⟩ := hall i hil
          have HCu := Lib.hid hcu
          have HCl := Lib.hid (by have := hcu.1; rw [UV_length] at this; omega : L[i].cs.length = cm)
          clear hall hcu
          generalize L[i] = x at *
          obtain ⟨xt, xf, xc⟩ := x
          dsimp only at t0 t1 t3 HCu HCl
          by_cases h3 : (xt.size : Int) ≤ 140
          · by_cases h4 : (cm : Int) ≤ 20
            · have HTp := Lib.hid (topD_any A3 n3 c3 A3' m3 c3' (-1) S [] wr HI3.out.dev)
              rw [show topD S [] (-1) = topL S from by unfold topD; rw [if_pos (HI3.out.inv.good.chk (by omega)), HI3.out.inv.good.secs]] at HTp
              have htop1 := HI3.out.inv.top_ge HFi.out
              have htop2 := HI3.out.inv.top_le
              have HTL := Lib.hid (show topL S + 1 = topL S + 1 from rfl)
              generalize htl : topL S = tp at HTp htop1 htop2
              go_wp2_with fail
              with_reducible refine HTp.out.mono ?_
              rintro r w4 ⟨rfl, b4⟩
              have HI4 := Lib.hid (HI3.out.call b4)
              have hb4 : b < w4.heap.size := Nat.lt_of_lt_of_le hb b4.size
              have u0 := (b4.cell (p := ⟨b, off + i * 3, none⟩) hb).trans t0
              have u1 := (b4.cell (p := ⟨b, off + i * 3 + 1, none⟩) hb).trans t1
              have u2 := (b4.cell (p := ⟨b, off + i * 3 + 2, none⟩) hb).trans t2
              have HCu4 := Lib.hid (HCu.out.below b4)
              clear b4 t0 t1 t2 d0 d1 d2 f0 f1 f2 hld HCu HTp hb
              go_upto_region 16 with fail
              obtain ⟨S2, W2, f2, p2, st2, e2, hsv, he, hck, hpos, hinv', hok⟩ := HI4.out.inv.try_ HFi.out (by omega) (t := xt) (by omega) (armF ((xf : Int) - 1)) (by unfold armF; omega) (ints xc)
              rw [htl] at hsv hinv' hok
              have HArm : Hid (∀ W, Below w4.heap.size w4 W → Calls Tryz.prog 30 #[DV A3 n3 c3 A3' m3 c3' (-1), .int .i64 ((xf : Int) - 1)] W (RetD W S [] (armF ((xf : Int) - 1)))) := Lib.hid (fun W hb => by
                have := arm_any A3 n3 c3 A3' m3 c3' (-1) S [] ((xf : Int) - 1) W (HI4.out.dev.below hb)
                rwa [if_pos (HI4.out.inv.good.chk (by omega))] at this)
              have HSave : Hid (∀ W A n c A' m c', Dev W A n c A' m c' (armF ((xf : Int) - 1)) S [] → Tab W → Calls Tryz.prog 12 #[DV A n c A' m c' (armF ((xf : Int) - 1)), .int .i64 1, .int .i64 (tp + 1), .int .i64 (tp + 1), .string xt] W (RetS W ⟨S2, W2, f2, p2, st2, e2⟩)) := Lib.hid (fun W A n c A' m c' hD hT => by
                have := save_any A n c A' m c' (armF ((xf : Int) - 1)) S [] 1 (tp + 1) (tp + 1) xt W hD hT
                rwa [hsv] at this)
              unfold RetS at HSave
              dsimp only at HSave
              unfold RetD at HArm
              have HE2 := Lib.hid he
              have HCk := Lib.hid hck
              have HIn := Lib.hid hinv'
              have HPos := Lib.hid hpos
              have HOk := Lib.hid hok
              clear hsv he hck hpos hinv' hok htl HTL
              generalize armF ((xf : Int) - 1) = af at *
              go_cut [10, 12] (fun s10 s12 wx => ∃ xb A6 n6 c6 A6' m6 c6', s10 = .pointer (some ⟨xb, 0, none⟩) ∧ s12 = .int .i64 e2 ∧ Hid (NewD w4 wx xb A6 n6 c6 A6' m6 c6' f2 S2 W2))
              case first =>
                obtain ⟨x0, x1, x2, -, -, -⟩ := HI4.out.st.box
                have hl1 := HI4.out.st.lt
                have hw1 : IntKind.i64.wrap (xf : Int) = xf := IntWalk.i64_in _ (by omega)
                have hw2 : IntKind.i64.wrap ((xf : Int) - 1) = (xf : Int) - 1 := IntWalk.i64_in _ (by omega)
                have ne1 : ¬ w4.heap.size = db := by omega
                have ne2 : ¬ w4.heap.size = b := by omega
                go_region_held3 (fun W => W.cell? ⟨db, 0, none⟩ = some (.slice A3 n3 c3) ∧ W.cell? ⟨db, 1, none⟩ = some (.slice A3' m3 c3') ∧ W.cell? ⟨db, 2, none⟩ = some (.int .i64 (-1)) ∧ W.cell? ⟨b, off + i * 3, none⟩ = some (.string xt) ∧ W.cell? ⟨b, off + i * 3 + 1, none⟩ = some (.int .u8 xf)) (go_keep)
                  (first
                    | (go_at_call 30; ((with_reducible refine (HArm.out _ (by repeat (first | exact Below.refl _ _ | refine Below.push ?_ _ | refine Below.drew ?_))).mono ?_)); rintro r w5 ⟨A5, n5, c5, A5', m5, c5', rfl, hD5, hb5⟩; obtain ⟨hc, hf⟩ := bcell hb5; have hlt5 := blt hb5; have hbw : Below w4.heap.size w4 w5 := (Below.call (by repeat (first | exact Below.refl _ _ | refine Below.push ?_ _ | refine Below.drew ?_)) hb5); have q0 : w5.cell? ⟨db, 0, none⟩ = some (.slice A3 n3 c3) := (by rw [hbw.cell (p := ⟨db, 0, none⟩) hl1]; exact x0); have q1 : w5.cell? ⟨db, 1, none⟩ = some (.slice A3' m3 c3') := (by rw [hbw.cell (p := ⟨db, 1, none⟩) hl1]; exact x1); have q2 : w5.cell? ⟨db, 2, none⟩ = some (.int .i64 (-1)) := (by rw [hbw.cell (p := ⟨db, 2, none⟩) hl1]; exact x2); have q3 : w5.cell? ⟨b, off + i * 3, none⟩ = some (.string xt) := (by rw [hbw.cell (p := ⟨b, off + i * 3, none⟩) hb4]; exact u0); have q4 : w5.cell? ⟨b, off + i * 3 + 1, none⟩ = some (.int .u8 xf) := (by rw [hbw.cell (p := ⟨b, off + i * 3 + 1, none⟩) hb4]; exact u1); have ne4 : ¬ w5.heap.size = db := (by have := hbw.size; omega); have ne5 : ¬ w5.heap.size = b := (by have := hbw.size; omega); have HD5 := Lib.hid hD5; clear hD5)
                    | (go_at_call 12; ((with_reducible refine (HSave.out _ _ _ _ _ _ _ (by first | exact HD5.out | exact HD5.out.new _) (Shf.tab_call HT.out (HI4.out.bel.call (by first | exact hbw | exact hbw.push _)))).mono ?_)); rintro r w6 ⟨A6, n6, c6, A6', m6, c6', rfl, hD6, hb6⟩; obtain ⟨hc6, hf6⟩ := bcell hb6; have hlt6 := blt hb6; have hbw6 : Below w4.heap.size w4 w6 := (Below.call (by first | exact hbw | exact hbw.push _) hb6); have z0 : w6.cell? ⟨db, 0, none⟩ = some (.slice A3 n3 c3) := (by rw [hbw6.cell (p := ⟨db, 0, none⟩) hl1]; exact x0); have z1 : w6.cell? ⟨db, 1, none⟩ = some (.slice A3' m3 c3') := (by rw [hbw6.cell (p := ⟨db, 1, none⟩) hl1]; exact x1); have z2 : w6.cell? ⟨db, 2, none⟩ = some (.int .i64 (-1)) := (by rw [hbw6.cell (p := ⟨db, 2, none⟩) hl1]; exact x2); have z3 : w6.cell? ⟨b, off + i * 3, none⟩ = some (.string xt) := (by rw [hbw6.cell (p := ⟨b, off + i * 3, none⟩) hb4]; exact u0); have z4 : w6.cell? ⟨b, off + i * 3 + 1, none⟩ = some (.int .u8 xf) := (by rw [hbw6.cell (p := ⟨b, off + i * 3 + 1, none⟩) hb4]; exact u1); have ne6 : ¬ w6.heap.size = db := (by have := hbw6.size; omega); have ne7 : ¬ w6.heap.size = b := (by have := hbw6.size; omega); have HD6 := Lib.hid hD6; clear hD6))
                · go_wp2_with fail
                  go_meet
                  exact ⟨_, _, _, _, _, _, _, rfl, rfl, NewD.fresh hbw6 HD6.out 33⟩
                · go_wp2_with fail
                  go_meet
                  exact ⟨_, _, _, _, _, _, _, rfl, rfl, NewD.put hbw6 HD6.out ((St.new w5 none 0 0 none 0 0 0 33).call hb6) hbw.size⟩
                · go_wp2_with fail
                  go_meet
                  exact ⟨_, _, _, _, _, _, _, rfl, rfl, NewD.put hbw6 HD6.out (((St.new w4 none 0 0 none 0 0 0 33).call (undrew hb5)).call hb6) (Nat.le_refl _)⟩
              case rest =>
                obtain ⟨xb, A6, n6, c6, A6', m6, c6', rfl, rfl, HN6⟩ := hcut
                have HI5 := Lib.hid (HI4.out.call HN6.out.bel)
                have hb5 : b < wc.heap.size := Nat.lt_of_lt_of_le hb4 HN6.out.bel.size
                have t0 := (HN6.out.bel.cell (p := ⟨b, off + i * 3, none⟩) hb4).trans u0
                have t2 := (HN6.out.bel.cell (p := ⟨b, off + i * 3 + 2, none⟩) hb4).trans u2
                have HCu5 := Lib.hid (HCu4.out.below HN6.out.bel)
                clear u0 u1 u2 HCu4 HArm HSave hb4
                go_upto_region 17 with fail
                go_cut [91] (fun s91 wx => s91 = .bool false ∧ wc = wx)
                case first =>
                  rcases HE2.out with rfl | rfl
                  · go_wp2_with fail
                    go_meet
                    exact ⟨rfl, rfl⟩
                  · go_wp2_with fail
                    go_meet
                    exact ⟨rfl, rfl⟩
                case rest =>
                  obtain ⟨rfl, rfl⟩ := hcut
                  go_wp2_with fail
                  go_loopw [13, 14] (fun s13 s14 wr => ∃ k : Nat, k ≤ cm ∧ s14 = .int .i64 k ∧ Hid (Below wc.heap.size wc wr ∧ IRow wr wc.heap.size s13 (ints (xc.take k)))) (fun _ s14 _ => cm - (intOf s14).toNat)
                  case atStart => exact ⟨0, Nat.zero_le _, rfl, Lib.hid ⟨Below.refl _ _, by simpa [ints] using IRow.nil wc wc.heap.size⟩⟩
                  case round =>
                    obtain ⟨k, hk, rfl, HK⟩ := hrel
                    obtain ⟨av, capv, rfl, -⟩ := HK.out.2.val
                    have t2' := (HK.out.1.cell (p := ⟨b, off + i * 3 + 2, none⟩) hb5).trans t2
                    have hb6 : b < wr.heap.size := Nat.lt_of_lt_of_le hb5 HK.out.1.size
                    by_cases hkl : k < cm
                    · have hkx : k < xc.length := by have := HCl.out; omega
                      obtain ⟨bc, offc, rfl, hbc, hcc2⟩ := HCu5.out.2 (by omega)
                      have hck2 := hcc2 k (by rw [UV_length]; exact hkx)
                      have hck3 := (HK.out.1.cell (p := ⟨bc, offc + k, none⟩) hbc).trans hck2
                      rw [show (UV xc)[k]'(by rw [UV_length]; exact hkx) = .int .u8 xc[k].toNat from by simp [UV]] at hck3
                      have hbc6 : bc < wr.heap.size := Nat.lt_of_lt_of_le hbc HK.out.1.size
                      have HTk := Lib.hid (show ints (xc.take (k + 1)) = ints (xc.take k) ++ [((xc[k].toNat : Nat) : Int)] from by rw [List.take_succ_eq_append_getElem hkx]; unfold ints; rw [List.map_append]; rfl)
                      have hlen : (ints (xc.take k)).length = k := by simp [ints]; omega
                      have hu8 : xc[k].toNat < 256 := UInt8.toNat_lt _
                      generalize xc[k].toNat = z at *
                      have hxc : (wr.alloc (.cells #[.int .i64 (z : Int)] 3)).cell? ⟨wr.heap.size, 0, none⟩ = some (.int .i64 (z : Int)) := by simp [go_sem]
                      have hrw := HK.out.2.call (new1 wr (.cells #[.int .i64 (z : Int)] 3))
                      obtain ⟨v', w', hap, hI', hgr, -⟩ := hrw.append ⟨wr.heap.size, 0, none⟩ 1 z hxc (by omega) (by have := HK.out.1.size; simp; omega)
                      have HK5 : Hid (Below wc.heap.size wc w' ∧ IRow w' wc.heap.size v' (ints (xc.take (k + 1)))) := Lib.hid ⟨(HK.out.1.push _).grown hgr (by have := HK.out.1.size; simp; omega) (fun g hg => (hrw.lt g hg).1), by rw [HTk.out]; exact hI'⟩
                      have HAP := Lib.hid hap
                      rw [hlen] at HAP ⊢
                      clear hap hI' hgr hxc hrw hck2 hcc2 HTk HK
                      go_wp2_with (at_builtin; refine wpList_append_run rfl (.tmp 102) (.tmp 112) 75 75 rfl _ _ rfl rfl v' w' HAP.out ?_)
                      go_roundw
                      case rel => exact ⟨k + 1, by omega, by go_num, HK5⟩
                      case measure => simp [intOf]; omega
                    · obtain rfl : k = cm := by omega
                      rw [List.take_of_length_le (by have := HCl.out; omega)] at HK ⊢
                      have HI6 := Lib.hid (HI5.out.call HK.out.1)
                      have HX6 := Lib.hid (HN6.out.st.call HK.out.1)
                      have HD6 := Lib.hid (HN6.out.dev.below HK.out.1)
                      have HC6 := Lib.hid HK.out.2
                      have t0' := (HK.out.1.cell (p := ⟨b, off + i * 3, none⟩) hb5).trans t0
                      obtain ⟨va, capM, rfl, -⟩ := HI6.out.row.val
                      have hMl := HI6.out.len
                      have hp0 : (wr.alloc (.cells #[.int .i64 (tp + 1), .string xt] 50)).cell? ((⟨wr.heap.size, 0, none⟩ : Addr).add 0) = some (.int .i64 (tp + 1)) := by simp [go_sem]
                      have hp1 : (wr.alloc (.cells #[.int .i64 (tp + 1), .string xt] 50)).cell? ((⟨wr.heap.size, 0, none⟩ : Addr).add 1) = some (.string xt) := by rw [add_none]; simp [go_sem]
                      have hrw := HI6.out.row.call (new1 wr (.cells #[.int .i64 (tp + 1), .string xt] 50))
                      obtain ⟨v', w', hap, hR', hgr, hst⟩ := hrw.append ⟨wr.heap.size, 0, none⟩ 1 ((tp + 1 : Int), xt) hp0 hp1 (by omega) (by have := HI6.out.bel.size; simp; omega)
                      have hb7 : Below w.heap.size w w' := (HI6.out.bel.push (.cells #[.int .i64 (tp + 1), .string xt] 50)).grown hgr (by have := HI6.out.bel.size; simp; omega) (fun g hg => (hrw.lt g hg).1)
                      obtain ⟨-, hk2, -, hk4⟩ := chk_ok HCk.out
                      have hd7 : Dev w' A6 n6 c6 A6' m6 c6' f2 S2 W2 := Dev.stays (HD6.out.new (.cells #[.int .i64 (tp + 1), .string xt] 50)) hst hgr.size ((secOk_iff _).1 hk2) (fun x hx => ⟨((wrOk_iff _ _).1 (List.all_eq_true.1 hk4 x hx)).2.2, HPos.out x hx⟩)
                      have HX7 := Lib.hid (St.row (HX6.out.alloc (.cells #[.int .i64 (tp + 1), .string xt] 50)) hrw hgr)
                      have HY7 := Lib.hid (St.row (HI6.out.st.alloc (.cells #[.int .i64 (tp + 1), .string xt] 50)) hrw hgr)
                      have HC7 := Lib.hid (IRow.row (HC6.out.call (new1 wr (.cells #[.int .i64 (tp + 1), .string xt] 50))) hrw hgr)
                      have HB7 := Lib.hid hb7
                      have HD7 := Lib.hid hd7
                      have HR7 := Lib.hid hR'
                      have HAP := Lib.hid hap
                      obtain ⟨z0, z1, z2, -, -, -⟩ := HX7.out.box
                      have hlz := HX7.out.lt
                      obtain ⟨d0, d1, d2, f0, f1, f2_⟩ := HY7.out.box
                      have hld := HY7.out.lt
                      clear hap hR' hgr hst hb7 hd7 hrw hp0 hp1 hk2 hk4 HI5 HN6 HK HX6 HD6 HC6
                      have HCr : Hid (Calls Tryz.prog 31 #[DV A6 n6 c6 A6' m6 c6' f2, .slice av (ints xc).length capv] w' (RetD w' (goAll S2 W2 (cutAt (ints xc))) [] (-1))) := Lib.hid (by
                        obtain ⟨a1, cap1, e1, hrv⟩ := HC7.out.val
                        injection e1 with e1 e2 e3
                        subst e1
                        exact crash_yes A6 n6 c6 A6' m6 c6' f2 S2 W2 _ (ints xc).length capv (ints xc) w' HD7.out hrv HCk.out)
                      unfold RetD at HCr
                      go_wp2_with (at_builtin; refine wpList_append_run rfl (.tmp 114) (.tmp 122) 70 70 rfl _ _ rfl rfl v' w' HAP.out ?_)
                      with_reducible refine HCr.out.mono ?_
                      rintro r w8 ⟨A8, n8, c8, A8', m8, c8', rfl, hd8, b8⟩
                      have HY8 := Lib.hid (HY7.out.call b8)
                      have HR8 := Lib.hid (HR7.out.call b8)
                      have HB8 := Lib.hid (HB7.out.call b8)
                      obtain ⟨d0, d1, d2, f0, f1, f2_⟩ := HY8.out.box
                      have hld := HY8.out.lt
                      have hd9 := hd8.only HY8.out.ns (grown_set3 w8 db (.slice A8 n8 c8) (.slice A8' m8 c8') (.int .i64 (-1)))
                      have hi9 : CrI w (((w8.setCell ⟨db, 0, none⟩ (.slice A8 n8 c8)).setCell ⟨db, 1, none⟩ (.slice A8' m8 c8')).setCell ⟨db, 2, none⟩ (.int .i64 (-1))) db A8 n8 c8 A8' m8 c8' v' S1 (goAll S2 W2 (cutAt (ints xc))) (M ++ [((tp + 1 : Int), xt)]) (i + 1) :=
                        ⟨HB8.out.set3 HWD.out _ _ _, HY8.out.set3 _ _ _ _ _ _ _, hd9, HR8.out.other (grown_set3 w8 db (.slice A8 n8 c8) (.slice A8' m8 c8') (.int .i64 (-1))) (HR8.out.ne HY8.out.ns), by rw [show 4 + 4 * (i + 1) = 4 + 4 * i + 4 by omega]; exact HIn.out, by simp [hMl]⟩
                      have HI9 := Lib.hid hi9
                      clear b8 hd8 hd9 hi9 HCr HX7 HC7 HD7 HY7 HR7 HB7 HAP z0 z1 z2 hlz
                      go_wp2_with fail
                      generalize (((w8.setCell ⟨db, 0, none⟩ (.slice A8 n8 c8)).setCell ⟨db, 1, none⟩ (.slice A8' m8 c8')).setCell ⟨db, 2, none⟩ (.int .i64 (-1))) = W9 at *
                      obtain ⟨vb, capV, rfl, hrv⟩ := HI9.out.row.val
                      refine (left_any HI9.out.inv HFi.out (by omega) rfl HOk.out A8 n8 c8 A8' m8 c8' vb _ capV W9 HI9.out.dev (Shf.tab_call HT.out HI9.out.bel) hrv (by have := HI9.out.len; omega)).mono ?_
                      rintro r w10 ⟨rfl, b10⟩
                      have HI10 := Lib.hid (HI9.out.call b10)
                      rw [HI9.out.len] at HI10
                      clear b10 hrv
                      go_wp2_with fail
                      go_roundw
                      case rel => exact ⟨i + 1, by omega, by go_num, Lib.hid ⟨_, _, _, _, _, _, _, _, HI10.out⟩⟩
                      case measure => simp [intOf]; omega
            · have h4' : (20 : Int) < cm := by omega
              have h3' : ¬ (140 : Int) < xt.size := by omega
              go_wp2_with (go_at_call 6; with_reducible refine (HAw.out _ HI3.out.bel).mono ?_; rintro r w4 ⟨rfl, b4⟩; have HB4 := Lib.hid b4; clear b4)
              go_ret
              exact ⟨rfl, HI3.out.bel.call HB4.out⟩
          · have h3' : (140 : Int) < xt.size := by omega
            go_wp2_with (go_at_call 6; with_reducible refine (HAw.out _ HI3.out.bel).mono ?_; rintro r w4 ⟨rfl, b4⟩; have HB4 := Lib.hid b4; clear b4)
            go_ret
            exact ⟨rfl, HI3.out.bel.call HB4.out⟩
        · obtain rfl : i = N := by omega
          go_wp2_with (go_at_call 6; with_reducible refine (HAw.out _ HI3.out.bel).mono ?_; rintro r w4 ⟨rfl, b4⟩; have HB4 := Lib.hid b4; clear b4)
          go_ret
          exact ⟨rfl, HI3.out.bel.call HB4.out⟩
    · have h2' : (6 : Int) < N := by omega
      go_enter Tryz.func5, Tryz.ntmps5
      go_wp2_with (go_at_call 6; with_reducible refine (HAw.out _ (Below.refl _ _)).mono ?_; rintro r w1 ⟨rfl, b1⟩; have HB1 := Lib.hid b1; clear b1)
      go_ret
      exact ⟨rfl, HB1.out⟩
  · have h1' : (140 : Int) < first.size := by omega
    go_enter Tryz.func5, Tryz.ntmps5
    go_wp2_with (go_at_call 6; with_reducible refine (HAw.out _ (Below.refl _ _)).mono ?_; rintro r w1 ⟨rfl, b1⟩; have HB1 := Lib.hid b1; clear b1)
    go_ret
    exact ⟨rfl, HB1.out⟩

end Go.Proofs.YtpeckeiaonjaaaaGreatDoor.Slt
