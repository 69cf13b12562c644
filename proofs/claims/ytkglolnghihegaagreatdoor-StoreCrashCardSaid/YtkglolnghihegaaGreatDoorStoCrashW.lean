/- The walk of StoreCrash, over what Open, Save and Log of the store answer. -/
import Derived.Test.YtkglolnghihegaaGreatDoorStoOpen
import Derived.Test.YtkglolnghihegaaGreatDoorStoStep
import Derived.Test.YtkglolnghihegaaGreatDoorStoAw
import Derived.Test.YtkglolnghihegaaGreatDoorDskS
import Derived.Test.YtkglolnghihegaaGreatDoorDiskNew
import Derived.Deep.RegionHeld3
import Derived.Deep.DeepCutAuto
namespace Go.Proofs.YtkglolnghihegaaGreatDoor.Sto
open Go.RowKit Go.Proofs.YtkglolnghihegaaGreatDoor.Dsk Go.Proofs.YtkglolnghihegaaGreatDoor.Slt
open Go.Proofs.YtkglolnghihegaaGreatDoor.Crc (Tab)

/-- What holds ahead of each step. -/
def SCI (w wr : World) (b i : Nat) : Prop :=
  Below w.heap.size w wr ∧ ∃ A n c A' m c' x hA hn hc mA mn mc S H M, Wd wr b A n c A' m c' (-1) x hA hn hc mA mn mc false S [] H M ∧ WI i S x H M
theorem SCI.next {w wr w' : World} {b i : Nat} {x : Nm} {S : List ByteArray} {H M : List ByteArray} (h : Below w.heap.size w wr) (hb : w.heap.size ≤ b) (hP : WdP wr w' b x S [] H M) (hI : WI i S x H M) : SCI w w' b i := by
  obtain ⟨A, n, c, A', m, c', hA, hn, hc, mA, mn, mc, hW, hg⟩ := hP
  exact ⟨below_grown h hg hb, A, n, c, A', m, c', x, hA, hn, hc, mA, mn, mc, S, H, M, hW, hI⟩

/-- Behind a region that makes a state: the variable that holds it. -/
structure NewX (w wx : World) (b : Nat) (A : Option Addr) (n c : Nat) (A' : Option Addr) (m c' : Nat) (f : Int) (x : Nm) (S : List ByteArray) (V : List Wr) : Prop where
  sx : Sx wx b A n c A' m c' f x
  dev : Dev wx A n c A' m c' f S V
  bel : Below w.heap.size w wx
section
variable {w wx : World} {b : Nat} {A : Option Addr} {n c : Nat} {A' : Option Addr} {m c' : Nat} {f : Int} {x : Nm} {S : List ByteArray} {V : List Wr}
theorem NewX.fresh (hb : Below w.heap.size w wx) (hD : Dev wx A n c A' m c' f S V) : NewX w (wx.alloc (.cells #[.slice A n c, .slice A' m c', .int .i64 f, .int .i64 x.slot, .int .i64 x.gen, .int .i64 x.stamp, .int .i64 x.at_, .int .i64 x.no, .bool x.live] 31)) wx.heap.size A n c A' m c' f x S V :=
  ⟨Sx.new _ _ _ _ _ _ _ _ _, hD.new _, hb.push _⟩
theorem NewX.put (hb : Below w.heap.size w wx) (hD : Dev wx A n c A' m c' f S V) (hs : Sx wx b none 0 0 none 0 0 0 zx) (hw : w.heap.size ≤ b) {w' : World} (e : w' = (((((((((wx.setCell ⟨b, 0, none⟩ (.slice A n c)).setCell ⟨b, 1, none⟩ (.slice A' m c')).setCell ⟨b, 2, none⟩ (.int .i64 f)).setCell ⟨b, 3, none⟩ (.int .i64 x.slot)).setCell ⟨b, 4, none⟩ (.int .i64 x.gen)).setCell ⟨b, 5, none⟩ (.int .i64 x.stamp)).setCell ⟨b, 6, none⟩ (.int .i64 x.at_)).setCell ⟨b, 7, none⟩ (.int .i64 x.no)).setCell ⟨b, 8, none⟩ (.bool x.live))) : NewX w w' b A n c A' m c' f x S V := by
  obtain ⟨h1, h2⟩ := hs.put A n c A' m c' f x e
  exact ⟨h1, hD.only hs.ns h2, below_grown hb h2 hw⟩
end

/-- A list of texts, appended onto none. -/
theorem out_all {w : World} {A : Option Addr} {m c : Nat} {L : List ByteArray} (h : RV w A m 1 (SV L)) (hm : (m : Int) ≤ 2000) :
    ∃ ad d w', (Builtin.append_ #[22, 22] 22 #[.slice none 0 0, .slice A m c]).run Tryz.prog w = .ok (.slice ad m d) w' ∧ OutR w w' L (.slice ad m d) := by
  obtain ⟨v', w', hap, hown', hgr, -⟩ := append_rv (P := Tryz.prog) (w := w) (base := w.heap.size) (ty := 22) Tryz.underlying22 info9 rfl (by omega) (World.ownsRow_nil _ _ _ _) c h (SV_one _) (by omega) (by omega) (Nat.le_refl _)
  rw [Nat.zero_add, List.nil_append] at hown'
  obtain ⟨ad, d, rfl⟩ := own_val hown'
  refine ⟨ad, d, w', hap, ⟨hgr.os, hgr.tape, hgr.output, hgr.size, fun k hk => hgr.block k hk (by simp [Value.ownBlock])⟩, ?_⟩
  rw [h.sec]
  exact hown'

set_option maxRecDepth 100000 in
set_option maxHeartbeats 8000000 in
theorem walk_store (HO : OpenC) (HS : SaveC) (HL : LogC) (HAwk : ∀ W, Tab W → Calls Tryz.prog 7 #[] W fun r w' => r = .returned (.bool true) ∧ Below W.heap.size W w') (A : Option Addr) (N cl : Nat) (L : List Sp) (w : World) (hT : Tab w) (hL : SpV w A N L) :
    Calls Tryz.prog 5 #[.slice A N cl] w fun r w' => r = .returned (.bool true) ∧ Below w.heap.size w w' := by
  have HAw := Lib.hid (fun W (hb : Below w.heap.size w W) => HAwk W (Shf.tab_call hT hb))
  have HO' := Lib.hid HO
  have HS' := Lib.hid HS
  have HL' := Lib.hid HL
  have HT := Lib.hid hT
  have HLv := Lib.hid hL
  have HLl := Lib.hid hL.1
  clear hT hL HO HS HL HAwk
  by_cases h1 : (N : Int) ≤ 24
  · have HN := Lib.hid (fun W => new_yes 24 W (by omega) (by omega))
    rw [show ((24 : Nat) : Int) = 24 from rfl] at HN
    unfold RetDE at HN
    go_enter Tryz.func5, Tryz.ntmps5
    go_wp2_with fail
    with_reducible refine (HN.out _).mono ?_
    rintro r w1 ⟨A1, n1, c1, A1', m1, c1', rfl, hd1, b1⟩
    have HB1 := Lib.hid (((Below.refl w.heap.size w).call b1).push (D33 A1 n1 c1 A1' m1 c1' (-1)))
    have HX1 := Lib.hid (St.new w1 A1 n1 c1 A1' m1 c1' (-1) 29)
    have HD1 := Lib.hid (hd1.new (D33 A1 n1 c1 A1' m1 c1' (-1)))
    have hs1 : w.heap.size ≤ w1.heap.size := b1.size
    clear b1 hd1 HN
    go_upto_region 6 with fail
    generalize w1.alloc (D33 A1 n1 c1 A1' m1 c1' (-1)) = w2 at *
    generalize w1.heap.size = db at *
    obtain ⟨d0, d1, d2, -, -, -⟩ := HX1.out.box
    have hld := HX1.out.lt
    have H0 : Hid (SCI w (w2.alloc (.cells (wl A1 n1 c1 A1' m1 c1' (-1) zx none 0 0 none 0 0 false).toArray 58)) w2.heap.size 0) := Lib.hid
      ⟨HB1.out.push _, _, _, _, _, _, _, _, _, _, _, _, _, _, _, [], [], ⟨by have := Blk.new w2 58 (wl A1 n1 c1 A1' m1 c1' (-1) zx none 0 0 none 0 0 false).toArray; simpa using this, HD1.out.new _, RV.nil _ _ _, RV.nil _ _ _⟩, wi_new zx rfl⟩
    have hwb : w.heap.size ≤ w2.heap.size := HB1.out.size
    dsimp only [List.toArray] at H0
    go_upto_region 7 with fail
    generalize HWL : w2.alloc (.cells _ 58) = w3 at *
    clear HWL d0 d1 d2 hld HX1 HD1 HB1
    generalize w2.heap.size = b at *
    go_wp2_with fail
    go_loopw [6] (fun s6 wr => ∃ i : Nat, (i : Int) ≤ N ∧ s6 = .int .i64 i ∧ Hid (SCI w wr b i)) (fun s6 _ => N - (intOf s6).toNat)
    case atStart => exact ⟨0, by omega, rfl, H0⟩
    case round =>
      obtain ⟨i, hi, rfl, HI⟩ := hrel
      obtain ⟨hbel, A3, n3, c3, A3', m3, c3', x, hA, hn, hc, mA, mn, mc, S, H, M, hW, hWI⟩ := HI.out
      have HB := Lib.hid hbel
      have HW := Lib.hid hW
      have HWI := Lib.hid hWI
      clear HI H0 hbel hW hWI
      by_cases hlt : (i : Int) < N
      · have hil : i < L.length := by have := HLl.out; omega
        obtain ⟨rb, off, rfl, hrb, hall⟩ := HLv.out.2 (by omega)
        obtain ⟨t0, t1, t2, t3, ca, cm, cc, t4, hcu, hcc⟩ := hall i hil
        have HO0 := Lib.hid t0
        have HO1 := Lib.hid t1
        have HO2 := Lib.hid t2
        have HO4 := Lib.hid t4
        have HOc := Lib.hid hcu
        have HCu := Lib.hid (hcu.below HB.out)
        have hrw := Nat.lt_of_lt_of_le hrb HB.out.size
        replace t0 := (HB.out.cell (p := ⟨rb, off + i * 4, none⟩) hrb).trans t0
        replace t1 := (HB.out.cell (p := ⟨rb, off + i * 4 + 1, none⟩) hrb).trans t1
        replace t2 := (HB.out.cell (p := ⟨rb, off + i * 4 + 2, none⟩) hrb).trans t2
        replace t4 := (HB.out.cell (p := ⟨rb, off + i * 4 + 3, none⟩) hrb).trans t4
        clear hall hcu hcc
        generalize L[i] = sp at *
        obtain ⟨sv, xt, xf, xc⟩ := sp
        dsimp only at t0 t1 t2 t3 HCu HO0 HO1 HO2 HOc
        by_cases h5 : (xt.size : Int) ≤ 60
        · by_cases h6 : (cm : Int) ≤ 30
          · have hrne : ¬ b = rb := by omega
            have HRb := Lib.hid hrb
            obtain ⟨d0, d1, d2, d3, d4, d5, d6, d7, d8, d9, d10, d11⟩ := HW.out.cells
            obtain ⟨f0, f1, f2_, f3, f4, f5, f6, f7, f8, f9, f10, f11⟩ := HW.out.live
            have hlw := HW.out.lt
            by_cases hx : x.live = true
            · cases sv with
              | true =>
                rw [hx] at d8
                have HSlo := Lib.hid (HWI.out.slot hx)
                obtain ⟨hMH, hOk, S2, W2, f2, x2, e2, hsv, hck2, hf2, hcs⟩ := HWI.out.save_ (by omega) hx (armF ((xf : Int) - 1)) (by unfold armF; omega) (ints xc)
                have HSv := Lib.hid hsv
                have HOk := Lib.hid hOk
                have HCk2 := Lib.hid hck2
                have HCs := Lib.hid hcs
                have HMH := Lib.hid hMH
                clear hMH hOk hsv hck2 hf2 hcs
                have HArm : Hid (∀ W, Below wr.heap.size wr W → Calls Tryz.prog 24 #[DV A3 n3 c3 A3' m3 c3' (-1), .int .i64 ((xf : Int) - 1)] W (RetD W S [] (armF ((xf : Int) - 1)))) := Lib.hid (fun W hb => by
                  have := arm_any A3 n3 c3 A3' m3 c3' (-1) S [] ((xf : Int) - 1) W (HW.out.dev.below hb)
                  rwa [if_pos (HWI.out.good.chk (by omega))] at this)
                unfold RetD at HArm
                have hw1 : IntKind.i64.wrap (xf : Int) = xf := IntWalk.i64_in _ (by omega)
                have hw2 : IntKind.i64.wrap ((xf : Int) - 1) = (xf : Int) - 1 := IntWalk.i64_in _ (by omega)
                have HAf : Hid (-1 ≤ armF ((xf : Int) - 1)) := Lib.hid (by unfold armF; omega)
                generalize armF ((xf : Int) - 1) = af at *
                go_upto_region 15 with fail
                clear hx
                go_cut [] (fun wx => Hid (∃ A4 n4 c4 A4' m4 c4', Wd wx b A4 n4 c4 A4' m4 c4' af x hA hn hc mA mn mc false S [] H M ∧ wr.grownBy wx (some b)))
                case first =>
                  clear d3 d4 d5 d6 d7 d8 d9 d10 d11 f3 f4 f5 f6 f7 f8 f9 f10 f11 t0 t1 t4
                  first
                    | (go_region_with (go_at_call 24; (with_reducible refine (HArm.out _ (by repeat (first | exact Below.refl _ _ | refine Below.push ?_ _ | refine Below.drew ?_))).mono ?_); rintro r w5 ⟨A4, n4, c4, A4', m4, c4', rfl, hd5, hb5⟩; have hbw5 : Below wr.heap.size wr w5 := (Below.call (by repeat (first | exact Below.refl _ _ | refine Below.push ?_ _ | refine Below.drew ?_)) hb5); have HD5 := Lib.hid hd5; have HB5 := Lib.hid hbw5; clear d0 d1 d2 f0 f1 f2_ hlw t2; obtain ⟨e0, e1, e2_, -, -, -, -, -, -, -, -, -⟩ := (HW.out.call hbw5).cells; obtain ⟨k0, k1, k2, -, -, -, -, -, -, -, -, -⟩ := (HW.out.call hbw5).live; have hlw5 := (HW.out.call hbw5).lt; clear hd5 hb5))
                    | fail
                  all_goals
                    go_wp2_with fail
                    go_meet
                    obtain ⟨hW6, hg6⟩ := (HW.out.call HB5.out).disk HD5.out
                    exact Lib.hid ⟨_, _, _, _, _, _, hW6, grown_trans (grown_below HB5.out _) hg6⟩
                case rest =>
                  obtain ⟨A4, n4, c4, A4', m4, c4', hW4, hg4⟩ := hcut.out
                  have HW4 := Lib.hid hW4
                  have HG4 := Lib.hid hg4
                  have HB4 := Lib.hid (below_grown HB.out hg4 hwb)
                  have hrw4 := Nat.lt_of_lt_of_le HRb.out HB4.out.size
                  have u0 := (HB4.out.cell (p := ⟨rb, off + i * 4, none⟩) HRb.out).trans HO0.out
                  have u1 := (HB4.out.cell (p := ⟨rb, off + i * 4 + 1, none⟩) HRb.out).trans HO1.out
                  have u2 := (HB4.out.cell (p := ⟨rb, off + i * 4 + 2, none⟩) HRb.out).trans HO2.out
                  have u4 := (HB4.out.cell (p := ⟨rb, off + i * 4 + 3, none⟩) HRb.out).trans HO4.out
                  clear hW4 hg4 hcut HArm d0 d1 d2 d3 d4 d5 d6 d7 d8 d9 d10 d11 f0 f1 f2_ f3 f4 f5 f6 f7 f8 f9 f10 f11 hlw
                  go_upto_region 16 with fail
                  have hhn : (hn : Int) ≤ 23 := by have := HW4.out.has.sec; have := HOk.out.len; omega
                  have HPk := Lib.hid (fun W (hb : Below wc.heap.size wc W) => pack_any hA hn hc H W (HW4.out.has.below hb) HOk.out.sz (by omega))
                  have HSa : Hid (∀ W, Below wc.heap.size wc W → Calls Tryz.prog 15 #[TV A4 n4 c4 A4' m4 c4' af x, .string (pk H)] W (RetT W ⟨S2, W2, f2, x2, e2⟩)) := Lib.hid (fun W hb => by
                    have := HS'.out W A4 n4 c4 A4' m4 c4' af S [] x (pk H) (HW4.out.dev.below hb) (Shf.tab_call HT.out (HB4.out.call hb)) (by have := HSlo.out; omega) (by have := HSlo.out; omega)
                    rwa [HSv.out] at this)
                  unfold RetT at HSa
                  dsimp only at HSa
                  generalize pk H = pf at *
                  go_cut [7, 8] (fun s7 s8 wx => ∃ xb A6 n6 c6 A6' m6 c6', s7 = .pointer (some ⟨xb, 0, none⟩) ∧ s8 = .int .i64 e2 ∧ Hid (NewX wc wx xb A6 n6 c6 A6' m6 c6' f2 x2 S2 W2))
                  case first =>
                    obtain ⟨d0, d1, d2, d3, d4, d5, d6, d7, d8, d9, d10, d11⟩ := HW4.out.cells
                    have hlw := HW4.out.lt
                    have ne1 : ¬ wc.heap.size = b := by omega
                    go_region_held3 (fun W => W.cell? ⟨b, 0, none⟩ = some (.slice A4 n4 c4) ∧ W.cell? ⟨b, 1, none⟩ = some (.slice A4' m4 c4') ∧ W.cell? ⟨b, 2, none⟩ = some (.int .i64 af) ∧ W.cell? ⟨b, 3, none⟩ = some (.int .i64 x.slot) ∧ W.cell? ⟨b, 4, none⟩ = some (.int .i64 x.gen) ∧ W.cell? ⟨b, 5, none⟩ = some (.int .i64 x.stamp) ∧ W.cell? ⟨b, 6, none⟩ = some (.int .i64 x.at_) ∧ W.cell? ⟨b, 7, none⟩ = some (.int .i64 x.no) ∧ W.cell? ⟨b, 8, none⟩ = some (.bool x.live) ∧ W.cell? ⟨b, 9, none⟩ = some (.slice hA hn hc)) (go_keep)
                      (first
                        | (go_at_call 25; ((with_reducible refine (HPk.out _ (by repeat (first | exact Below.refl _ _ | refine Below.push ?_ _ | refine Below.drew ?_))).mono ?_)); rintro r w5 ⟨rfl, hb5⟩; have hbw : Below wc.heap.size wc w5 := (Below.call (by repeat (first | exact Below.refl _ _ | refine Below.push ?_ _ | refine Below.drew ?_)) hb5); have qw50 : w5.cell? ⟨b, 0, none⟩ = some (.slice A4 n4 c4) := (hbw.cell (p := ⟨b, 0, none⟩) hlw).trans d0; have qw51 : w5.cell? ⟨b, 1, none⟩ = some (.slice A4' m4 c4') := (hbw.cell (p := ⟨b, 1, none⟩) hlw).trans d1; have qw52 : w5.cell? ⟨b, 2, none⟩ = some (.int .i64 af) := (hbw.cell (p := ⟨b, 2, none⟩) hlw).trans d2; have qw53 : w5.cell? ⟨b, 3, none⟩ = some (.int .i64 x.slot) := (hbw.cell (p := ⟨b, 3, none⟩) hlw).trans d3; have qw54 : w5.cell? ⟨b, 4, none⟩ = some (.int .i64 x.gen) := (hbw.cell (p := ⟨b, 4, none⟩) hlw).trans d4; have qw55 : w5.cell? ⟨b, 5, none⟩ = some (.int .i64 x.stamp) := (hbw.cell (p := ⟨b, 5, none⟩) hlw).trans d5; have qw56 : w5.cell? ⟨b, 6, none⟩ = some (.int .i64 x.at_) := (hbw.cell (p := ⟨b, 6, none⟩) hlw).trans d6; have qw57 : w5.cell? ⟨b, 7, none⟩ = some (.int .i64 x.no) := (hbw.cell (p := ⟨b, 7, none⟩) hlw).trans d7; have qw58 : w5.cell? ⟨b, 8, none⟩ = some (.bool x.live) := (hbw.cell (p := ⟨b, 8, none⟩) hlw).trans d8; have qw59 : w5.cell? ⟨b, 9, none⟩ = some (.slice hA hn hc) := (hbw.cell (p := ⟨b, 9, none⟩) hlw).trans d9; obtain ⟨hc5, hf5⟩ := bcell hb5; have hlt5 := blt hb5; have ne5 : ¬ w5.heap.size = b := (by have := hbw.size; omega))
                        | (go_at_call 15; ((with_reducible refine (HSa.out _ (by first | exact hbw | exact hbw.push _ | exact hbw.drew | exact (hbw.push _).drew)).mono ?_)); rintro r w6 ⟨A6, n6, c6, A6', m6, c6', rfl, hD6, hb6⟩; have hbw6 : Below wc.heap.size wc w6 := (Below.call (by first | exact hbw | exact hbw.push _ | exact hbw.drew | exact (hbw.push _).drew) hb6); have qw60 : w6.cell? ⟨b, 0, none⟩ = some (.slice A4 n4 c4) := (hbw6.cell (p := ⟨b, 0, none⟩) hlw).trans d0; have qw61 : w6.cell? ⟨b, 1, none⟩ = some (.slice A4' m4 c4') := (hbw6.cell (p := ⟨b, 1, none⟩) hlw).trans d1; have qw62 : w6.cell? ⟨b, 2, none⟩ = some (.int .i64 af) := (hbw6.cell (p := ⟨b, 2, none⟩) hlw).trans d2; have qw63 : w6.cell? ⟨b, 3, none⟩ = some (.int .i64 x.slot) := (hbw6.cell (p := ⟨b, 3, none⟩) hlw).trans d3; have qw64 : w6.cell? ⟨b, 4, none⟩ = some (.int .i64 x.gen) := (hbw6.cell (p := ⟨b, 4, none⟩) hlw).trans d4; have qw65 : w6.cell? ⟨b, 5, none⟩ = some (.int .i64 x.stamp) := (hbw6.cell (p := ⟨b, 5, none⟩) hlw).trans d5; have qw66 : w6.cell? ⟨b, 6, none⟩ = some (.int .i64 x.at_) := (hbw6.cell (p := ⟨b, 6, none⟩) hlw).trans d6; have qw67 : w6.cell? ⟨b, 7, none⟩ = some (.int .i64 x.no) := (hbw6.cell (p := ⟨b, 7, none⟩) hlw).trans d7; have qw68 : w6.cell? ⟨b, 8, none⟩ = some (.bool x.live) := (hbw6.cell (p := ⟨b, 8, none⟩) hlw).trans d8; have qw69 : w6.cell? ⟨b, 9, none⟩ = some (.slice hA hn hc) := (hbw6.cell (p := ⟨b, 9, none⟩) hlw).trans d9; obtain ⟨hc6, hf6⟩ := bcell hb6; have hlt6 := blt hb6; have ne6 : ¬ w6.heap.size = b := (by have := hbw6.size; omega); have HD6 := Lib.hid hD6; clear hD6))
                    · go_wp2_with fail
                      go_meet
                      exact ⟨_, _, _, _, _, _, _, rfl, rfl, Lib.hid (NewX.fresh hbw6 HD6.out)⟩
                    · go_wp2_with fail
                      go_meet
                      exact ⟨_, _, _, _, _, _, _, rfl, rfl, Lib.hid (NewX.put hbw6 HD6.out (by first | exact ((Sx.new w5 none 0 0 none 0 0 0 zx).call (Dsk.undrew hb6)) | exact ((Sx.new w5 none 0 0 none 0 0 0 zx).call hb6)) hbw.size rfl)⟩
                    · go_wp2_with fail
                      go_meet
                      exact ⟨_, _, _, _, _, _, _, rfl, rfl, Lib.hid (NewX.put hbw6 HD6.out (by first | exact (((Sx.new wc none 0 0 none 0 0 0 zx).call (Dsk.undrew hb5)).call (Dsk.undrew hb6)) | exact (((Sx.new wc none 0 0 none 0 0 0 zx).call (Dsk.undrew hb5)).call hb6) | exact (((Sx.new wc none 0 0 none 0 0 0 zx).call hb5).call (Dsk.undrew hb6)) | exact (((Sx.new wc none 0 0 none 0 0 0 zx).call hb5).call hb6)) (Nat.le_refl _) rfl)⟩
                  case rest =>
                    clear HPk HSa
                    obtain ⟨xb, A6, n6, c6, A6', m6, c6', rfl, rfl, HN6⟩ := hcut
                    have HW5 := Lib.hid (HW4.out.call HN6.out.bel)
                    have HB5 := Lib.hid (HB4.out.call HN6.out.bel)
                    obtain ⟨d0, d1, d2, d3, d4, d5, d6, d7, d8, d9, d10, d11⟩ := HW5.out.cells
                    obtain ⟨f0, f1, f2_, f3, f4, f5, f6, f7, f8, f9, f10, f11⟩ := HW5.out.live
                    have hlw := HW5.out.lt
                    obtain ⟨e0, e1, e2_, e3, e4, e5, e6, e7, e8⟩ := HN6.out.sx.cells
                    have hlt := HN6.out.sx.lt
                    clear u0 u1 u2 u4 hrw4
                    go_upto_region 18 with fail
                    obtain ⟨hW7, hg7⟩ := HW5.out.state HN6.out.dev x2 rfl
                    have HW7 := Lib.hid hW7
                    have HB7 := Lib.hid (below_grown HB5.out hg7 hwb)
                    clear hW7 hg7 d0 d1 d2 d3 d4 d5 d6 d7 d8 d9 d10 d11 f0 f1 f2_ f3 f4 f5 f6 f7 f8 f9 f10 f11 hlw e0 e1 e2_ e3 e4 e5 e6 e7 e8 hlt HW5 HB5
                    generalize ((((((((wc.setCell ⟨b, 0, none⟩ (.slice A6 n6 c6)).setCell ⟨b, 1, none⟩ (.slice A6' m6 c6')).setCell ⟨b, 2, none⟩ (.int .i64 f2)).setCell ⟨b, 3, none⟩ (.int .i64 x2.slot)).setCell ⟨b, 4, none⟩ (.int .i64 x2.gen)).setCell ⟨b, 5, none⟩ (.int .i64 x2.stamp)).setCell ⟨b, 6, none⟩ (.int .i64 x2.at_)).setCell ⟨b, 7, none⟩ (.int .i64 x2.no)).setCell ⟨b, 8, none⟩ (.bool x2.live) = w7 at *
                    have hrw7 := Nat.lt_of_lt_of_le HRb.out HB7.out.size
                    have u0 := (HB7.out.cell (p := ⟨rb, off + i * 4, none⟩) HRb.out).trans HO0.out
                    have u1 := (HB7.out.cell (p := ⟨rb, off + i * 4 + 1, none⟩) HRb.out).trans HO1.out
                    have u2 := (HB7.out.cell (p := ⟨rb, off + i * 4 + 2, none⟩) HRb.out).trans HO2.out
                    have u4 := (HB7.out.cell (p := ⟨rb, off + i * 4 + 3, none⟩) HRb.out).trans HO4.out
                    have HC7 := Lib.hid (HOc.out.below HB7.out)
                    rcases HCs.out with ⟨rfl, rfl, hWn⟩ | ⟨rfl, hWn⟩
                    · have HAf := Lib.hid (after_ok w7 b A6 n6 c6 A6' m6 c6' f2 x2 hA hn hc mA mn mc S2 [] H M HW7.out HCk2.out true xt xf ca cm cc xc HC7.out (by omega))
                      have HWn := Lib.hid ((by rw [HMH.out]; exact hWn : WI (i + 1) S2 x2 M M))
                      clear hWn
                      go_upto_region 28 with (go_at_call 26; with_reducible refine HAf.out.mono ?_; rintro r w8 ⟨rfl, hP⟩; have HN := Lib.hid (SCI.next HB7.out hwb hP HWn.out); clear hP)
                      obtain ⟨-, A9, n9, c9, A9', m9, c9', x9, hA9, hn9, hc9, mA9, mn9, mc9, S9, H9, M9, hW9, hI9⟩ := HN.out
                      obtain ⟨-, -, -, -, -, -, -, -, -, -, -, e11⟩ := hW9.cells
                      have hle := hW9.lt
                      clear hW9 hI9
                      go_wp2_with fail
                      go_roundw
                      case rel => exact ⟨i + 1, by omega, by go_num, HN⟩
                      case measure => simp [intOf]; omega
                    · have HAf := Lib.hid (after_down w7 b A6 n6 c6 A6' m6 c6' f2 x2 hA hn hc mA mn mc S2 W2 H M HW7.out HCk2.out true xt xf ca cm cc xc HC7.out (by omega))
                      have HWn := Lib.hid ((by rw [HMH.out]; exact hWn zx rfl : WI (i + 1) (goAll S2 W2 (cutAt (ints xc))) zx H M))
                      clear hWn
                      go_upto_region 28 with (go_at_call 26; with_reducible refine HAf.out.mono ?_; rintro r w8 ⟨rfl, hP⟩; have HN := Lib.hid (SCI.next HB7.out hwb hP HWn.out); clear hP)
                      obtain ⟨-, A9, n9, c9, A9', m9, c9', x9, hA9, hn9, hc9, mA9, mn9, mc9, S9, H9, M9, hW9, hI9⟩ := HN.out
                      obtain ⟨-, -, -, -, -, -, -, -, -, -, -, e11⟩ := hW9.cells
                      have hle := hW9.lt
                      clear hW9 hI9
                      go_wp2_with fail
                      go_roundw
                      case rel => exact ⟨i + 1, by omega, by go_num, HN⟩
                      case measure => simp [intOf]; omega
              | false =>
                rw [hx] at d8
                have hHl : H.length ≤ 23 := by have := HWI.out.1.len; omega
                have hhn : H.length = hn := by have := HW.out.has.sec; omega
                subst hhn
                obtain ⟨ad, dd, w4, hap, hO⟩ := out_all HW.out.has (by omega)
                obtain ⟨v5, w5, hap5, hO5⟩ := hO.more (by omega) xt
                obtain ⟨ad5, c5_, rfl, -⟩ := hO5.val
                have hln : (H ++ [xt]).length = H.length + 1 := by rw [List.length_append, List.length_singleton]
                rw [hln] at hap5
                have HR5 := Lib.hid (RV.of_own hO5.own)
                rw [hln] at HR5
                have hFt := fits_any ad5 (H.length + 1) c5_ (H ++ [xt]) w5 HR5.out (fun y hy => by
                  rcases List.mem_append.1 hy with hy | hy
                  · exact HWI.out.1.sz y hy
                  · rw [List.mem_singleton.1 hy]; omega) (by omega)
                have HAP := Lib.hid hap
                have HAP5 := Lib.hid hap5
                have HB5 : Hid (Below wr.heap.size wr w5) := Lib.hid hO5.bel
                have v1 := (hO.bel.cell (p := ⟨rb, off + i * 4 + 1, none⟩) hrw).trans t1
                have hrw3 := Nat.lt_of_lt_of_le hrw hO.bel.size
                clear hap hap5 hO hO5 hln
                by_cases hfit : Shf.cntN (pk (H ++ [xt])).size ≤ 6
                · rw [decide_eq_true hfit] at hFt
                  have HFt := Lib.hid hFt
                  have HSlo := Lib.hid (HWI.out.slot hx)
                  obtain ⟨S2, W2, f2, x2, e2, hsv, hck2, hf2, hcs⟩ := HWI.out.log_ (by omega) hx (t := xt) (by omega) hfit (armF ((xf : Int) - 1)) (by unfold armF; omega) (ints xc)
                  have HSv := Lib.hid hsv
                  have HCk2 := Lib.hid hck2
                  have HCs := Lib.hid hcs
                  clear hsv hck2 hf2 hcs hfit hFt
                  generalize H ++ [xt] = H2 at *
                  go_upto_region 24 with (first | (at_builtin; refine wpList_append_run rfl (.tmp 100) (.tmp 102) 22 22 rfl _ _ rfl rfl (.slice ad H.length dd) w4 HAP.out ?_) | (at_builtin; refine wpList_append_run rfl (.tmp 104) (.tmp 110) 22 22 rfl _ _ rfl rfl (.slice ad5 (H.length + 1) c5_) w5 HAP5.out ?_) | (go_at_call 27; with_reducible refine HFt.out.mono ?_; rintro r w6 ⟨rfl, b6⟩; have HB6r := Lib.hid b6; have HB6 := Lib.hid (HB5.out.call b6); clear b6))
                  have HW6 := Lib.hid (HW.out.call HB6.out)
                  have HBc := Lib.hid (HB.out.call HB6.out)
                  have HR6 := Lib.hid (HR5.out.below HB6r.out)
                  clear d0 d1 d2 d3 d4 d5 d6 d7 d8 d9 d10 d11 f0 f1 f2_ f3 f4 f5 f6 f7 f8 f9 f10 f11 hlw v1 hrw3 HAP HAP5
                  have hrw6 := Nat.lt_of_lt_of_le hrw HB6.out.size
                  replace t0 := (HB6.out.cell (p := ⟨rb, off + i * 4, none⟩) hrw).trans t0
                  replace t1 := (HB6.out.cell (p := ⟨rb, off + i * 4 + 1, none⟩) hrw).trans t1
                  replace t2 := (HB6.out.cell (p := ⟨rb, off + i * 4 + 2, none⟩) hrw).trans t2
                  replace t4 := (HB6.out.cell (p := ⟨rb, off + i * 4 + 3, none⟩) hrw).trans t4
                  obtain ⟨d0, d1, d2, d3, d4, d5, d6, d7, d8, d9, d10, d11⟩ := HW6.out.cells
                  obtain ⟨f0, f1, f2_, f3, f4, f5, f6, f7, f8, f9, f10, f11⟩ := HW6.out.live
                  have hlw := HW6.out.lt
                  clear hx
                  have HArm : Hid (∀ W, Below w6.heap.size w6 W → Calls Tryz.prog 24 #[DV A3 n3 c3 A3' m3 c3' (-1), .int .i64 ((xf : Int) - 1)] W (RetD W S [] (armF ((xf : Int) - 1)))) := Lib.hid (fun W hb => by
                    have := arm_any A3 n3 c3 A3' m3 c3' (-1) S [] ((xf : Int) - 1) W (HW6.out.dev.below hb)
                    rwa [if_pos (HWI.out.good.chk (by omega))] at this)
                  unfold RetD at HArm
                  have hw1 : IntKind.i64.wrap (xf : Int) = xf := IntWalk.i64_in _ (by omega)
                  have hw2 : IntKind.i64.wrap ((xf : Int) - 1) = (xf : Int) - 1 := IntWalk.i64_in _ (by omega)
                  have HAf : Hid (-1 ≤ armF ((xf : Int) - 1)) := Lib.hid (by unfold armF; omega)
                  generalize armF ((xf : Int) - 1) = af at *
                  go_cut [] (fun wx => Hid (∃ A4 n4 c4 A4' m4 c4', Wd wx b A4 n4 c4 A4' m4 c4' af x hA H.length hc mA mn mc false S [] H M ∧ w6.grownBy wx (some b)))
                  case first =>
                    clear d3 d4 d5 d6 d7 d8 d9 d10 d11 f3 f4 f5 f6 f7 f8 f9 f10 f11 t0 t1 t4
                    first
                      | (go_region_with (go_at_call 24; (with_reducible refine (HArm.out _ (by repeat (first | exact Below.refl _ _ | refine Below.push ?_ _ | refine Below.drew ?_))).mono ?_); rintro r w5 ⟨A4, n4, c4, A4', m4, c4', rfl, hd5, hb5⟩; have hbw5 : Below w6.heap.size w6 w5 := (Below.call (by repeat (first | exact Below.refl _ _ | refine Below.push ?_ _ | refine Below.drew ?_)) hb5); have HD5 := Lib.hid hd5; have HB5 := Lib.hid hbw5; clear d0 d1 d2 f0 f1 f2_ hlw t2; obtain ⟨e0, e1, e2_, -, -, -, -, -, -, -, -, -⟩ := (HW6.out.call hbw5).cells; obtain ⟨k0, k1, k2, -, -, -, -, -, -, -, -, -⟩ := (HW6.out.call hbw5).live; have hlw5 := (HW6.out.call hbw5).lt; clear hd5 hb5))
                      | fail
                    all_goals
                      go_wp2_with fail
                      go_meet
                      obtain ⟨hW6, hg6⟩ := (HW6.out.call HB5.out).disk HD5.out
                      exact Lib.hid ⟨_, _, _, _, _, _, hW6, grown_trans (grown_below HB5.out _) hg6⟩
                  case rest =>
                    obtain ⟨A4, n4, c4, A4', m4, c4', hW4, hg4⟩ := hcut.out
                    have HW4 := Lib.hid hW4
                    have HG4 := Lib.hid hg4
                    have HB4 := Lib.hid (below_grown HBc.out hg4 hwb)
                    have hrw4 := Nat.lt_of_lt_of_le HRb.out HB4.out.size
                    have u0 := (HB4.out.cell (p := ⟨rb, off + i * 4, none⟩) HRb.out).trans HO0.out
                    have u1 := (HB4.out.cell (p := ⟨rb, off + i * 4 + 1, none⟩) HRb.out).trans HO1.out
                    have u2 := (HB4.out.cell (p := ⟨rb, off + i * 4 + 2, none⟩) HRb.out).trans HO2.out
                    have u4 := (HB4.out.cell (p := ⟨rb, off + i * 4 + 3, none⟩) HRb.out).trans HO4.out
                    clear hW4 hg4 hcut HArm d0 d1 d2 d3 d4 d5 d6 d7 d8 d9 d10 d11 f0 f1 f2_ f3 f4 f5 f6 f7 f8 f9 f10 f11 hlw
                    have HRc := Lib.hid (HR6.out.secOnly HW6.out.ns HG4.out)
                    go_upto_region 25 with fail
                    have HLg : Hid (∀ W, Below wc.heap.size wc W → Calls Tryz.prog 17 #[TV A4 n4 c4 A4' m4 c4' af x, .string xt] W (RetT W ⟨S2, W2, f2, x2, e2⟩)) := Lib.hid (fun W hb => by
                      have := HL'.out W A4 n4 c4 A4' m4 c4' af S [] x xt (HW4.out.dev.below hb) (Shf.tab_call HT.out (HB4.out.call hb))
                      rwa [HSv.out] at this)
                    unfold RetT at HLg
                    dsimp only at HLg
                    go_cut [10, 11] (fun s10 s11 wx => ∃ xb A6 n6 c6 A6' m6 c6', s10 = .pointer (some ⟨xb, 0, none⟩) ∧ s11 = .int .i64 e2 ∧ Hid (NewX wc wx xb A6 n6 c6 A6' m6 c6' f2 x2 S2 W2))
                    case first =>
                      obtain ⟨d0, d1, d2, d3, d4, d5, d6, d7, d8, d9, d10, d11⟩ := HW4.out.cells
                      have hlw := HW4.out.lt
                      have ne1 : ¬ wc.heap.size = b := by omega
                      have ne2 : ¬ wc.heap.size = rb := by omega
                      go_region_held3 (fun W => W.cell? ⟨b, 0, none⟩ = some (.slice A4 n4 c4) ∧ W.cell? ⟨b, 1, none⟩ = some (.slice A4' m4 c4') ∧ W.cell? ⟨b, 2, none⟩ = some (.int .i64 af) ∧ W.cell? ⟨b, 3, none⟩ = some (.int .i64 x.slot) ∧ W.cell? ⟨b, 4, none⟩ = some (.int .i64 x.gen) ∧ W.cell? ⟨b, 5, none⟩ = some (.int .i64 x.stamp) ∧ W.cell? ⟨b, 6, none⟩ = some (.int .i64 x.at_) ∧ W.cell? ⟨b, 7, none⟩ = some (.int .i64 x.no) ∧ W.cell? ⟨b, 8, none⟩ = some (.bool x.live) ∧ W.cell? ⟨rb, off + i * 4 + 1, none⟩ = some (.string xt)) (go_keep)
                        (first
                          | (go_at_call 17; ((with_reducible refine (HLg.out _ (by repeat (first | exact Below.refl _ _ | refine Below.push ?_ _ | refine Below.drew ?_))).mono ?_); rintro r w6_ ⟨A6, n6, c6, A6', m6, c6', rfl, hD6, hb6⟩; obtain ⟨hc6, hf6⟩ := bcell hb6; have hlt6 := blt hb6; have hbw6 : Below wc.heap.size wc w6_ := (Below.call (by repeat (first | exact Below.refl _ _ | refine Below.push ?_ _ | refine Below.drew ?_)) hb6); have qw6_0 : w6_.cell? ⟨b, 0, none⟩ = some (.slice A4 n4 c4) := (hbw6.cell (p := ⟨b, 0, none⟩) hlw).trans d0; have qw6_1 : w6_.cell? ⟨b, 1, none⟩ = some (.slice A4' m4 c4') := (hbw6.cell (p := ⟨b, 1, none⟩) hlw).trans d1; have qw6_2 : w6_.cell? ⟨b, 2, none⟩ = some (.int .i64 af) := (hbw6.cell (p := ⟨b, 2, none⟩) hlw).trans d2; have qw6_3 : w6_.cell? ⟨b, 3, none⟩ = some (.int .i64 x.slot) := (hbw6.cell (p := ⟨b, 3, none⟩) hlw).trans d3; have qw6_4 : w6_.cell? ⟨b, 4, none⟩ = some (.int .i64 x.gen) := (hbw6.cell (p := ⟨b, 4, none⟩) hlw).trans d4; have qw6_5 : w6_.cell? ⟨b, 5, none⟩ = some (.int .i64 x.stamp) := (hbw6.cell (p := ⟨b, 5, none⟩) hlw).trans d5; have qw6_6 : w6_.cell? ⟨b, 6, none⟩ = some (.int .i64 x.at_) := (hbw6.cell (p := ⟨b, 6, none⟩) hlw).trans d6; have qw6_7 : w6_.cell? ⟨b, 7, none⟩ = some (.int .i64 x.no) := (hbw6.cell (p := ⟨b, 7, none⟩) hlw).trans d7; have qw6_8 : w6_.cell? ⟨b, 8, none⟩ = some (.bool x.live) := (hbw6.cell (p := ⟨b, 8, none⟩) hlw).trans d8; have qw6_9 : w6_.cell? ⟨rb, off + i * 4 + 1, none⟩ = some (.string xt) := (hbw6.cell (p := ⟨rb, off + i * 4 + 1, none⟩) hrw4).trans u1; have ne6 : ¬ w6_.heap.size = b := (by have := hbw6.size; omega); have ne7 : ¬ w6_.heap.size = rb := (by have := hbw6.size; omega); have HD6 := Lib.hid hD6; clear hD6)))
                      · go_wp2_with fail
                        go_meet
                        exact ⟨_, _, _, _, _, _, _, rfl, rfl, Lib.hid (NewX.fresh hbw6 HD6.out)⟩
                      · go_wp2_with fail
                        go_meet
                        exact ⟨_, _, _, _, _, _, _, rfl, rfl, Lib.hid (NewX.put hbw6 HD6.out (by first | exact ((Sx.new wc none 0 0 none 0 0 0 zx).call (Dsk.undrew hb6)) | exact ((Sx.new wc none 0 0 none 0 0 0 zx).call hb6)) (Nat.le_refl _) rfl)⟩
                    case rest =>
                      clear HLg
                      obtain ⟨xb, A6, n6, c6, A6', m6, c6', rfl, rfl, HN6⟩ := hcut
                      have HW5 := Lib.hid (HW4.out.call HN6.out.bel)
                      have HB5_ := Lib.hid (HB4.out.call HN6.out.bel)
                      have HR5_ := Lib.hid (HRc.out.below HN6.out.bel)
                      obtain ⟨d0, d1, d2, d3, d4, d5, d6, d7, d8, d9, d10, d11⟩ := HW5.out.cells
                      obtain ⟨f0, f1, f2_, f3, f4, f5, f6, f7, f8, f9, f10, f11⟩ := HW5.out.live
                      have hlw := HW5.out.lt
                      obtain ⟨e0, e1, e2_, e3, e4, e5, e6, e7, e8⟩ := HN6.out.sx.cells
                      have hlt := HN6.out.sx.lt
                      clear u0 u1 u2 u4 hrw4
                      go_upto_region 27 with fail
                      obtain ⟨hW7a, hg7a⟩ := HW5.out.state HN6.out.dev x2 rfl
                      obtain ⟨hW7, hg7b⟩ := hW7a.setMay (HR5_.out.secOnly HW5.out.ns hg7a) (d := c5_)
                      have hg7 := grown_trans hg7a hg7b
                      have HW7 := Lib.hid hW7
                      have HB7 := Lib.hid (below_grown HB5_.out hg7 hwb)
                      clear hW7a hg7a hg7b hW7 hg7 d0 d1 d2 d3 d4 d5 d6 d7 d8 d9 d10 d11 f0 f1 f2_ f3 f4 f5 f6 f7 f8 f9 f10 f11 hlw e0 e1 e2_ e3 e4 e5 e6 e7 e8 hlt HW5 HB5_ HR5_
                      generalize (((((((((wc.setCell ⟨b, 0, none⟩ (.slice A6 n6 c6)).setCell ⟨b, 1, none⟩ (.slice A6' m6 c6')).setCell ⟨b, 2, none⟩ (.int .i64 f2)).setCell ⟨b, 3, none⟩ (.int .i64 x2.slot)).setCell ⟨b, 4, none⟩ (.int .i64 x2.gen)).setCell ⟨b, 5, none⟩ (.int .i64 x2.stamp)).setCell ⟨b, 6, none⟩ (.int .i64 x2.at_)).setCell ⟨b, 7, none⟩ (.int .i64 x2.no)).setCell ⟨b, 8, none⟩ (.bool x2.live)).setCell ⟨b, 10, none⟩ (.slice ad5 (H.length + 1) c5_) = w7 at *
                      have hrw7 := Nat.lt_of_lt_of_le HRb.out HB7.out.size
                      have u0 := (HB7.out.cell (p := ⟨rb, off + i * 4, none⟩) HRb.out).trans HO0.out
                      have u1 := (HB7.out.cell (p := ⟨rb, off + i * 4 + 1, none⟩) HRb.out).trans HO1.out
                      have u2 := (HB7.out.cell (p := ⟨rb, off + i * 4 + 2, none⟩) HRb.out).trans HO2.out
                      have u4 := (HB7.out.cell (p := ⟨rb, off + i * 4 + 3, none⟩) HRb.out).trans HO4.out
                      have HC7 := Lib.hid (HOc.out.below HB7.out)
                      rcases HCs.out with ⟨rfl, rfl, hWn⟩ | ⟨rfl, hWn⟩ | ⟨rfl, rfl, hWn⟩
                      · have HAf := Lib.hid (after_ok w7 b A6 n6 c6 A6' m6 c6' f2 x2 hA H.length hc ad5 (H.length + 1) c5_ S2 [] H H2 HW7.out HCk2.out false xt xf ca cm cc xc HC7.out (by omega))
                        have HWn := Lib.hid (hWn)
                        clear hWn
                        go_upto_region 28 with (go_at_call 26; with_reducible refine HAf.out.mono ?_; rintro r w8 ⟨rfl, hP⟩; have HN := Lib.hid (SCI.next HB7.out hwb hP HWn.out); clear hP)
                        obtain ⟨-, A9, n9, c9, A9', m9, c9', x9, hA9, hn9, hc9, mA9, mn9, mc9, S9, H9, M9, hW9, hI9⟩ := HN.out
                        obtain ⟨-, -, -, -, -, -, -, -, -, -, -, e11⟩ := hW9.cells
                        have hle := hW9.lt
                        clear hW9 hI9
                        go_wp2_with fail
                        go_roundw
                        case rel => exact ⟨i + 1, by omega, by go_num, HN⟩
                        case measure => simp [intOf]; omega
                      · have HAf := Lib.hid (after_down w7 b A6 n6 c6 A6' m6 c6' f2 x2 hA H.length hc ad5 (H.length + 1) c5_ S2 W2 H H2 HW7.out HCk2.out false xt xf ca cm cc xc HC7.out (by omega))
                        have HWn := Lib.hid (hWn zx rfl)
                        clear hWn
                        go_upto_region 28 with (go_at_call 26; with_reducible refine HAf.out.mono ?_; rintro r w8 ⟨rfl, hP⟩; have HN := Lib.hid (SCI.next HB7.out hwb hP HWn.out); clear hP)
                        obtain ⟨-, A9, n9, c9, A9', m9, c9', x9, hA9, hn9, hc9, mA9, mn9, mc9, S9, H9, M9, hW9, hI9⟩ := HN.out
                        obtain ⟨-, -, -, -, -, -, -, -, -, -, -, e11⟩ := hW9.cells
                        have hle := hW9.lt
                        clear hW9 hI9
                        go_wp2_with fail
                        go_roundw
                        case rel => exact ⟨i + 1, by omega, by go_num, HN⟩
                        case measure => simp [intOf]; omega
                      · have HAf := Lib.hid (after_full w7 b A6 n6 c6 A6' m6 c6' f2 x2 hA H.length hc ad5 (H.length + 1) c5_ S2 [] H H2 HW7.out HCk2.out false xt xf ca cm cc xc HC7.out (by omega))
                        have HWn := Lib.hid (hWn)
                        clear hWn
                        go_upto_region 28 with (go_at_call 26; with_reducible refine HAf.out.mono ?_; rintro r w8 ⟨rfl, hP⟩; have HN := Lib.hid (SCI.next HB7.out hwb hP HWn.out); clear hP)
                        obtain ⟨-, A9, n9, c9, A9', m9, c9', x9, hA9, hn9, hc9, mA9, mn9, mc9, S9, H9, M9, hW9, hI9⟩ := HN.out
                        obtain ⟨-, -, -, -, -, -, -, -, -, -, -, e11⟩ := hW9.cells
                        have hle := hW9.lt
                        clear hW9 hI9
                        go_wp2_with fail
                        go_roundw
                        case rel => exact ⟨i + 1, by omega, by go_num, HN⟩
                        case measure => simp [intOf]; omega
                · rw [decide_eq_false hfit] at hFt
                  have HFt := Lib.hid hFt
                  clear hFt hfit
                  go_wp2_with (first | (at_builtin; refine wpList_append_run rfl (.tmp 100) (.tmp 102) 22 22 rfl _ _ rfl rfl (.slice ad H.length dd) w4 HAP.out ?_) | (at_builtin; refine wpList_append_run rfl (.tmp 104) (.tmp 110) 22 22 rfl _ _ rfl rfl (.slice ad5 (H.length + 1) c5_) w5 HAP5.out ?_) | (go_at_call 27; with_reducible refine HFt.out.mono ?_; rintro r w6 ⟨rfl, b6⟩; have HB6r := Lib.hid b6; have HB6 := Lib.hid (HB5.out.call b6); clear b6) | (go_at_call 7; with_reducible refine (HAw.out _ (HB.out.call HB6.out)).mono ?_; rintro r w7 ⟨rfl, b7⟩; have HB7 := Lib.hid ((HB.out.call HB6.out).call b7); clear b7))
                  go_ret
                  exact ⟨rfl, HB7.out⟩
            · have hx' : x.live = false := by simpa using hx
              as_aux_lemma =>
                rw [hx'] at d8
                have HOp := Lib.hid (fun W (hb : Below wr.heap.size wr W) => open_any HO'.out HS'.out i (by omega) W b A3 n3 c3 A3' m3 c3' x hA hn hc mA mn mc S H M (Shf.tab_call HT.out (HB.out.call hb)) (HW.out.call hb) HWI.out hx' sv xt xf ca cm cc xc (HCu.out.below hb) (by omega) t3)
                clear hx
                go_upto_region 13 with fail
                go_region_with (go_at_call 23; with_reducible refine (HOp.out _ (by first | exact Below.refl _ _ | exact Below.drew (Below.refl _ _))).mono ?_; rintro r w5 ⟨rfl, S5, x5, F5, hP, hI5⟩; have HN := Lib.hid (SCI.next (HB.out.call (by first | exact Below.refl _ _ | exact Below.drew (Below.refl _ _))) hwb hP hI5); clear hP hI5 d0 d1 d2 d3 d4 d5 d6 d7 d8 d9 d10 d11 f0 f1 f2_ f3 f4 f5 f6 f7 f8 f9 f10 f11 hlw)
                all_goals
                  obtain ⟨-, A9, n9, c9, A9', m9, c9', x9, hA9, hn9, hc9, mA9, mn9, mc9, S9, H9, M9, hW9, hI9⟩ := HN.out
                  obtain ⟨-, -, -, -, -, -, -, -, -, -, -, e11⟩ := hW9.cells
                  have hle := hW9.lt
                  clear hW9 hI9
                  go_wp2_with fail
                  go_roundw
                  case rel => exact ⟨i + 1, by omega, by go_num, HN⟩
                  case measure => simp [intOf]; omega
          · have h6' : (30 : Int) < cm := by omega
            have h5' : ¬ (60 : Int) < xt.size := by omega
            go_wp2_with (go_at_call 7; with_reducible refine (HAw.out _ HB.out).mono ?_; rintro r w4 ⟨rfl, b4⟩; have HB4 := Lib.hid (HB.out.call b4); clear b4)
            go_ret
            exact ⟨rfl, HB4.out⟩
        · have h5' : (60 : Int) < xt.size := by omega
          go_wp2_with (go_at_call 7; with_reducible refine (HAw.out _ HB.out).mono ?_; rintro r w4 ⟨rfl, b4⟩; have HB4 := Lib.hid (HB.out.call b4); clear b4)
          go_ret
          exact ⟨rfl, HB4.out⟩
      · obtain rfl : i = N := by omega
        as_aux_lemma =>
          obtain ⟨hopn, hts, F, hFe, hFo, hOk⟩ := HWI.out.last (by omega)
          have hck : chk S [] (-1) = 0 := HWI.out.good.chk (by omega)
          have hCr := crash_any A3 n3 c3 A3' m3 c3' (-1) S [] none 0 0 [] wr HW.out.dev (RV.nil _ _ _)
          rw [if_pos hck, if_pos hck, if_pos hck, show goAll S [] (cutAt []) = S from rfl] at hCr
          have HCr := Lib.hid hCr
          unfold RetD at HCr
          have HOpn := Lib.hid hopn
          have HFe := Lib.hid hFe
          have HFo := Lib.hid hFo
          have HOk := Lib.hid hOk
          have HTs := Lib.hid hts
          have HHl : Hid (hn ≤ 24 ∧ mn ≤ 24) := Lib.hid ⟨by have := HW.out.has.sec; have := HWI.out.1.len; omega, by have := HW.out.may.sec; have := HWI.out.2.1.len; omega⟩
          clear hopn hts hFe hFo hOk hck hCr
          obtain ⟨d0, d1, d2, d3, d4, d5, d6, d7, d8, d9, d10, d11⟩ := HW.out.cells
          have hlw := HW.out.lt
          go_wp2_with fail
          with_reducible refine HCr.out.mono ?_
          rintro r w4 ⟨A4, n4, c4, A4', m4, c4', rfl, hd4, b4⟩
          have HB4 := Lib.hid (HB.out.call b4)
          have HW4 := Lib.hid (HW.out.call b4)
          have HO4 := Lib.hid (HO'.out w4 A4 n4 c4 A4' m4 c4' (-1) S [] hd4 (Shf.tab_call HT.out HB4.out) HOpn.out)
          unfold RetO at HO4
          clear b4 hd4 HCr HW HB d0 d1 d2 d3 d4 d5 d6 d7 d8 d9 d10 d11 hlw
          go_wp2_with fail
          with_reducible refine HO4.out.mono ?_
          rintro r w5 ⟨A5, n5, c5, A5', m5, c5', B5, q5, k5, rfl, hd5, hr5, b5⟩
          generalize hox : opnX S [] (-1) = x1 at *
          have HR5 := Lib.hid (hr5.below (new1 w5 (.cells #[.slice A5 n5 c5, .slice A5' m5 c5', .int .i64 (-1), .int .i64 x1.slot, .int .i64 x1.gen, .int .i64 x1.stamp, .int .i64 x1.at_, .int .i64 x1.no, .bool x1.live] 31)))
          have HB5 := Lib.hid ((HB4.out.call b5).push (.cells #[.slice A5 n5 c5, .slice A5' m5 c5', .int .i64 (-1), .int .i64 x1.slot, .int .i64 x1.gen, .int .i64 x1.stamp, .int .i64 x1.at_, .int .i64 x1.no, .bool x1.live] 31))
          have HW5 := Lib.hid ((HW4.out.call b5).call (new1 w5 (.cells #[.slice A5 n5 c5, .slice A5' m5 c5', .int .i64 (-1), .int .i64 x1.slot, .int .i64 x1.gen, .int .i64 x1.stamp, .int .i64 x1.at_, .int .i64 x1.no, .bool x1.live] 31)))
          have hq5 := hr5.sec
          clear hr5 hd5 b5 hox HO4 HB4 HW4
          go_upto_region 31 with fail
          generalize w5.alloc (.cells #[.slice A5 n5 c5, .slice A5' m5 c5', .int .i64 (-1), .int .i64 x1.slot, .int .i64 x1.gen, .int .i64 x1.stamp, .int .i64 x1.at_, .int .i64 x1.no, .bool x1.live] 31) = w6 at *
          have HUn := Lib.hid (by
            have hFl : (un (opnT S [] (-1))).length + (opnL S [] (-1)).length ≤ 24 := by rw [← List.length_append, HFe.out]; have := HOk.out.len; omega
            have := unpack_any (opnT S [] (-1)) B5 q5 k5 (opnL S [] (-1)) w6 HR5.out (by have := HTs.out; omega) (by omega)
            rwa [HFe.out] at this)
          generalize opnT S [] (-1) = ot at *
          clear hq5
          go_wp2_with fail
          with_reducible refine HUn.out.mono ?_
          rintro r w7 ⟨B7, q7, k7, rfl, hr7, b7⟩
          have HB7 := Lib.hid (HB5.out.call b7)
          have HW7 := Lib.hid (HW5.out.call b7)
          have HR7 := Lib.hid hr7
          have hq7 : (q7 : Int) ≤ 24 := by have := hr7.sec; have := HOk.out.len; omega
          clear hr7 b7 HUn HB5 HW5 HR5
          go_upto_region 32 with fail
          obtain ⟨d0, d1, d2, d3, d4, d5, d6, d7, d8, d9, d10, d11⟩ := HW7.out.cells
          have hlw := HW7.out.lt
          have HSa := Lib.hid (sames_any B7 q7 k7 hA hn hc F H w7 HR7.out HW7.out.has (by omega))
          by_cases hFH : F = H
          · rw [decide_eq_true hFH] at HSa
            go_wp2_with (first | (go_at_call 13; with_reducible refine HSa.out.mono ?_; rintro r w8 ⟨rfl, b8⟩; have HB8 := Lib.hid (HB7.out.call b8); clear b8) | (go_at_call 7; with_reducible refine (HAw.out _ HB8.out).mono ?_; rintro r w9 ⟨rfl, b9⟩; have HB9 := Lib.hid (HB8.out.call b9); clear b9))
            go_ret
            exact ⟨rfl, HB9.out⟩
          · rw [decide_eq_false hFH] at HSa
            have hFM : F = M := HFo.out.resolve_left hFH
            have HSm := Lib.hid (fun W (hb : Below w7.heap.size w7 W) => sames_any B7 q7 k7 mA mn mc F M W (HR7.out.below hb) (HW7.out.may.below hb) (by omega))
            simp only [decide_eq_true hFM] at HSm
            go_wp2_with (first | (go_at_call 13; with_reducible refine HSa.out.mono ?_; rintro r w8 ⟨rfl, b8⟩; have HB8 := Lib.hid b8; obtain ⟨-, -, -, -, -, -, -, -, -, e9, e10, -⟩ := (HW7.out.call b8).cells; have hlw8 := (HW7.out.call b8).lt; clear b8) | (go_at_call 13; with_reducible refine (HSm.out _ HB8.out).mono ?_; rintro r w9 ⟨rfl, b9⟩; have HB9 := Lib.hid (HB7.out.call (HB8.out.call b9)); clear b9) | (go_at_call 7; with_reducible refine (HAw.out _ HB9.out).mono ?_; rintro r w10 ⟨rfl, b10⟩; have HB10 := Lib.hid (HB9.out.call b10); clear b10))
            go_ret
            exact ⟨rfl, HB10.out⟩
  · have h1' : (24 : Int) < N := by omega
    go_enter Tryz.func5, Tryz.ntmps5
    go_wp2_with (go_at_call 7; with_reducible refine (HAw.out _ (Below.refl _ _)).mono ?_; rintro r w1 ⟨rfl, b1⟩; have HB1 := Lib.hid b1; clear b1)
    go_ret
    exact ⟨rfl, HB1.out⟩

end Go.Proofs.YtkglolnghihegaaGreatDoor.Sto
