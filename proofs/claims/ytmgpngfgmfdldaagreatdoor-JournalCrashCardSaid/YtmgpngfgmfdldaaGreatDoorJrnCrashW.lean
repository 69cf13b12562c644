/- The walk of JournalCrash. -/
import Derived.Test.YtmgpngfgmfdldaaGreatDoorJrnAw
import Derived.Test.YtmgpngfgmfdldaaGreatDoorJrnTry
import Derived.Test.YtmgpngfgmfdldaaGreatDoorJrnP
import Derived.Test.YtmgpngfgmfdldaaGreatDoorTRw
import Derived.Test.YtmgpngfgmfdldaaGreatDoorSltR
import Derived.Test.YtmgpngfgmfdldaaGreatDoorSlotsTop
import Derived.Test.YtmgpngfgmfdldaaGreatDoorDskS
import Derived.Test.YtmgpngfgmfdldaaGreatDoorDskB
import Derived.Deep.RegionHeld3
import Derived.Deep.DeepCutAuto
namespace Go.Proofs.YtmgpngfgmfdldaaGreatDoor.Jrn
open Go.RowKit Go.Proofs.YtmgpngfgmfdldaaGreatDoor.Dsk Go.Proofs.YtmgpngfgmfdldaaGreatDoor.Sht Go.Proofs.YtmgpngfgmfdldaaGreatDoor.Shf Go.Proofs.YtmgpngfgmfdldaaGreatDoor.Slt
open Go.Proofs.YtmgpngfgmfdldaaGreatDoor.Crc (Tab)

theorem good64 {S : List ByteArray} (h : Slt.Good S) : ∀ s ∈ S, s.size = 64 := fun s hs => (secOk_iff S).1 h.ok s hs
theorem rv_other {w w' : World} {A : Option Addr} {m : Nat} {xs : List Value} {o : Option Nat} (h : RV w A m 1 xs) (hg : w.grownBy w' o) (hne : ∀ b off, A = some ⟨b, off, none⟩ → o ≠ some b) : RV w' A m 1 xs := by
  refine ⟨h.1, fun hn => ?_⟩
  obtain ⟨b, off, rfl, hb, hc⟩ := h.2 hn
  exact ⟨b, off, rfl, Nat.lt_of_lt_of_le hb hg.size, fun i hi => (World.cell?_of_block (a := ⟨b, off + i, none⟩) (hg.block b hb (fun e => hne b off rfl e.symm))).trans (hc i hi)⟩

/-- What holds ahead of each try. -/
structure CkI (w wr : World) (db : Nat) (A : Option Addr) (n c : Nat) (A' : Option Addr) (m c' : Nat) (S : List ByteArray) (b : Nat) : Prop where
  bel : Below w.heap.size w wr
  st : St wr db A n c A' m c' (-1)
  dev : Dev wr A n c A' m c' (-1) S []
  inv : OInv S b
  new : w.heap.size ≤ db
theorem CkI.call {w wr w' : World} {db : Nat} {A : Option Addr} {n c : Nat} {A' : Option Addr} {m c' : Nat} {S : List ByteArray} {b : Nat} (h : CkI w wr db A n c A' m c' S b) (hb : Below wr.heap.size wr w') : CkI w w' db A n c A' m c' S b :=
  ⟨h.bel.call hb, h.st.call hb, h.dev.below hb, h.inv, h.new⟩
theorem CkI.store {w wr : World} {db : Nat} {A : Option Addr} {n c : Nat} {A' : Option Addr} {m c' : Nat} {S : List ByteArray} {b : Nat} (h : CkI w wr db A n c A' m c' S b) {B : Option Addr} {p d : Nat} {B' : Option Addr} {q d' : Nat} {S' : List ByteArray} {b' : Nat}
    (hd : Dev wr B p d B' q d' (-1) S' []) (hi : OInv S' b') : CkI w (set3 wr db (.slice B p d) (.slice B' q d') (.int .i64 (-1))) db B p d B' q d' S' b' :=
  ⟨h.bel.grown (grown_set3 _ _ _ _ _) h.bel.size (by simpa using h.new), h.st.set3 _ _ _ _ _ _ _, hd.only h.st.ns (grown_set3 _ _ _ _ _), hi, h.new⟩

/-- What holds ahead of each record of the new generation. -/
structure CkN (w wr : World) (db : Nat) (A : Option Addr) (n c : Nat) (A' : Option Addr) (m c' : Nat) (S : List ByteArray) (g : Nat) (M : List ByteArray) (v : Value) : Prop where
  bel : Below w.heap.size w wr
  st : St wr db A n c A' m c' (-1)
  dev : Dev wr A n c A' m c' (-1) S []
  row : TRow wr w.heap.size v M
  inv : NInv S g M
  new : w.heap.size ≤ db
theorem CkN.call {w wr w' : World} {db : Nat} {A : Option Addr} {n c : Nat} {A' : Option Addr} {m c' : Nat} {S : List ByteArray} {g : Nat} {M : List ByteArray} {v : Value} (h : CkN w wr db A n c A' m c' S g M v) (hb' : Below wr.heap.size wr w') : CkN w w' db A n c A' m c' S g M v :=
  ⟨h.bel.call hb', h.st.call hb', h.dev.below hb', h.row.call hb', h.inv, h.new⟩
/-- The new device is stored, and a text appended. -/
theorem CkN.more {w wr : World} {db : Nat} {A : Option Addr} {n c : Nat} {A' : Option Addr} {m c' : Nat} {S : List ByteArray} {g : Nat} {M : List ByteArray} {v : Value} (h : CkN w wr db A n c A' m c' S g M v) {B : Option Addr} {p d : Nat} {B' : Option Addr} {q d' : Nat} {S' : List ByteArray} {t : ByteArray}
    (hd : Dev wr B p d B' q d' (-1) S' []) (hi : NInv S' g (M ++ [t])) (hM : M.length ≤ 100) :
    ∃ Av cv w', (Builtin.append_ #[22, 22] 22 #[v, .slice (some ⟨wr.heap.size, 0, none⟩) 1 1]).run Tryz.prog ((set3 wr db (.slice B p d) (.slice B' q d') (.int .i64 (-1))).alloc (.cells #[.string t] 9)) = .ok (.slice Av (M ++ [t]).length cv) w' ∧
      CkN w w' db B p d B' q d' S' g (M ++ [t]) (.slice Av (M ++ [t]).length cv) := by
  have hg3 := grown_set3 wr db (.slice B p d) (.slice B' q d') (.int .i64 (-1))
  have hbel := h.bel.grown hg3 h.bel.size (by simpa using h.new)
  have hst := h.st.set3 B p d B' q d' (-1)
  have hdev := hd.only h.st.ns hg3
  have hrow := h.row.other hg3 (h.row.ne h.st.ns)
  have hsz : (set3 wr db (.slice B p d) (.slice B' q d') (.int .i64 (-1))).heap.size = wr.heap.size := by simp
  rw [← hsz]
  dsimp only [set3] at *
  generalize ((wr.setCell ⟨db, 0, none⟩ (.slice B p d)).setCell ⟨db, 1, none⟩ (.slice B' q d')).setCell ⟨db, 2, none⟩ (.int .i64 (-1)) = wd at *
  have hW1 := new1 wd (.cells #[.string t] 9)
  have hrowA := hrow.call hW1
  obtain ⟨v', w', hap, hrow', hgr, hsty⟩ := hrowA.append ⟨wd.heap.size, 0, none⟩ 1 t (by simp [go_sem]) (by omega) (by have := hbel.size; simp; omega)
  obtain ⟨Av, cv, rfl, hrv⟩ := hrow'.val
  exact ⟨Av, cv, w', hap, (hbel.push _).grown hgr (by have := hbel.size; simp; omega) (fun g hg => (hrowA.lt g hg).1), St.trow (hst.call hW1) hrowA hgr, Dev.stays (hdev.below hW1) hsty hgr.size (good64 hi.good) (by simp), hrow', hi, h.new⟩

set_option maxRecDepth 100000 in
set_option maxHeartbeats 4000000 in
theorem walk_crash (A : Option Addr) (N cl : Nat) (L : List Tr) (E : Option Addr) (k ec : Nat) (T : List ByteArray) (lt : ByteArray) (lf : Nat) (lA : Option Addr) (lm lc : Nat) (lcs : List UInt8) (w : World) (hT : Tab w) (hL : TrV w A N L) (hE : RV w E k 1 (SV T)) (hlf : lf < 256) (hlc : RV w lA lm 1 (UV lcs)) :
    Calls Tryz.prog 6 #[.slice A N cl, .slice E k ec, .agg #[.string lt, .int .u8 lf, .slice lA lm lc]] w fun r w' => r = .returned (.bool true) ∧ Below w.heap.size w w' := by
  have hb0 := new1 w (.cells #[.string lt, .int .u8 lf, .slice lA lm lc] 59)
  have HB0 := Lib.hid (fun W (hb : Below (w.alloc (.cells #[.string lt, .int .u8 lf, .slice lA lm lc] 59)).heap.size (w.alloc (.cells #[.string lt, .int .u8 lf, .slice lA lm lc] 59)) W) => hb0.call hb)
  have HBx := Lib.hid (Box.new w (.string lt) (.int .u8 lf) (.slice lA lm lc) 59)
  have HT := Lib.hid (Shf.tab_call hT hb0)
  have HLv := Lib.hid (hL.below hb0)
  have HLl := Lib.hid hL.1
  have HEv := Lib.hid (hE.below hb0)
  have HEl := Lib.hid hE.sec
  have HLc := Lib.hid (hlc.below hb0)
  have HLn := Lib.hid (by have := hlc.1; rw [UV_length] at this; omega : lcs.length = lm)
  clear hT hL hE hlc hb0
  go_enter Tryz.func6, Tryz.ntmps6
  go_upto_region 1 with fail
  generalize w.alloc (.cells #[.string lt, .int .u8 lf, .slice lA lm lc] 59) = w0 at *
  generalize hlbe : w.heap.size = lb at *
  have HEnd := Lib.hid (fun W (hb : Below w0.heap.size w0 W) => (by rw [hlbe]; exact HB0.out W hb : Below w.heap.size w W))
  clear hlbe HB0
  obtain ⟨x0, x1, x2, -, -, -⟩ := HBx.out
  have hlb := HBx.out.lt
  have HAw := Lib.hid (fun W (hb : Below w0.heap.size w0 W) => awakeJ_any W (Shf.tab_call HT.out hb))
  have HBg : Hid (∀ W, Calls Tryz.prog 23 #[.int .i64 32] W fun r w' => r = .returned (.int .i64 16) ∧ W = w') := Lib.hid (fun W => by
    have := begin_any 32 W
    rwa [show 2 * sizR 32 = 16 from by show 2 * sizR ((32 : Nat) : Int) = 16; rw [sizR_of (by omega) (by omega)]; rfl] at this)
  by_cases h1 : (N : Int) ≤ 4
  · by_cases h2 : (k : Int) ≤ 6
    · by_cases h3 : (lt.size : Int) ≤ 100
      · by_cases h4 : (lm : Int) ≤ 30
        · have HN := Lib.hid (fun W => new_yes 32 W (by omega) (by omega))
          rw [show ((32 : Nat) : Int) = 32 from rfl] at HN
          unfold RetDE at HN
          go_wp2_with fail
          with_reducible refine (HN.out _).mono ?_
          rintro r w1 ⟨A1, n1, c1, A1', m1, c1', rfl, hd1, b1⟩
          have HB1 := Lib.hid (((Below.refl w0.heap.size w0).call b1).push (D33 A1 n1 c1 A1' m1 c1' (-1)))
          have H0 : Hid (CkI w0 (w1.alloc (D33 A1 n1 c1 A1' m1 c1' (-1))) w1.heap.size A1 n1 c1 A1' m1 c1' (newS 32) 0) := Lib.hid
            ⟨HB1.out, St.new w1 A1 n1 c1 A1' m1 c1' (-1) 31, hd1.new _, oinv_new, b1.size⟩
          clear b1 hd1 HN HB1 x0 x1 x2
          go_wp2_with fail
          generalize w1.alloc (D33 A1 n1 c1 A1' m1 c1' (-1)) = w2 at *
          generalize w1.heap.size = db at *
          go_loopw [9] (fun s9 wr => ∃ i : Nat, (i : Int) ≤ N ∧ s9 = .int .i64 i ∧ Hid (∃ A n c A' m c' S, CkI w0 wr db A n c A' m c' S (9 * i))) (fun s9 _ => N - (intOf s9).toNat)
          case atStart => exact ⟨0, by omega, rfl, Lib.hid ⟨_, _, _, _, _, _, _, H0.out⟩⟩
          case round =>
            obtain ⟨i, hi, rfl, HI⟩ := hrel
            obtain ⟨A3, n3, c3, A3', m3, c3', S, hI⟩ := HI.out
            have HI3 := Lib.hid hI
            obtain ⟨d0, d1, d2, f0, f1, f2⟩ := hI.st.box
            have hld := hI.st.lt
            clear HI H0
            have HTp := Lib.hid (topD_any A3 n3 c3 A3' m3 c3' (-1) S [] wr hI.dev)
            rw [show topD S [] (-1) = topL S from by unfold topD; rw [if_pos (hI.inv.good.chk (by omega)), hI.inv.good.secs]] at HTp
            have htop1 := topL_nonneg S
            by_cases hlt : (i : Int) < N
            · as_aux_lemma =>
                have hil : i < L.length := by have := HLl.out; omega
                obtain ⟨b, off, rfl, hb, hall⟩ := (HLv.out.below HI3.out.bel).2 (by omega)
                obtain ⟨t0, t1, t3, ca, cm, cc, t2, hcu, hcc⟩ := hall i hil
                have HCu := Lib.hid hcu
                have hbw0 : b < w0.heap.size := by obtain ⟨b', off', e, h, -⟩ := HLv.out.2 (by omega); injection e with e; injection e with e1 e2; omega
                clear hall hcu hcc
                generalize L[i] = x at *
                obtain ⟨xt, xf, xc⟩ := x
                dsimp only at t0 t1 t3 HCu
                by_cases h5 : (xt.size : Int) ≤ 300
                · by_cases h6 : (cm : Int) ≤ 30
                  · have htop2 : topL S ≤ 27 := by have := hI.inv.top_le; omega
                    clear hI
                    generalize htl : topL S = tp at HTp htop1 htop2
                    go_wp2_with fail
                    with_reducible refine HTp.out.mono ?_
                    rintro r w4 ⟨rfl, b4⟩
                    have HI4 := Lib.hid (HI3.out.call b4)
                    have hb4 : b < w4.heap.size := Nat.lt_of_lt_of_le hb b4.size
                    have u0 := (b4.cell (p := ⟨b, off + i * 3, none⟩) hb).trans t0
                    have u1 := (b4.cell (p := ⟨b, off + i * 3 + 1, none⟩) hb).trans t1
                    have u2 := (b4.cell (p := ⟨b, off + i * 3 + 2, none⟩) hb).trans t2
                    have HCu4 := Lib.hid (HCu.out.below b4)
                    clear b4 t0 t1 t2 d0 d1 d2 f0 f1 f2 hld HCu HTp hb HI3
                    go_upto_region 12 with fail
                    obtain ⟨S2, W2, f2, p2, st2, e2, hsv, he, hck, hinv'⟩ := HI4.out.inv.try_ (by omega) (t := xt) (by omega) (armF ((xf : Int) - 1)) (by unfold armF; omega) (ints xc)
                    rw [htl] at hsv
                    have HArm : Hid (∀ W, Below w4.heap.size w4 W → Calls Tryz.prog 26 #[DV A3 n3 c3 A3' m3 c3' (-1), .int .i64 ((xf : Int) - 1)] W (RetD W S [] (armF ((xf : Int) - 1)))) := Lib.hid (fun W hb => by
                      have := arm_any A3 n3 c3 A3' m3 c3' (-1) S [] ((xf : Int) - 1) W (HI4.out.dev.below hb)
                      rwa [if_pos (HI4.out.inv.good.chk (by omega))] at this)
                    have HPut : Hid (∀ W A n c A' m c', Dev W A n c A' m c' (armF ((xf : Int) - 1)) S [] → Tab W → Calls Tryz.prog 8 #[DV A n c A' m c' (armF ((xf : Int) - 1)), .int .i64 16, .int .i64 (tp + 1), .int .i64 0, .int .i64 (tp + 1), .string xt] W (RetP W ⟨S2, W2, f2, p2, st2, e2⟩)) := Lib.hid (fun W A n c A' m c' hD hT => by
                      have := put_any A n c A' m c' (armF ((xf : Int) - 1)) S [] 16 (tp + 1) 0 (tp + 1) xt W hD hT
                      rwa [hsv] at this)
                    unfold RetP at HPut
                    dsimp only at HPut
                    unfold RetD at HArm
                    have HE2 := Lib.hid he
                    have HCk := Lib.hid hck
                    have HIn := Lib.hid hinv'
                    clear hsv he hck hinv' htl
                    generalize armF ((xf : Int) - 1) = af at *
                    go_cut [11, 14] (fun s11 s14 wx => ∃ xb A6 n6 c6 A6' m6 c6', s11 = .pointer (some ⟨xb, 0, none⟩) ∧ s14 = .int .i64 e2 ∧ Hid (NewD w4 wx xb A6 n6 c6 A6' m6 c6' f2 S2 W2))
                    case first =>
                      obtain ⟨y0, y1, y2, -, -, -⟩ := HI4.out.st.box
                      have hl1 := HI4.out.st.lt
                      have hw1 : IntKind.i64.wrap (xf : Int) = xf := IntWalk.i64_in _ (by omega)
                      have hw2 : IntKind.i64.wrap ((xf : Int) - 1) = (xf : Int) - 1 := IntWalk.i64_in _ (by omega)
                      have ne1 : ¬ w4.heap.size = db := by omega
                      have ne2 : ¬ w4.heap.size = b := by omega
                      go_region_held3 (fun W => W.cell? ⟨db, 0, none⟩ = some (.slice A3 n3 c3) ∧ W.cell? ⟨db, 1, none⟩ = some (.slice A3' m3 c3') ∧ W.cell? ⟨db, 2, none⟩ = some (.int .i64 (-1)) ∧ W.cell? ⟨b, off + i * 3, none⟩ = some (.string xt) ∧ W.cell? ⟨b, off + i * 3 + 1, none⟩ = some (.int .u8 xf)) (go_keep)
                        (first
                          | (go_at_call 26; ((with_reducible refine (HArm.out _ (by repeat (first | exact Below.refl _ _ | refine Below.push ?_ _ | refine Below.drew ?_))).mono ?_)); rintro r w5 ⟨A5, n5, c5, A5', m5, c5', rfl, hD5, hb5⟩; obtain ⟨hc, hf⟩ := Dsk.bcell hb5; have hlt5 := Dsk.blt hb5; have hbw : Below w4.heap.size w4 w5 := (Below.call (by repeat (first | exact Below.refl _ _ | refine Below.push ?_ _ | refine Below.drew ?_)) hb5); have qw50 : w5.cell? ⟨db, 0, none⟩ = some (.slice A3 n3 c3) := (hbw.cell (p := ⟨db, 0, none⟩) hl1).trans y0; have qw51 : w5.cell? ⟨db, 1, none⟩ = some (.slice A3' m3 c3') := (hbw.cell (p := ⟨db, 1, none⟩) hl1).trans y1; have qw52 : w5.cell? ⟨db, 2, none⟩ = some (.int .i64 (-1)) := (hbw.cell (p := ⟨db, 2, none⟩) hl1).trans y2; have qw53 : w5.cell? ⟨b, off + i * 3, none⟩ = some (.string xt) := (hbw.cell (p := ⟨b, off + i * 3, none⟩) hb4).trans u0; have qw54 : w5.cell? ⟨b, off + i * 3 + 1, none⟩ = some (.int .u8 xf) := (hbw.cell (p := ⟨b, off + i * 3 + 1, none⟩) hb4).trans u1; have ne4 : ¬ w5.heap.size = db := (by have := hbw.size; omega); have ne5 : ¬ w5.heap.size = b := (by have := hbw.size; omega); have HD5 := Lib.hid hD5; clear hD5)
                          | (go_at_call 23; ((with_reducible refine (HBg.out _).mono ?_)); rintro r wq ⟨rfl, rfl⟩)
                          | (go_at_call 8; ((with_reducible refine (HPut.out _ _ _ _ _ _ _ (by first | exact HD5.out | exact HD5.out.new _) (Shf.tab_call HT.out (HI4.out.bel.call (by first | exact hbw | exact hbw.push _)))).mono ?_)); rintro r w6 ⟨A6, n6, c6, A6', m6, c6', rfl, hD6, hb6⟩; obtain ⟨hc6, hf6⟩ := Dsk.bcell hb6; have hlt6 := Dsk.blt hb6; have hbw6 : Below w4.heap.size w4 w6 := (Below.call (by first | exact hbw | exact hbw.push _) hb6); have qw60 : w6.cell? ⟨db, 0, none⟩ = some (.slice A3 n3 c3) := (hbw6.cell (p := ⟨db, 0, none⟩) hl1).trans y0; have qw61 : w6.cell? ⟨db, 1, none⟩ = some (.slice A3' m3 c3') := (hbw6.cell (p := ⟨db, 1, none⟩) hl1).trans y1; have qw62 : w6.cell? ⟨db, 2, none⟩ = some (.int .i64 (-1)) := (hbw6.cell (p := ⟨db, 2, none⟩) hl1).trans y2; have qw63 : w6.cell? ⟨b, off + i * 3, none⟩ = some (.string xt) := (hbw6.cell (p := ⟨b, off + i * 3, none⟩) hb4).trans u0; have qw64 : w6.cell? ⟨b, off + i * 3 + 1, none⟩ = some (.int .u8 xf) := (hbw6.cell (p := ⟨b, off + i * 3 + 1, none⟩) hb4).trans u1; have ne6 : ¬ w6.heap.size = db := (by have := hbw6.size; omega); have ne7 : ¬ w6.heap.size = b := (by have := hbw6.size; omega); have HD6 := Lib.hid hD6; clear hD6))
                      all_goals
                        go_wp2_with fail
                        go_meet
                        first
                          | exact ⟨_, _, _, _, _, _, _, rfl, rfl, Lib.hid (NewD.fresh hbw6 HD6.out 31)⟩
                          | exact ⟨_, _, _, _, _, _, _, rfl, rfl, Lib.hid (NewD.put hbw6 HD6.out ((St.new w5 none 0 0 none 0 0 0 31).call hb6) hbw.size)⟩
                          | exact ⟨_, _, _, _, _, _, _, rfl, rfl, Lib.hid (NewD.put hbw6 HD6.out ((St.new w5 none 0 0 none 0 0 0 31).call (Dsk.undrew hb6)) hbw.size)⟩
                          | exact ⟨_, _, _, _, _, _, _, rfl, rfl, Lib.hid (NewD.put hbw6 HD6.out (((St.new w4 none 0 0 none 0 0 0 31).call (Dsk.undrew hb5)).call hb6) (Nat.le_refl _))⟩
                          | exact ⟨_, _, _, _, _, _, _, rfl, rfl, Lib.hid (NewD.put hbw6 HD6.out (((St.new w4 none 0 0 none 0 0 0 31).call hb5).call hb6) (Nat.le_refl _))⟩
                    case rest =>
                      obtain ⟨xb, A6, n6, c6, A6', m6, c6', rfl, rfl, HN6⟩ := hcut
                      have HI5 := Lib.hid (HI4.out.call HN6.out.bel)
                      have hb5 : b < wc.heap.size := Nat.lt_of_lt_of_le hb4 HN6.out.bel.size
                      have t2 := (HN6.out.bel.cell (p := ⟨b, off + i * 3 + 2, none⟩) hb4).trans u2
                      have HCu5 := Lib.hid (HCu4.out.below HN6.out.bel)
                      have HLt := Lib.hid HI4.out.st.lt
                      clear u0 u1 u2 HCu4 HArm HPut hb4 HI4
                      go_upto_region 13 with fail
                      go_cut [112] (fun s112 wx => s112 = .bool false ∧ wc = wx)
                      case first =>
                        rcases HE2.out with rfl | rfl
                        · go_wp2_with fail
                          go_meet
                          exact ⟨rfl, rfl⟩
                        · go_wp2_with fail
                          go_meet
                          exact ⟨rfl, rfl⟩
                      case rest =>
                        obtain ⟨rfl, rfl⟩ := hcut
                        go_upto_region 15 with fail
                        have HMa : Hid (∀ W, Below wc.heap.size wc W → Calls Tryz.prog 28 #[.slice ca cm cc] W fun r w' => ∃ B d, r = .returned (.slice B cm d) ∧ RV w' B cm 1 (IV (ints xc)) ∧ Below W.heap.size W w') := Lib.hid (fun W hb => many_any ca cm cc xc W (HCu5.out.below hb) (by omega))
                        have HCr : Hid (∀ W B d, Below wc.heap.size wc W → RV W B cm 1 (IV (ints xc)) → Calls Tryz.prog 27 #[DV A6 n6 c6 A6' m6 c6' f2, .slice B cm d] W (RetD W (goAll S2 W2 (cutAt (ints xc))) [] (-1))) := Lib.hid (fun W B d hb hr => crash_yes A6 n6 c6 A6' m6 c6' f2 S2 W2 B cm d (ints xc) W (HN6.out.dev.below hb) hr HCk.out)
                        unfold RetD at HCr
                        obtain ⟨z0, z1, z2, -, -, -⟩ := HN6.out.st.box
                        have hl2 := HN6.out.st.lt
                        have ne3 : ¬ db = xb := by have := HN6.out.new; have := HLt.out; omega
                        have ne4 : ¬ db = b := by have := HI5.out.new; omega
                        go_region_held3 (fun W => W.cell? ⟨xb, 0, none⟩ = some (.slice A6 n6 c6) ∧ W.cell? ⟨xb, 1, none⟩ = some (.slice A6' m6 c6') ∧ W.cell? ⟨xb, 2, none⟩ = some (.int .i64 f2) ∧ W.cell? ⟨b, off + i * 3 + 2, none⟩ = some (.slice ca cm cc)) (go_keep)
                          (first
                            | (go_at_call 28; ((with_reducible refine (HMa.out _ (by repeat (first | exact Below.refl _ _ | refine Below.push ?_ _ | refine Below.drew ?_))).mono ?_)); rintro r w5 ⟨B5, e5, rfl, hr5, hb5_⟩; have hbw : Below wc.heap.size wc w5 := (Below.call (by repeat (first | exact Below.refl _ _ | refine Below.push ?_ _ | refine Below.drew ?_)) hb5_); have qw50 : w5.cell? ⟨xb, 0, none⟩ = some (.slice A6 n6 c6) := (hbw.cell (p := ⟨xb, 0, none⟩) hl2).trans z0; have qw51 : w5.cell? ⟨xb, 1, none⟩ = some (.slice A6' m6 c6') := (hbw.cell (p := ⟨xb, 1, none⟩) hl2).trans z1; have qw52 : w5.cell? ⟨xb, 2, none⟩ = some (.int .i64 f2) := (hbw.cell (p := ⟨xb, 2, none⟩) hl2).trans z2; have qw53 : w5.cell? ⟨b, off + i * 3 + 2, none⟩ = some (.slice ca cm cc) := (hbw.cell (p := ⟨b, off + i * 3 + 2, none⟩) hb5).trans t2; have HR5 := Lib.hid hr5; clear hr5)
                            | (go_at_call 27; ((with_reducible refine (HCr.out _ _ _ (by first | exact hbw | exact hbw.drew) (by first | exact HR5.out | exact HR5.out.below (Below.drew (Below.refl _ _)))).mono ?_)); rintro r w6 ⟨A8, n8, c8, A8', m8, c8', rfl, hD6, hb6⟩; have hbw6 : Below wc.heap.size wc w6 := (Below.call (by first | exact hbw | exact hbw.drew) hb6); have qw60 : w6.cell? ⟨xb, 0, none⟩ = some (.slice A6 n6 c6) := (hbw6.cell (p := ⟨xb, 0, none⟩) hl2).trans z0; have qw61 : w6.cell? ⟨xb, 1, none⟩ = some (.slice A6' m6 c6') := (hbw6.cell (p := ⟨xb, 1, none⟩) hl2).trans z1; have qw62 : w6.cell? ⟨xb, 2, none⟩ = some (.int .i64 f2) := (hbw6.cell (p := ⟨xb, 2, none⟩) hl2).trans z2; have qw63 : w6.cell? ⟨b, off + i * 3 + 2, none⟩ = some (.slice ca cm cc) := (hbw6.cell (p := ⟨b, off + i * 3 + 2, none⟩) hb5).trans t2; have HD6 := Lib.hid hD6; have HI6 := Lib.hid (HI5.out.call hbw6); obtain ⟨d0, d1, d2, f0, f1, f2_⟩ := HI6.out.st.box; have hld := HI6.out.st.lt; clear hD6))
                        all_goals
                          have HI8 := Lib.hid (HI6.out.store HD6.out HIn.out)
                          clear hbw hbw6
                          go_wp2_with fail
                          go_roundw
                          case rel => exact ⟨i + 1, by omega, by go_num, Lib.hid ⟨_, _, _, _, _, _, _, HI8.out⟩⟩
                          case measure => simp [intOf]; omega
                  · have h6' : (30 : Int) < cm := by omega
                    have h5' : ¬ (300 : Int) < xt.size := by omega
                    go_wp2_with (go_at_call 7; with_reducible refine (HAw.out _ HI3.out.bel).mono ?_; rintro r w4 ⟨rfl, b4⟩; have HB4 := Lib.hid b4; clear b4)
                    go_ret
                    exact ⟨rfl, HEnd.out _ (HI3.out.bel.call HB4.out)⟩
                · have h5' : (300 : Int) < xt.size := by omega
                  go_wp2_with (go_at_call 7; with_reducible refine (HAw.out _ HI3.out.bel).mono ?_; rintro r w4 ⟨rfl, b4⟩; have HB4 := Lib.hid b4; clear b4)
                  go_ret
                  exact ⟨rfl, HEnd.out _ (HI3.out.bel.call HB4.out)⟩
            · as_aux_lemma =>
                obtain rfl : i = N := by omega
                have htop2 : topL S ≤ 36 := by have := hI.inv.top_le; omega
                obtain ⟨g, hg⟩ : ∃ g : Nat, (g : Int) = topL S + 1 := ⟨(topL S + 1).toNat, by omega⟩
                have HNi := Lib.hid (hI.inv.ninv (by omega) hg)
                have HG := Lib.hid hg
                clear hI hg
                generalize topL S = tp at *
                go_wp2_with fail
                with_reducible refine HTp.out.mono ?_
                rintro r w4 ⟨rfl, b4⟩
                have H1 : Hid (CkN w0 w4 db A3 n3 c3 A3' m3 c3' S g [] (.slice none 0 0)) := Lib.hid ⟨HI3.out.bel.call b4, HI3.out.st.call b4, HI3.out.dev.below b4, TRow.nil _ _, HNi.out, HI3.out.new⟩
                clear b4 d0 d1 d2 f0 f1 f2 hld HTp HNi HI3
                go_wp2_with (go_at_call 23; with_reducible refine (HBg.out _).mono ?_; rintro r w5 ⟨rfl, rfl⟩)
                go_loopw [16, 17, 18, 19] (fun s16 s17 s18 s19 wr => ∃ (i p st : Nat) (Ar : Option Addr) (cr : Nat), (i : Int) ≤ k ∧ s19 = .int .i64 i ∧ s16 = .int .i64 p ∧ s17 = .int .i64 st ∧ s18 = .slice Ar i cr ∧ Hid (∃ A n c A' m c' S M, CkN w0 wr db A n c A' m c' S g M (.slice Ar i cr) ∧ p = 16 + tot M ∧ st = g + tot M ∧ M.length = i)) (fun _ _ _ s19 _ => k - (intOf s19).toNat)
                case atStart => exact ⟨0, 16, g, none, 0, by omega, rfl, rfl, by rw [HG.out], rfl, Lib.hid ⟨_, _, _, _, _, _, _, _, H1.out, rfl, rfl, rfl⟩⟩
                case round =>
                  obtain ⟨j, p, st, Ar, cr, hj, rfl, rfl, rfl, rfl, HI⟩ := hrel
                  obtain ⟨A3, n3, c3, A3', m3, c3', S, M, hI, hpM, hsM, hjM⟩ := HI.out
                  have HI3 := Lib.hid hI
                  have HPM := Lib.hid hpM
                  have HSM := Lib.hid hsM
                  have HJM := Lib.hid hjM
                  obtain ⟨d0, d1, d2, f0, f1, f2⟩ := hI.st.box
                  have hld := hI.st.lt
                  clear HI H1
                  by_cases hlt2 : (j : Int) < k
                  · as_aux_lemma =>
                      have hil : j < T.length := by have := HEl.out; omega
                      obtain ⟨b, off, rfl, hbw, hall⟩ := HEv.out.2 (by omega)
                      have c0 := hall j (by rw [SV_length]; exact hil)
                      rw [show (SV T)[j]'(by rw [SV_length]; exact hil) = .string T[j] from by simp [SV]] at c0
                      have HC0 := Lib.hid c0
                      have HBW := Lib.hid hbw
                      have hb' := Nat.lt_of_lt_of_le hbw HI3.out.bel.size
                      have t0 := (HI3.out.bel.cell (p := ⟨b, off + j, none⟩) hbw).trans c0
                      clear c0 hbw hall
                      generalize T[j] = xt at *
                      by_cases h7 : (xt.size : Int) ≤ 100
                      · obtain ⟨S2, p2, st2, e2, hX, hcase⟩ : ∃ S2 p2 st2 e2, putR S [] (-1) (p : Nat) (g : Nat) (j : Nat) (st : Nat) xt = ⟨S2, [], -1, p2, st2, e2⟩ ∧
                            ((e2 = 0 ∧ p2 = ((p + cntN xt.size : Nat) : Int) ∧ st2 = ((st + cntN xt.size : Nat) : Int) ∧ NInv S2 g (M ++ [xt])) ∨ e2 = 7) := by
                          by_cases hf : 16 + tot M + cntN xt.size ≤ 32
                          · obtain ⟨S', e, hJ⟩ := hI.inv.put (t := xt) (by omega) (by omega) hf
                            rw [tot_snoc, ← Nat.add_assoc, ← Nat.add_assoc, ← hpM, ← hsM, hjM] at e
                            exact ⟨_, _, _, _, e, .inl ⟨rfl, rfl, rfl, hJ⟩⟩
                          · have e := hI.inv.full (t := xt) (by omega) (by omega) hf (-1) (by omega) (st : Nat)
                            rw [← hpM, hjM] at e
                            exact ⟨_, _, _, _, e, .inr rfl⟩
                        rw [HG.out] at hX
                        have HX := Lib.hid hX
                        have HCs := Lib.hid hcase
                        clear hX hcase hI hpM hsM hjM d0 d1 d2 f0 f1 f2 hld
                        go_upto_region 24 with fail
                        have HPut : Hid (∀ W, Below wr.heap.size wr W → Calls Tryz.prog 8 #[DV A3 n3 c3 A3' m3 c3' (-1), .int .i64 (p : Nat), .int .i64 (tp + 1), .int .i64 (j : Nat), .int .i64 (st : Nat), .string xt] W (RetP W ⟨S2, [], -1, p2, st2, e2⟩)) := Lib.hid (fun W hb => by
                          have := put_any A3 n3 c3 A3' m3 c3' (-1) S [] p (tp + 1) j st xt W (HI3.out.dev.below hb) (Shf.tab_call HT.out (HI3.out.bel.call hb))
                          rwa [HX.out] at this)
                        unfold RetP at HPut
                        dsimp only at HPut
                        go_cut [20, 21, 22, 23] (fun s20 s21 s22 s23 wx => ∃ xb A6 n6 c6 A6' m6 c6', s20 = .pointer (some ⟨xb, 0, none⟩) ∧ s21 = .int .i64 p2 ∧ s22 = .int .i64 st2 ∧ s23 = .int .i64 e2 ∧ Hid (NewD wr wx xb A6 n6 c6 A6' m6 c6' (-1) S2 []))
                        case first =>
                          obtain ⟨y0, y1, y2, -, -, -⟩ := HI3.out.st.box
                          have hl1 := HI3.out.st.lt
                          have ne1 : ¬ wr.heap.size = db := by omega
                          have ne2 : ¬ wr.heap.size = b := by omega
                          go_region_held3 (fun W => W.cell? ⟨db, 0, none⟩ = some (.slice A3 n3 c3) ∧ W.cell? ⟨db, 1, none⟩ = some (.slice A3' m3 c3') ∧ W.cell? ⟨db, 2, none⟩ = some (.int .i64 (-1)) ∧ W.cell? ⟨b, off + j, none⟩ = some (.string xt)) (go_keep)
                            (first
                              | (go_at_call 8; ((with_reducible refine (HPut.out _ (by repeat (first | exact Below.refl _ _ | refine Below.push ?_ _ | refine Below.drew ?_))).mono ?_)); rintro r w5 ⟨A5, n5, c5, A5', m5, c5', rfl, hD5, hb5⟩; obtain ⟨hc, hf⟩ := Dsk.bcell hb5; have hlt5 := Dsk.blt hb5; have hbw : Below wr.heap.size wr w5 := (Below.call (by repeat (first | exact Below.refl _ _ | refine Below.push ?_ _ | refine Below.drew ?_)) hb5); have qw50 : w5.cell? ⟨db, 0, none⟩ = some (.slice A3 n3 c3) := (hbw.cell (p := ⟨db, 0, none⟩) hl1).trans y0; have qw51 : w5.cell? ⟨db, 1, none⟩ = some (.slice A3' m3 c3') := (hbw.cell (p := ⟨db, 1, none⟩) hl1).trans y1; have qw52 : w5.cell? ⟨db, 2, none⟩ = some (.int .i64 (-1)) := (hbw.cell (p := ⟨db, 2, none⟩) hl1).trans y2; have qw53 : w5.cell? ⟨b, off + j, none⟩ = some (.string xt) := (hbw.cell (p := ⟨b, off + j, none⟩) hb').trans t0; have ne5 : ¬ w5.heap.size = db := (by have := hbw.size; omega); have ne6 : ¬ w5.heap.size = b := (by have := hbw.size; omega); have HD5 := Lib.hid hD5; clear hD5))
                          · go_wp2_with fail
                            go_meet
                            exact ⟨_, _, _, _, _, _, _, rfl, rfl, rfl, rfl, Lib.hid (NewD.fresh hbw HD5.out 31)⟩
                          · go_wp2_with fail
                            go_meet
                            exact ⟨_, _, _, _, _, _, _, rfl, rfl, rfl, rfl, Lib.hid (NewD.put hbw HD5.out ((St.new wr none 0 0 none 0 0 0 31).call (Dsk.undrew hb5)) (Nat.le_refl _))⟩
                        case rest =>
                          obtain ⟨xb, A6, n6, c6, A6', m6, c6', rfl, rfl, rfl, rfl, HN6⟩ := hcut
                          have HI5 := Lib.hid (HI3.out.call HN6.out.bel)
                          have hb5 : b < wc.heap.size := Nat.lt_of_lt_of_le hb' HN6.out.bel.size
                          have t5 := (HN6.out.bel.cell (p := ⟨b, off + j, none⟩) hb').trans t0
                          clear t0 HPut hb' HI3
                          rcases HCs.out with ⟨rfl, rfl, rfl, hJ⟩ | rfl
                          · -- it was put
                            obtain ⟨Av, cv, w', hap, hfin⟩ := HI5.out.more HN6.out.dev hJ (by have := HJM.out; omega)
                            have hml : (M ++ [xt]).length = j + 1 := by have := HJM.out; simp; omega
                            rw [hml] at hap hfin
                            have HFin := Lib.hid hfin
                            have HTt : Hid (p + cntN xt.size = 16 + tot (M ++ [xt])) := Lib.hid (by have := HPM.out; rw [tot_snoc]; omega)
                            have HTs : Hid (st + cntN xt.size = g + tot (M ++ [xt])) := Lib.hid (by have := HSM.out; rw [tot_snoc]; omega)
                            have HML := Lib.hid hml
                            obtain ⟨z0, z1, z2, -, -, -⟩ := HN6.out.st.box
                            have hlz := HN6.out.st.lt
                            obtain ⟨d0, d1, d2, f0, f1, f2⟩ := HI5.out.st.box
                            have hld := HI5.out.st.lt
                            have ne1 : ¬ db = b := by have := HBW.out; have := HI5.out.new; omega
                            dsimp only [set3] at hap
                            have HAP := Lib.hid hap
                            clear hap hfin hJ hml
                            go_wp2_with (at_builtin; refine wpList_append_run rfl (.tmp 162) (.tmp 167) 22 22 rfl _ _ rfl rfl (.slice Av (j + 1) cv) w' HAP.out ?_)
                            go_roundw
                            case rel => exact ⟨j + 1, p + cntN xt.size, st + cntN xt.size, Av, cv, by omega, by go_num, rfl, rfl, rfl, Lib.hid ⟨_, _, _, _, _, _, _, _, HFin.out, HTt.out, HTs.out, HML.out⟩⟩
                            case measure => simp [intOf]; omega
                          · -- it did not fit
                            go_wp2_with (go_at_call 7; with_reducible refine (HAw.out _ HI5.out.bel).mono ?_; rintro r w7 ⟨rfl, b7⟩; have HB7 := Lib.hid (HI5.out.bel.call b7); clear b7)
                            go_ret
                            exact ⟨rfl, HEnd.out _ HB7.out⟩
                      · -- a text that is too long
                        have h7' : (100 : Int) < xt.size := by omega
                        go_wp2_with (go_at_call 7; with_reducible refine (HAw.out _ HI3.out.bel).mono ?_; rintro r w7 ⟨rfl, b7⟩; have HB7 := Lib.hid (HI3.out.bel.call b7); clear b7)
                        go_ret
                        exact ⟨rfl, HEnd.out _ HB7.out⟩
                  · as_aux_lemma =>
                      obtain rfl : j = k := by omega
                      have hlast := hI.inv.last (by omega) (t := lt) (by omega) (armF ((lf : Int) - 1)) (by unfold armF; omega) (ints lcs)
                      rw [← hpM, ← hsM, hjM, HG.out] at hlast
                      obtain ⟨S2, W2, f2', p2, st2, e2, hsv, hck, hse, hcs⟩ := hlast
                      have HBy := Lib.hid (HBx.out.of_block (HI3.out.bel.block lb hlb))
                      have hlb' : lb < wr.heap.size := Nat.lt_of_lt_of_le hlb HI3.out.bel.size
                      have HArm : Hid (∀ W, Below wr.heap.size wr W → Calls Tryz.prog 26 #[DV A3 n3 c3 A3' m3 c3' (-1), .int .i64 ((lf : Int) - 1)] W (RetD W S [] (armF ((lf : Int) - 1)))) := Lib.hid (fun W hb => by
                        have := arm_any A3 n3 c3 A3' m3 c3' (-1) S [] ((lf : Int) - 1) W (HI3.out.dev.below hb)
                        rwa [if_pos (HI3.out.inv.good.chk (by omega))] at this)
                      have HPut : Hid (∀ W A n c A' m c', Dev W A n c A' m c' (armF ((lf : Int) - 1)) S [] → Tab W → Calls Tryz.prog 8 #[DV A n c A' m c' (armF ((lf : Int) - 1)), .int .i64 (p : Nat), .int .i64 (tp + 1), .int .i64 (j : Nat), .int .i64 (st : Nat), .string lt] W (RetP W ⟨S2, W2, f2', p2, st2, e2⟩)) := Lib.hid (fun W A n c A' m c' hD hT => by
                        have := put_any A n c A' m c' (armF ((lf : Int) - 1)) S [] p (tp + 1) j st lt W hD hT
                        rwa [hsv] at this)
                      unfold RetP at HPut
                      dsimp only at HPut
                      unfold RetD at HArm
                      have HSc : Hid (∀ W A n c A' m c', Dev W A n c A' m c' (-1) (goAll S2 W2 (cutAt (ints lcs))) [] → Tab W → Calls Tryz.prog 13 #[DV A n c A' m c' (-1), .int .i64 (tp + 1)] W (RetScN W (scanDL (goAll S2 W2 (cutAt (ints lcs))) [] (-1) (tp + 1)) (scanDA (goAll S2 W2 (cutAt (ints lcs))) [] (-1) (tp + 1)) 0)) := Lib.hid (fun W A n c A' m c' hD hT => by
                        have := scan_new A n c A' m c' (-1) (goAll S2 W2 (cutAt (ints lcs))) [] (tp + 1) W hD hT
                        rwa [hse] at this)
                      unfold RetScN at HSc
                      have HCk := Lib.hid hck
                      have HCs := Lib.hid hcs
                      clear hsv hck hse hcs hI hpM hsM hjM d0 d1 d2 f0 f1 f2 hld HPM HSM
                      generalize armF ((lf : Int) - 1) = af at *
                      generalize hSx : goAll S2 W2 (cutAt (ints lcs)) = Sx at *
                      have HSx := Lib.hid hSx
                      clear hSx
                      generalize scanDL Sx [] (-1) (tp + 1) = L1 at *
                      generalize scanDA Sx [] (-1) (tp + 1) = a1 at *
                      go_upto_region 31 with fail
                      go_cut [24, 27] (fun s24 s27 wx => ∃ xb A6 n6 c6 A6' m6 c6', s24 = .pointer (some ⟨xb, 0, none⟩) ∧ s27 = .int .i64 e2 ∧ Hid (NewD wr wx xb A6 n6 c6 A6' m6 c6' f2' S2 W2))
                      case first =>
                        obtain ⟨y0, y1, y2, -, -, -⟩ := HI3.out.st.box
                        have hl1 := HI3.out.st.lt
                        obtain ⟨u0, u1, -, -, -, -⟩ := HBy.out
                        have hw1 : IntKind.i64.wrap (lf : Int) = lf := IntWalk.i64_in _ (by omega)
                        have hw2 : IntKind.i64.wrap ((lf : Int) - 1) = (lf : Int) - 1 := IntWalk.i64_in _ (by omega)
                        have ne1 : ¬ wr.heap.size = db := by omega
                        have ne2 : ¬ wr.heap.size = lb := by omega
                        go_region_held3 (fun W => W.cell? ⟨db, 0, none⟩ = some (.slice A3 n3 c3) ∧ W.cell? ⟨db, 1, none⟩ = some (.slice A3' m3 c3') ∧ W.cell? ⟨db, 2, none⟩ = some (.int .i64 (-1)) ∧ W.cell? ⟨lb, 0, none⟩ = some (.string lt) ∧ W.cell? ⟨lb, 1, none⟩ = some (.int .u8 lf)) (go_keep)
                          (first
                            | (go_at_call 26; ((with_reducible refine (HArm.out _ (by repeat (first | exact Below.refl _ _ | refine Below.push ?_ _ | refine Below.drew ?_))).mono ?_)); rintro r w5 ⟨A5, n5, c5, A5', m5, c5', rfl, hD5, hb5⟩; obtain ⟨hc, hf⟩ := Dsk.bcell hb5; have hlt5 := Dsk.blt hb5; have hbw : Below wr.heap.size wr w5 := (Below.call (by repeat (first | exact Below.refl _ _ | refine Below.push ?_ _ | refine Below.drew ?_)) hb5); have qw50 : w5.cell? ⟨db, 0, none⟩ = some (.slice A3 n3 c3) := (hbw.cell (p := ⟨db, 0, none⟩) hl1).trans y0; have qw51 : w5.cell? ⟨db, 1, none⟩ = some (.slice A3' m3 c3') := (hbw.cell (p := ⟨db, 1, none⟩) hl1).trans y1; have qw52 : w5.cell? ⟨db, 2, none⟩ = some (.int .i64 (-1)) := (hbw.cell (p := ⟨db, 2, none⟩) hl1).trans y2; have qw53 : w5.cell? ⟨lb, 0, none⟩ = some (.string lt) := (hbw.cell (p := ⟨lb, 0, none⟩) hlb').trans u0; have qw54 : w5.cell? ⟨lb, 1, none⟩ = some (.int .u8 lf) := (hbw.cell (p := ⟨lb, 1, none⟩) hlb').trans u1; have ne4 : ¬ w5.heap.size = db := (by have := hbw.size; omega); have ne5 : ¬ w5.heap.size = lb := (by have := hbw.size; omega); have HD5 := Lib.hid hD5; clear hD5)
                            | (go_at_call 8; ((with_reducible refine (HPut.out _ _ _ _ _ _ _ (by first | exact HD5.out | exact HD5.out.new _) (Shf.tab_call HT.out (HI3.out.bel.call (by first | exact hbw | exact hbw.push _)))).mono ?_)); rintro r w6 ⟨A6, n6, c6, A6', m6, c6', rfl, hD6, hb6⟩; obtain ⟨hc6, hf6⟩ := Dsk.bcell hb6; have hlt6 := Dsk.blt hb6; have hbw6 : Below wr.heap.size wr w6 := (Below.call (by first | exact hbw | exact hbw.push _) hb6); have qw60 : w6.cell? ⟨db, 0, none⟩ = some (.slice A3 n3 c3) := (hbw6.cell (p := ⟨db, 0, none⟩) hl1).trans y0; have qw61 : w6.cell? ⟨db, 1, none⟩ = some (.slice A3' m3 c3') := (hbw6.cell (p := ⟨db, 1, none⟩) hl1).trans y1; have qw62 : w6.cell? ⟨db, 2, none⟩ = some (.int .i64 (-1)) := (hbw6.cell (p := ⟨db, 2, none⟩) hl1).trans y2; have qw63 : w6.cell? ⟨lb, 0, none⟩ = some (.string lt) := (hbw6.cell (p := ⟨lb, 0, none⟩) hlb').trans u0; have qw64 : w6.cell? ⟨lb, 1, none⟩ = some (.int .u8 lf) := (hbw6.cell (p := ⟨lb, 1, none⟩) hlb').trans u1; have ne6 : ¬ w6.heap.size = db := (by have := hbw6.size; omega); have ne7 : ¬ w6.heap.size = lb := (by have := hbw6.size; omega); have HD6 := Lib.hid hD6; clear hD6))
                        all_goals
                          go_wp2_with fail
                          go_meet
                          first
                            | exact ⟨_, _, _, _, _, _, _, rfl, rfl, Lib.hid (NewD.fresh hbw6 HD6.out 31)⟩
                            | exact ⟨_, _, _, _, _, _, _, rfl, rfl, Lib.hid (NewD.put hbw6 HD6.out ((St.new w5 none 0 0 none 0 0 0 31).call hb6) hbw.size)⟩
                            | exact ⟨_, _, _, _, _, _, _, rfl, rfl, Lib.hid (NewD.put hbw6 HD6.out ((St.new w5 none 0 0 none 0 0 0 31).call (Dsk.undrew hb6)) hbw.size)⟩
                            | exact ⟨_, _, _, _, _, _, _, rfl, rfl, Lib.hid (NewD.put hbw6 HD6.out (((St.new wr none 0 0 none 0 0 0 31).call (Dsk.undrew hb5)).call hb6) (Nat.le_refl _))⟩
                            | exact ⟨_, _, _, _, _, _, _, rfl, rfl, Lib.hid (NewD.put hbw6 HD6.out (((St.new wr none 0 0 none 0 0 0 31).call hb5).call hb6) (Nat.le_refl _))⟩
                      case rest =>
                        as_aux_lemma =>
                          obtain ⟨xb, A6, n6, c6, A6', m6, c6', rfl, rfl, HN6⟩ := hcut
                          have HI5 := Lib.hid (HI3.out.call HN6.out.bel)
                          have HBz := Lib.hid (HBy.out.of_block (HN6.out.bel.block lb hlb'))
                          have hlb5 : lb < wc.heap.size := Nat.lt_of_lt_of_le hlb' HN6.out.bel.size
                          have HLd := Lib.hid (HLc.out.below HI5.out.bel)
                          clear HArm HPut HI3 HBy hlb'
                          go_upto_region 32 with fail
                          go_cut [197] (fun s197 wx => s197 = .bool false ∧ wc = wx)
                          case first =>
                            rcases HCs.out with ⟨rfl, -⟩ | ⟨rfl, -⟩ | ⟨rfl | rfl, -⟩
                            all_goals
                              go_wp2_with fail
                              go_meet
                              exact ⟨rfl, rfl⟩
                          case rest =>
                            obtain ⟨rfl, rfl⟩ := hcut
                            go_upto_region 34 with fail
                            have HMa : Hid (∀ W, Below wc.heap.size wc W → Calls Tryz.prog 28 #[.slice lA lm lc] W fun r w' => ∃ B d, r = .returned (.slice B lm d) ∧ RV w' B lm 1 (IV (ints lcs)) ∧ Below W.heap.size W w') := Lib.hid (fun W hb => many_any lA lm lc lcs W (HLd.out.below hb) (by omega))
                            have HCr : Hid (∀ W B d, Below wc.heap.size wc W → RV W B lm 1 (IV (ints lcs)) → Calls Tryz.prog 27 #[DV A6 n6 c6 A6' m6 c6' f2', .slice B lm d] W (RetD W Sx [] (-1))) := Lib.hid (fun W B d hb hr => by rw [← HSx.out]; exact crash_yes A6 n6 c6 A6' m6 c6' f2' S2 W2 B lm d (ints lcs) W (HN6.out.dev.below hb) hr HCk.out)
                            unfold RetD at HCr
                            go_cut [28, 30] (fun s28 s30 wx => ∃ B m7 c7, s28 = .slice B m7 c7 ∧ s30 = .int .i64 0 ∧ Hid (Below wc.heap.size wc wx ∧ RV wx B m7 1 (SV L1) ∧ ∀ b off, B = some ⟨b, off, none⟩ → wc.heap.size ≤ b))
                            case first =>
                              obtain ⟨z0, z1, z2, -, -, -⟩ := HN6.out.st.box
                              have hl2 := HN6.out.st.lt
                              obtain ⟨-, -, u2, -, -, -⟩ := HBz.out
                              go_region_held3 (fun W => W.cell? ⟨xb, 0, none⟩ = some (.slice A6 n6 c6) ∧ W.cell? ⟨xb, 1, none⟩ = some (.slice A6' m6 c6') ∧ W.cell? ⟨xb, 2, none⟩ = some (.int .i64 f2') ∧ W.cell? ⟨lb, 2, none⟩ = some (.slice lA lm lc)) (go_keep)
                                (first
                                  | (go_at_call 28; ((with_reducible refine (HMa.out _ (by repeat (first | exact Below.refl _ _ | refine Below.push ?_ _ | refine Below.drew ?_))).mono ?_)); rintro r w5 ⟨B5, e5, rfl, hr5, hb5⟩; have hbw : Below wc.heap.size wc w5 := (Below.call (by repeat (first | exact Below.refl _ _ | refine Below.push ?_ _ | refine Below.drew ?_)) hb5); have qw50 : w5.cell? ⟨xb, 0, none⟩ = some (.slice A6 n6 c6) := (hbw.cell (p := ⟨xb, 0, none⟩) hl2).trans z0; have qw51 : w5.cell? ⟨xb, 1, none⟩ = some (.slice A6' m6 c6') := (hbw.cell (p := ⟨xb, 1, none⟩) hl2).trans z1; have qw52 : w5.cell? ⟨xb, 2, none⟩ = some (.int .i64 f2') := (hbw.cell (p := ⟨xb, 2, none⟩) hl2).trans z2; have qw53 : w5.cell? ⟨lb, 2, none⟩ = some (.slice lA lm lc) := (hbw.cell (p := ⟨lb, 2, none⟩) hlb5).trans u2; have HR5 := Lib.hid hr5; clear hr5)
                                  | (go_at_call 27; ((with_reducible refine (HCr.out _ _ _ (by first | exact hbw | exact hbw.drew) (by first | exact HR5.out | exact HR5.out.below (Below.drew (Below.refl _ _)))).mono ?_)); rintro r w6 ⟨A8, n8, c8, A8', m8, c8', rfl, hD6, hb6⟩; have hbw6 : Below wc.heap.size wc w6 := (Below.call (by first | exact hbw | exact hbw.drew) hb6); have qw60 : w6.cell? ⟨xb, 0, none⟩ = some (.slice A6 n6 c6) := (hbw6.cell (p := ⟨xb, 0, none⟩) hl2).trans z0; have qw61 : w6.cell? ⟨xb, 1, none⟩ = some (.slice A6' m6 c6') := (hbw6.cell (p := ⟨xb, 1, none⟩) hl2).trans z1; have qw62 : w6.cell? ⟨xb, 2, none⟩ = some (.int .i64 f2') := (hbw6.cell (p := ⟨xb, 2, none⟩) hl2).trans z2; have qw63 : w6.cell? ⟨lb, 2, none⟩ = some (.slice lA lm lc) := (hbw6.cell (p := ⟨lb, 2, none⟩) hlb5).trans u2; have HD6 := Lib.hid hD6; clear hD6)
                                  | (go_at_call 13; ((with_reducible refine (HSc.out _ _ _ _ _ _ _ (by first | exact HD6.out | exact HD6.out.below (Below.drew (Below.refl _ _))) (Shf.tab_call HT.out (HI5.out.bel.call (by first | exact hbw6 | exact hbw6.drew)))).mono ?_)); rintro r w7 ⟨B7, m7, c7, rfl, hr7, hb7, hn7⟩; have hbw7 : Below wc.heap.size wc w7 := (Below.call (by first | exact hbw6 | exact hbw6.drew) hb7); have qw70 : w7.cell? ⟨xb, 0, none⟩ = some (.slice A6 n6 c6) := (hbw7.cell (p := ⟨xb, 0, none⟩) hl2).trans z0; have qw71 : w7.cell? ⟨xb, 1, none⟩ = some (.slice A6' m6 c6') := (hbw7.cell (p := ⟨xb, 1, none⟩) hl2).trans z1; have qw72 : w7.cell? ⟨xb, 2, none⟩ = some (.int .i64 f2') := (hbw7.cell (p := ⟨xb, 2, none⟩) hl2).trans z2; have qw73 : w7.cell? ⟨lb, 2, none⟩ = some (.slice lA lm lc) := (hbw7.cell (p := ⟨lb, 2, none⟩) hlb5).trans u2; have HR7 := Lib.hid hr7; have HN7 : Hid (∀ b off, B7 = some ⟨b, off, none⟩ → wc.heap.size ≤ b) := Lib.hid (fun b off e => Nat.le_trans hbw6.size (hn7 b off e)); clear hr7 hn7))
                              all_goals
                                go_wp2_with fail
                                go_meet
                                first
                                  | exact ⟨_, _, _, rfl, rfl, Lib.hid ⟨hbw7, HR7.out, HN7.out⟩⟩
                                  | exact ⟨_, _, _, rfl, rfl, Lib.hid ⟨hbw7.drew, HR7.out.below (Below.drew (Below.refl _ _)), HN7.out⟩⟩
                            case rest =>
                              obtain ⟨B7, m7, c7, rfl, rfl, HR7⟩ := hcut
                              have HI7 := Lib.hid (HI5.out.call HR7.out.1)
                              have hl7 := HR7.out.2.1.sec
                              obtain ⟨u0, -, -, -, -, -⟩ := HBz.out.of_block (HR7.out.1.block lb hlb5)
                              have hlb7 : lb < wc.heap.size := Nat.lt_of_lt_of_le hlb5 HR7.out.1.size
                              clear HMa HCr HSc HN6 HLd
                              as_aux_lemma =>
                                obtain ⟨vA, vc, hv0, hrv0⟩ := HI7.out.row.val
                                obtain ⟨rfl, hjm, rfl⟩ : Ar = vA ∧ j = M.length ∧ cr = vc := by injection hv0 with e1 e2 e3; exact ⟨e1, e2, e3⟩
                                rw [← hjm] at hrv0
                                have HRv := Lib.hid hrv0
                                have HJm := Lib.hid hjm
                                have HL7 := Lib.hid hl7
                                clear hv0 hrv0 hjm hl7
                                have hcs : (e2 = 0 ∨ e2 = 21) ∧ L1 = M ++ [lt] ∨ (e2 = 21 ∨ e2 = 7) ∧ L1 = M := by
                                  rcases HCs.out with ⟨h, h'⟩ | ⟨h, h'⟩ | ⟨h, h'⟩
                                  · exact .inl ⟨.inl h, h'⟩
                                  · exact .inl ⟨.inr h, h'⟩
                                  · exact .inr ⟨h, h'⟩
                                rcases hcs with ⟨h7, rfl⟩ | ⟨h7, rfl⟩
                                · -- the last one is there
                                  have hl7 := HL7.out
                                  have hml : (M ++ [lt]).length = j + 1 := by have := HJm.out; simp; omega
                                  have hm7 : ¬ (m7 : Int) = j := by rw [hml] at hl7; omega
                                  have hm8 : (m7 : Int) ≤ 2000 := by rw [hml] at hl7; omega
                                  have HSn := Lib.hid (same_no B7 m7 c7 Ar j cr wc hm7)
                                  have hW1 := new1 wc (.cells #[.string lt] 9)
                                  have hrowA := HI7.out.row.call hW1
                                  obtain ⟨v', w', hap, hrow', hgr, -⟩ := hrowA.append ⟨wc.heap.size, 0, none⟩ 1 lt (by simp [go_sem]) (by have := HJm.out; omega) (by have := HI7.out.bel.size; simp; omega)
                                  obtain ⟨Av, cv, rfl, hrv⟩ := hrow'.val
                                  rw [hml] at hrv
                                  have hr8 := rv_other (HR7.out.2.1.below hW1) hgr (fun b off e he => by have h1 := (HI5.out.row.lt b he).2; have h2 := HR7.out.2.2 b off e; omega)
                                  have HB8 := Lib.hid ((HI7.out.bel.push (.cells #[.string lt] 9)).grown hgr (by have := HI7.out.bel.size; simp; omega) (fun g hg => (hrowA.lt g hg).1))
                                  have HSa := Lib.hid (Slt.same_any B7 m7 c7 Av (j + 1) cv (M ++ [lt]) w' hr8 hrv hm8)
                                  rw [hml] at hap
                                  have HAP := Lib.hid hap
                                  clear hap hrv hr8 hrow' hgr hrowA hW1 hml hm7 hm8 hl7
                                  go_wp2_with fail
                                  with_reducible refine HSn.out.mono ?_
                                  rintro r w9 ⟨rfl, rfl⟩
                                  clear HSn
                                  rcases h7 with rfl | rfl
                                  all_goals
                                    go_wp2_with (first | (at_builtin; refine wpList_append_run rfl (.tmp 219) (.tmp 222) 22 22 rfl _ _ rfl rfl (.slice Av (j + 1) cv) w' HAP.out ?_) | (go_at_call 15; with_reducible refine HSa.out.mono ?_; rintro r w9 ⟨rfl, b9⟩; have HB9 := Lib.hid (HB8.out.call b9); clear b9) | (go_at_call 7; with_reducible refine (HAw.out _ HB9.out).mono ?_; rintro r w10 ⟨rfl, b10⟩; have HB10 := Lib.hid (HB9.out.call b10); clear b10))
                                    go_ret
                                    exact ⟨rfl, HEnd.out _ HB10.out⟩
                                · -- it is not
                                  have HSa := Lib.hid (Slt.same_any B7 m7 c7 Ar j cr L1 wc HR7.out.2.1 HRv.out (by have := HJm.out; have := HL7.out; omega))
                                  go_wp2_with fail
                                  with_reducible refine HSa.out.mono ?_
                                  rintro r w9 ⟨rfl, b9⟩
                                  have HB9 := Lib.hid (HI7.out.bel.call b9)
                                  clear b9 HSa
                                  rcases h7 with rfl | rfl
                                  all_goals
                                    go_wp2_with (go_at_call 7; with_reducible refine (HAw.out _ HB9.out).mono ?_; rintro r w10 ⟨rfl, b10⟩; have HB10 := Lib.hid (HB9.out.call b10); clear b10)
                                    go_ret
                                    exact ⟨rfl, HEnd.out _ HB10.out⟩
        · have h4' : (30 : Int) < lm := by omega
          go_wp2_with (go_at_call 7; with_reducible refine (HAw.out _ (Below.refl _ _)).mono ?_; rintro r w1 ⟨rfl, b1⟩; have HB1 := Lib.hid b1; clear b1)
          go_ret
          exact ⟨rfl, HEnd.out _ HB1.out⟩
      · have h3' : (100 : Int) < lt.size := by omega
        go_wp2_with (go_at_call 7; with_reducible refine (HAw.out _ (Below.refl _ _)).mono ?_; rintro r w1 ⟨rfl, b1⟩; have HB1 := Lib.hid b1; clear b1)
        go_ret
        exact ⟨rfl, HEnd.out _ HB1.out⟩
    · have h2' : (6 : Int) < k := by omega
      go_wp2_with (go_at_call 7; with_reducible refine (HAw.out _ (Below.refl _ _)).mono ?_; rintro r w1 ⟨rfl, b1⟩; have HB1 := Lib.hid b1; clear b1)
      go_ret
      exact ⟨rfl, HEnd.out _ HB1.out⟩
  · have h1' : (4 : Int) < N := by omega
    go_wp2_with (go_at_call 7; with_reducible refine (HAw.out _ (Below.refl _ _)).mono ?_; rintro r w1 ⟨rfl, b1⟩; have HB1 := Lib.hid b1; clear b1)
    go_ret
    exact ⟨rfl, HEnd.out _ HB1.out⟩

end Go.Proofs.YtmgpngfgmfdldaaGreatDoor.Jrn
