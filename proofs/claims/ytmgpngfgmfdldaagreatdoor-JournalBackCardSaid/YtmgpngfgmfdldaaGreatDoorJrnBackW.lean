/- The walk of JournalBack. -/
import Derived.Test.YtmgpngfgmfdldaaGreatDoorJrnAw
import Derived.Test.YtmgpngfgmfdldaaGreatDoorTRw
import Derived.Test.YtmgpngfgmfdldaaGreatDoorSltR
import Derived.Test.YtmgpngfgmfdldaaGreatDoorDskS
import Derived.Deep.RegionHeld3
import Derived.Deep.DeepCutAuto
namespace Go.Proofs.YtmgpngfgmfdldaaGreatDoor.Jrn
open Go.RowKit Go.Proofs.YtmgpngfgmfdldaaGreatDoor.Dsk Go.Proofs.YtmgpngfgmfdldaaGreatDoor.Sht Go.Proofs.YtmgpngfgmfdldaaGreatDoor.Shf Go.Proofs.YtmgpngfgmfdldaaGreatDoor.Slt
open Go.Proofs.YtmgpngfgmfdldaaGreatDoor.Crc (Tab)

theorem sameD_self (S : List ByteArray) (W : List Wr) (f : Int) : sameD S W f S W f = true := by simp [sameD]

/-- What holds ahead of each round. -/
structure BkI (w wr : World) (db : Nat) (A : Option Addr) (n c : Nat) (A' : Option Addr) (m c' : Nat) (S : List ByteArray) (N G : Nat) (M : List ByteArray) (v : Value) : Prop where
  bel : Below w.heap.size w wr
  st : St wr db A n c A' m c' (-1)
  dev : Dev wr A n c A' m c' (-1) S []
  row : TRow wr w.heap.size v M
  inv : JB S N G M
  new : w.heap.size ≤ db
theorem BkI.call {w wr w' : World} {db : Nat} {A : Option Addr} {n c : Nat} {A' : Option Addr} {m c' : Nat} {S : List ByteArray} {N G : Nat} {M : List ByteArray} {v : Value} (h : BkI w wr db A n c A' m c' S N G M v) (hb' : Below wr.heap.size wr w') : BkI w w' db A n c A' m c' S N G M v :=
  ⟨h.bel.call hb', h.st.call hb', h.dev.below hb', h.row.call hb', h.inv, h.new⟩

theorem good_64 {S : List ByteArray} (h : Slt.Good S) : ∀ s ∈ S, s.size = 64 := fun s hs => (secOk_iff S).1 h.ok s hs

set_option maxRecDepth 100000 in
set_option maxHeartbeats 4000000 in
theorem walk_back (nn : Nat) (hnn : nn < 256) (gg : Nat) (hgg : gg < 65536) (E : Option Addr) (k ec : Nat) (L : List ByteArray) (w : World) (hT : Tab w) (hL : RV w E k 1 (SV L)) :
    Calls Tryz.prog 5 #[.int .u8 nn, .int .u16 gg, .slice E k ec] w fun r w' => r = .returned (.bool true) ∧ Below w.heap.size w w' := by
  have HAw := Lib.hid (fun W (hb : Below w.heap.size w W) => awakeJ_any W (Shf.tab_call hT hb))
  by_cases h2 : (k : Int) ≤ 20
  · obtain ⟨N, hN⟩ : ∃ N, N = 16 + nn % 32 := ⟨_, rfl⟩
    have hN1 : 16 ≤ N := by omega
    have hN2 : N ≤ 47 := by omega
    have HNn := Lib.hid hN
    clear hN
    obtain ⟨G, hG⟩ : ∃ G, G = 1 + gg := ⟨_, rfl⟩
    have hG1 : 1 ≤ G := by omega
    have hG2 : G ≤ 65536 := by omega
    have HN := Lib.hid (fun (z : Int) W (hz : z = (N : Nat)) => (by subst hz; exact new_yes N W (by omega) (by omega) : Calls Tryz.prog 22 #[.int .i64 z] W (RetDE W (newS N) [] (-1) 0)))
    have HM0 := Lib.hid (jb_new hN1 (by omega) G)
    unfold RetDE at HN
    obtain ⟨b0, hb0⟩ : ∃ b0 : Nat, b0 = 2 * (N / 4) := ⟨_, rfl⟩
    have HBg := Lib.hid (fun (z : Int) W (hz : z = (N : Nat)) => (by
      subst hz
      have := begin_any N W
      rwa [show 2 * sizR N = (b0 : Int) from by rw [sizR_of (by omega) (by omega), hb0]; push_cast; rfl] at this : Calls Tryz.prog 23 #[.int .i64 z] W fun r w' => r = .returned (.int .i64 (b0 : Nat)) ∧ W = w'))
    have HB0e := Lib.hid hb0
    have HGe := Lib.hid hG
    have HGw : Hid (IntKind.i64.wrap (1 + IntKind.i64.wrap (gg : Int)) = (G : Nat)) := Lib.hid (by rw [IntWalk.i64_in (gg : Int) (by omega), IntWalk.i64_in _ (by omega)]; omega)
    have HT := Lib.hid hT
    have HLv := Lib.hid hL
    have HLl := Lib.hid hL.sec
    clear hT hL
    have hb9 : b0 ≤ 22 := by omega
    clear hb0 hG
    go_enter Tryz.func5, Tryz.ntmps5
    go_wp2_with (go_at_call 22; (with_reducible refine (HN.out _ _ (by have := HNn.out; omega)).mono ?_); rintro r w1 ⟨A1, n1, c1, A1', m1, c1', rfl, hd1, b1⟩; obtain rfl : N = n1 := by have := hd1.sec.sec; rwa [show (newS N).length = N from by simp [newS]] at this)
    have HB1 := Lib.hid (((Below.refl w.heap.size w).call b1).push (D33 A1 N c1 A1' m1 c1' (-1)))
    have hwd : w.heap.size ≤ w1.heap.size := b1.size
    have H0 : Hid (BkI w (w1.alloc (D33 A1 N c1 A1' m1 c1' (-1))) w1.heap.size A1 N c1 A1' m1 c1' (newS N) N G [] (.slice none 0 0)) := Lib.hid
      ⟨HB1.out, St.new w1 A1 N c1 A1' m1 c1' (-1) 31, hd1.new _, TRow.nil _ _, HM0.out, hwd⟩
    clear b1 hd1 HN HM0 HB1 hwd
    generalize HW2 : w1.alloc (D33 A1 N c1 A1' m1 c1' (-1)) = w2 at *
    generalize w1.heap.size = db at *
    obtain ⟨d0, d1, d2, f0, f1, f2⟩ := H0.out.st.box
    have hld := H0.out.st.lt
    go_wp2_with (go_at_call 23; with_reducible refine (HBg.out _ _ rfl).mono ?_; rintro r w3 ⟨rfl, rfl⟩)
    clear d0 d1 d2 f0 f1 f2 hld HW2
    go_loopw [10, 11, 12, 13] (fun s10 s11 s12 s13 wr => ∃ (i j p st : Nat) (Ar : Option Addr) (cr : Nat), (i : Int) ≤ k ∧ s13 = .int .i64 i ∧ s10 = .int .i64 p ∧ s11 = .int .i64 st ∧ s12 = .slice Ar j cr ∧ (j : Int) ≤ i ∧ (p : Int) ≤ 47 ∧ (st : Int) ≤ 1 + p ∧ 1 ≤ (st : Int) ∧ Hid (∃ A n c A' m c' S M, BkI w wr db A n c A' m c' S N G M (.slice Ar j cr) ∧ p = b0 + tot M ∧ M.length = j)) (fun _ _ _ s13 _ => k - (intOf s13).toNat)
    case atStart => exact ⟨0, 0, b0, 1, none, 0, by omega, rfl, rfl, rfl, rfl, by omega, by omega, by omega, by omega, Lib.hid ⟨_, _, _, _, _, _, _, _, H0.out, rfl, rfl⟩⟩
    case round =>
      obtain ⟨i, j, p, st, Ar, cr, hi, rfl, rfl, rfl, rfl, hji, hp47, hs48, hs1, HI⟩ := hrel
      obtain ⟨A3, n3, c3, A3', m3, c3', S, M, hI, hpM, hjM⟩ := HI.out
      have HI3 := Lib.hid hI
      have HPM := Lib.hid hpM
      have HJM := Lib.hid hjM
      obtain ⟨d0, d1, d2, f0, f1, f2⟩ := hI.st.box
      have hld := hI.st.lt
      have hfit := hI.inv.fit
      clear HI H0
      by_cases hlt : (i : Int) < k
      · have hil : i < L.length := by have := HLl.out; omega
        obtain ⟨b, off, rfl, hbw, hall⟩ := HLv.out.2 (by omega)
        have c0 := hall i (by rw [SV_length]; exact hil)
        rw [show (SV L)[i]'(by rw [SV_length]; exact hil) = .string L[i] from by simp [SV]] at c0
        have HC0 := Lib.hid c0
        have HBW := Lib.hid hbw
        have hb' := Nat.lt_of_lt_of_le hbw HI3.out.bel.size
        have t0 := (HI3.out.bel.cell (p := ⟨b, off + i, none⟩) hbw).trans c0
        clear c0 hbw hall
        generalize L[i] = xt at *
        by_cases h3 : (xt.size : Int) ≤ 200
        · -- what the put answers
          have hc1 := cnt_pos xt
          have hc2 : cntN xt.size ≤ 6 := by unfold cntN; omega
          obtain ⟨S2, p2, st2, e2, hX, hcase⟩ : ∃ S2 p2 st2 e2, putR S [] (-1) (p : Nat) (G : Nat) (j : Nat) (st : Nat) xt = ⟨S2, [], -1, p2, st2, e2⟩ ∧
              ((e2 = 0 ∧ p2 = ((p + cntN xt.size : Nat) : Int) ∧ st2 = ((st + cntN xt.size : Nat) : Int) ∧ JB S2 N G (M ++ [xt]) ∧ p + cntN xt.size ≤ N) ∨ (e2 = 7 ∧ p2 = p ∧ st2 = st ∧ S2 = S ∧ ¬ p + cntN xt.size ≤ N)) := by
            have hb0 := HB0e.out
            by_cases hf : p + cntN xt.size ≤ N
            · obtain ⟨S', e, hJ⟩ := hI.inv.put (st := st) (t := xt) hG1 (by omega) (by omega) (by omega) (by omega) (by omega) (by rw [← hb0, ← hpM]; exact hf)
              rw [tot_snoc, ← hb0, ← Nat.add_assoc, ← hpM, hjM] at e
              exact ⟨_, _, _, _, e, .inl ⟨rfl, rfl, rfl, hJ, hf⟩⟩
            · have e := hI.inv.full (z := (st : Nat)) (t := xt) hG1 (by omega) (by omega) (by omega) (by rw [← hb0, ← hpM]; exact hf)
              rw [← hb0, ← hpM, hjM] at e
              exact ⟨_, _, _, _, e, .inr ⟨rfl, rfl, rfl, rfl, hf⟩⟩
          have HX := Lib.hid hX
          have HCs := Lib.hid hcase
          have HFi : Hid (∀ W (z : Int), z = (xt.size : Nat) → Calls Tryz.prog 20 #[.int .i64 (N : Nat), .int .i64 (p : Nat), .int .i64 z] W fun r w' => r = .returned (.bool (e2 == 0)) ∧ W = w') := Lib.hid (fun W z hz => by
            subst hz
            have := fits_any N p xt.size W (by omega)
            rwa [show fitsR N p xt.size = (e2 == 0) from by
              have h4 := sizR_of (n := N) (by omega) (by omega)
              have h5 := cntR_of (t := xt) (by omega)
              have h6 := HPM.out
              have h7 := HB0e.out
              unfold fitsR
              rw [h4, h5]
              rcases HCs.out with ⟨rfl, -, -, -, hf⟩ | ⟨rfl, -, -, -, hf⟩
              · rw [decide_eq_true (by omega)]; rfl
              · rw [decide_eq_false (by omega)]; rfl] at this)
          clear hX hcase hI hpM hjM d0 d1 d2 f0 f1 f2 hld
          go_upto_region 14 with fail
          have HPut : Hid (∀ W (z : Int), Below wr.heap.size wr W → z = (G : Nat) → Calls Tryz.prog 8 #[DV A3 n3 c3 A3' m3 c3' (-1), .int .i64 (p : Nat), .int .i64 z, .int .i64 (j : Nat), .int .i64 (st : Nat), .string xt] W (RetP W ⟨S2, [], -1, p2, st2, e2⟩)) := Lib.hid (fun W z hb hz => by
            subst hz
            have := put_any A3 n3 c3 A3' m3 c3' (-1) S [] p G j st xt W (HI3.out.dev.below hb) (Shf.tab_call HT.out (HI3.out.bel.call hb))
            rwa [HX.out] at this)
          unfold RetP at HPut
          dsimp only at HPut
          go_cut [14, 15, 16, 17] (fun s14 s15 s16 s17 wx => ∃ xb A6 n6 c6 A6' m6 c6', s14 = .pointer (some ⟨xb, 0, none⟩) ∧ s15 = .int .i64 p2 ∧ s16 = .int .i64 st2 ∧ s17 = .int .i64 e2 ∧ Hid (NewD wr wx xb A6 n6 c6 A6' m6 c6' (-1) S2 []))
          case first =>
            obtain ⟨x0, x1, x2, -, -, -⟩ := HI3.out.st.box
            have hl1 := HI3.out.st.lt
            have ne1 : ¬ wr.heap.size = db := by omega
            have ne2 : ¬ wr.heap.size = b := by omega
            go_region_held3 (fun W => W.cell? ⟨db, 0, none⟩ = some (.slice A3 n3 c3) ∧ W.cell? ⟨db, 1, none⟩ = some (.slice A3' m3 c3') ∧ W.cell? ⟨db, 2, none⟩ = some (.int .i64 (-1)) ∧ W.cell? ⟨b, off + i, none⟩ = some (.string xt)) (go_keep)
              (first
                | (go_at_call 8; ((with_reducible refine (HPut.out _ _ (by repeat (first | exact Below.refl _ _ | refine Below.push ?_ _ | refine Below.drew ?_)) (by first | exact HGw.out | (have := HGe.out; omega))).mono ?_)); rintro r w5 ⟨A5, n5, c5, A5', m5, c5', rfl, hD5, hb5⟩; obtain ⟨hc, hf⟩ := Dsk.bcell hb5; have hlt5 := Dsk.blt hb5; have hbw : Below wr.heap.size wr w5 := (Below.call (by repeat (first | exact Below.refl _ _ | refine Below.push ?_ _ | refine Below.drew ?_)) hb5); have qw50 : w5.cell? ⟨db, 0, none⟩ = some (.slice A3 n3 c3) := (hbw.cell (p := ⟨db, 0, none⟩) hl1).trans x0; have qw51 : w5.cell? ⟨db, 1, none⟩ = some (.slice A3' m3 c3') := (hbw.cell (p := ⟨db, 1, none⟩) hl1).trans x1; have qw52 : w5.cell? ⟨db, 2, none⟩ = some (.int .i64 (-1)) := (hbw.cell (p := ⟨db, 2, none⟩) hl1).trans x2; have qw53 : w5.cell? ⟨b, off + i, none⟩ = some (.string xt) := (hbw.cell (p := ⟨b, off + i, none⟩) hb').trans t0; have ne5 : ¬ w5.heap.size = db := (by have := hbw.size; omega); have ne6 : ¬ w5.heap.size = b := (by have := hbw.size; omega); have HD5 := Lib.hid hD5; clear hD5))
            · go_wp2_with fail
              go_meet
              exact ⟨_, _, _, _, _, _, _, rfl, rfl, rfl, rfl, Lib.hid (NewD.fresh hbw HD5.out 31)⟩
            · go_wp2_with fail
              go_meet
              exact ⟨_, _, _, _, _, _, _, rfl, rfl, rfl, rfl, Lib.hid (NewD.put hbw HD5.out ((St.new wr none 0 0 none 0 0 0 31).call (Dsk.undrew hb5)) (Nat.le_refl _))⟩
          case rest =>
            obtain ⟨xb, A6, n6, c6, A6', m6, c6', rfl, rfl, rfl, rfl, HN6⟩ := hcut
            have HI5 := Lib.hid (HI3.out.call HN6.out.bel)
            have hb5 : b < wc.heap.size := Nat.lt_of_lt_of_le hb' HN6.out.bel.size
            have t5 := (HN6.out.bel.cell (p := ⟨b, off + i, none⟩) hb').trans t0
            clear t0 HPut hb'
            rcases HCs.out with ⟨rfl, rfl, rfl, hJ, hf⟩ | ⟨rfl, rfl, rfl, rfl, hf⟩
            · -- it was put
              obtain ⟨v0, c0, hv0, hrv0⟩ := HI5.out.row.val
              obtain ⟨rfl, rfl, rfl⟩ : Ar = v0 ∧ j = M.length ∧ cr = c0 := by injection hv0 with e1 e2 e3; exact ⟨e1, e2, e3⟩
              clear hv0 hrv0
              have HXs := Lib.hid HN6.out.st
              have HXd := Lib.hid HN6.out.dev
              have hW1 := new1 wc (.cells #[.string xt] 9)
              obtain ⟨v', w', hap, hrow, hgr, hsty⟩ := (HI5.out.row.call hW1).append ⟨wc.heap.size, 0, none⟩ 1 xt (by simp [go_sem]) (by omega) (by have := HI5.out.bel.size; simp; omega)
              have HAP := Lib.hid hap
              have hrowA := HI5.out.row.call hW1
              have hst' : St w' db A3 n3 c3 A3' m3 c3' (-1) := St.trow (HI5.out.st.call hW1) hrowA hgr
              have hsx' : St w' xb A6 n6 c6 A6' m6 c6' (-1) := St.trow (HXs.out.call hW1) hrowA hgr
              have hsz' : (wc.alloc (.cells #[.string xt] 9)).heap.size ≤ w'.heap.size := hgr.size
              have hdx' : Dev w' A6 n6 c6 A6' m6 c6' (-1) S2 [] := Dev.stays (HXd.out.below hW1) hsty hsz' (good_64 hJ.good) (by simp)
              have hbel' : Below w.heap.size w w' := (HI5.out.bel.push (.cells #[.string xt] 9)).grown hgr (by have := HI5.out.bel.size; simp; omega) (fun g hg => (hrowA.lt g hg).1)
              obtain ⟨Av, cv, rfl, hrv⟩ := hrow.val
              have hml : (M ++ [xt]).length = M.length + 1 := by simp
              rw [hml] at hrv
              have hneed := Lib.hid (need_any Av (M.length + 1) cv (M ++ [xt]) w' hrv (by omega))
              rw [needR_tot hJ.sz, tot_snoc] at hneed
              obtain ⟨z0, z1, z2, -, -, -⟩ := hsx'.box
              have hlz := hsx'.lt
              obtain ⟨d0, d1, d2, f0, f1, f2⟩ := hst'.box
              have hld := hst'.lt
              have hg3 := grown_set3 w' db (.slice A6 n6 c6) (.slice A6' m6 c6') (.int .i64 (-1))
              have hnew := HI5.out.new
              have HFin := Lib.hid (show BkI w (set3 w' db (.slice A6 n6 c6) (.slice A6' m6 c6') (.int .i64 (-1))) db A6 n6 c6 A6' m6 c6' S2 N G (M ++ [xt]) (.slice Av (M ++ [xt]).length cv) from
                ⟨hbel'.grown hg3 hbel'.size (by simpa using hnew), hst'.set3 _ _ _ _ _ _ _, hdx'.only hst'.ns hg3, hrow.other hg3 (hrow.ne hst'.ns), hJ, hnew⟩)
              have htm : b0 + tot M ≤ p := by have := HPM.out; omega
              have htm2 : p ≤ b0 + tot M := by have := HPM.out; omega
              have HTt : Hid (p + cntN xt.size = b0 + tot (M ++ [xt])) := Lib.hid (by rw [tot_snoc]; omega)
              have HF47 : Hid (p + cntN xt.size ≤ 47) := Lib.hid (by omega)
              clear hap hrow hgr hsty hrowA hst' hsx' hdx' hbel' hg3 hrv hnew
              dsimp only [set3] at HFin
              go_wp2_with (first | (go_at_call 20; with_reducible refine (HFi.out _ _ rfl).mono ?_; rintro r w7 ⟨rfl, rfl⟩) | (at_builtin; refine wpList_append_run rfl (.tmp 105) (.tmp 110) 22 22 rfl _ _ rfl rfl (.slice Av (M ++ [xt]).length cv) w' HAP.out ?_) | (go_at_call 23; with_reducible refine (HBg.out _ _ rfl).mono ?_; rintro r w7 ⟨rfl, rfl⟩) | (go_at_call 16; with_reducible refine hneed.out.mono ?_; rintro r w7 ⟨rfl, rfl⟩))
              go_roundw
              case rel => exact ⟨i + 1, M.length + 1, p + cntN xt.size, st + cntN xt.size, Av, cv, by omega, by go_num, rfl, rfl, rfl, by omega, by have := HF47.out; omega, by omega, by omega, Lib.hid ⟨_, _, _, _, _, _, _, _, by have := HFin.out; rwa [hml] at this, HTt.out, hml⟩⟩
              case measure => simp [intOf]; omega
            · -- it did not fit
              obtain ⟨d0, d1, d2, -, -, -⟩ := HI5.out.st.box
              have hld := HI5.out.st.lt
              obtain ⟨z0, z1, z2, -, -, -⟩ := HN6.out.st.box
              have hlz := HN6.out.st.lt
              have HSm := Lib.hid (Dsk.same_any A6 n6 c6 A6' m6 c6' (-1) S2 [] A3 n3 c3 A3' m3 c3' (-1) S2 [] wc HN6.out.dev HI5.out.dev)
              rw [sameD_self] at HSm
              go_wp2_with (first | (go_at_call 20; with_reducible refine (HFi.out _ _ rfl).mono ?_; rintro r w7 ⟨rfl, rfl⟩) | (go_at_call 24; with_reducible refine HSm.out.mono ?_; rintro r w7 ⟨rfl, b7⟩; have HI7 := Lib.hid (HI5.out.call b7); clear b7))
              go_roundw
              case rel => exact ⟨i + 1, j, p, st, Ar, cr, by omega, by go_num, rfl, rfl, rfl, by omega, by omega, by omega, by omega, Lib.hid ⟨_, _, _, _, _, _, _, _, HI7.out, HPM.out, HJM.out⟩⟩
              case measure => simp [intOf]; omega
        · -- a text that is too long
          go_wp2_with (go_at_call 7; with_reducible refine (HAw.out _ HI3.out.bel).mono ?_; rintro r w7 ⟨rfl, b7⟩; have HB7 := Lib.hid (HI3.out.bel.call b7); clear b7)
          go_ret
          exact ⟨rfl, HB7.out⟩
      · -- all records are there
        obtain rfl : i = k := by omega
        have hmk : M.length ≤ 600 := by omega
        obtain ⟨q1, q2, q3⟩ := hI.inv.scan hG1 (by omega) hmk
        obtain ⟨u1, u2, u3⟩ := hI.inv.other (g' := G + 1) (by omega) (by omega)
        have hb0 := HB0e.out
        rw [← hb0, ← hpM] at q2
        rw [← hb0] at u2
        obtain ⟨v0, c0, hv0, hrv0⟩ := hI.row.val
        obtain ⟨rfl, rfl, rfl⟩ : Ar = v0 ∧ j = M.length ∧ cr = c0 := by injection hv0 with e1 e2 e3; exact ⟨e1, e2, e3⟩
        have HRV := Lib.hid hrv0
        have HS1 : Hid (∀ (z : Int), z = (G : Nat) → Calls Tryz.prog 13 #[DV A3 n3 c3 A3' m3 c3' (-1), .int .i64 z] wr (RetSc wr M (p : Nat) 0)) := Lib.hid (fun z hz => by
          subst hz
          have := scan_any A3 n3 c3 A3' m3 c3' (-1) S [] G wr HI3.out.dev (Shf.tab_call HT.out HI3.out.bel)
          rwa [q1, q2, q3] at this)
        have HS2 : Hid (∀ W (z : Int), Below wr.heap.size wr W → z = (G + 1 : Nat) → Calls Tryz.prog 13 #[DV A3 n3 c3 A3' m3 c3' (-1), .int .i64 z] W (RetSc W [] (b0 : Nat) 0)) := Lib.hid (fun W z hb hz => by
          subst hz
          have := scan_any A3 n3 c3 A3' m3 c3' (-1) S [] (G + 1 : Nat) W (HI3.out.dev.below hb) (Shf.tab_call HT.out (HI3.out.bel.call hb))
          rwa [u1, u2, u3] at this)
        have HGw2 : Hid (IntKind.i64.wrap (2 + IntKind.i64.wrap (gg : Int)) = (G + 1 : Nat)) := Lib.hid (by have := HGe.out; rw [IntWalk.i64_in (gg : Int) (by omega), IntWalk.i64_in _ (by omega)]; omega)
        unfold RetSc at HS1 HS2
        clear hv0 hrv0 q1 q2 q3 u1 u2 u3 hb0 hpM hjM hI
        go_wp2_with fail
        refine (HS1.out _ (by first | exact HGw.out | (have := HGe.out; omega))).mono ?_
        rintro r w7 ⟨A7, m7, c7, rfl, hr7, b7⟩
        obtain rfl : M.length = m7 := hr7.sec
        have HB7 := Lib.hid b7
        have HR7 := Lib.hid hr7
        obtain ⟨d0, d1, d2, -, -, -⟩ := (HI3.out.call b7).st.box
        have hld := (HI3.out.call b7).st.lt
        clear b7 hr7 f0 f1 f2
        go_wp2_with fail
        refine (HS2.out _ _ HB7.out (by first | exact HGw2.out | (have := HGe.out; omega))).mono ?_
        rintro r w8 ⟨A8, m8, c8, rfl, hr8, b8⟩
        obtain rfl : 0 = m8 := hr8.sec
        have HB8 := Lib.hid (HB7.out.trans (b8.mono HB7.out.size))
        have HSa := Lib.hid (Slt.same_any A7 M.length c7 Ar M.length cr M w8 (HR7.out.below b8) (HRV.out.below HB8.out) (by omega))
        clear b8 hr8 d0 d1 d2 hld
        go_wp2_with (first | (go_at_call 15; with_reducible refine HSa.out.mono ?_; rintro r w9 ⟨rfl, b9⟩; have HB9 := Lib.hid (HB8.out.call b9); clear b9) | (go_at_call 23; with_reducible refine (HBg.out _ _ rfl).mono ?_; rintro r w9 ⟨rfl, rfl⟩) | (go_at_call 7; with_reducible refine (HAw.out _ (HI3.out.bel.call HB9.out)).mono ?_; rintro r w10 ⟨rfl, b10⟩; have HB10 := Lib.hid ((HI3.out.bel.call HB9.out).call b10); clear b10))
        go_ret
        exact ⟨rfl, HB10.out⟩
  · have h2' : (20 : Int) < k := by omega
    clear hT hL
    go_enter Tryz.func5, Tryz.ntmps5
    go_wp2_with (go_at_call 7; with_reducible refine (HAw.out _ (Below.refl _ _)).mono ?_; rintro r w1 ⟨rfl, b1⟩; have HB1 := Lib.hid b1; clear b1)
    go_ret
    exact ⟨rfl, HB1.out⟩

end Go.Proofs.YtmgpngfgmfdldaaGreatDoor.Jrn
