/- The walk of JournalScans. -/
import Derived.Test.YtmgpngfgmfdldaaGreatDoorJrnAw
import Derived.Test.YtmgpngfgmfdldaaGreatDoorSlotsOwn
import Derived.Test.YtmgpngfgmfdldaaGreatDoorSltR
import Derived.Deep.RegionHeld3
import Derived.Deep.DeepCutAuto
namespace Go.Proofs.YtmgpngfgmfdldaaGreatDoor.Jrn
open Go.RowKit Go.Proofs.YtmgpngfgmfdldaaGreatDoor.Dsk Go.Proofs.YtmgpngfgmfdldaaGreatDoor.Sht Go.Proofs.YtmgpngfgmfdldaaGreatDoor.Shf Go.Proofs.YtmgpngfgmfdldaaGreatDoor.Slt
open Go.Proofs.YtmgpngfgmfdldaaGreatDoor.Crc (Tab)

theorem ar_cells {w : World} {x : Nat} {a g no st : Int} (h : Blk w x 41 [.int .i64 a, .int .i64 g, .int .i64 no, .int .i64 st]) :
    w.cell? ⟨x, 0, none⟩ = some (.int .i64 a) ∧ w.cell? ⟨x, 1, none⟩ = some (.int .i64 g) ∧ w.cell? ⟨x, 2, none⟩ = some (.int .i64 no) ∧ w.cell? ⟨x, 3, none⟩ = some (.int .i64 st) :=
  ⟨h.cell (i := 0) (by simp), h.cell (i := 1) (by simp), h.cell (i := 2) (by simp), h.cell (i := 3) (by simp)⟩

theorem scanDL_len (S : List ByteArray) (V : List Wr) (f g : Int) : (scanDL S V f g).length ≤ 600 := by
  unfold scanDL
  split
  · exact scanL_len _ _ _ _
  · simp

set_option maxRecDepth 100000 in
set_option maxHeartbeats 4000000 in
theorem walk_scans (A : Option Addr) (n c : Nat) (A' : Option Addr) (m c' : Nat) (f : Int) (S : List ByteArray) (V : List Wr) (z0 z1 z2 z3 : Int) (E : Option Addr) (k ec : Nat) (L : List ByteArray) (w : World) (hS : RV w A n 1 (SV S)) (hW : RV w A' m 2 (WV V)) (hf1 : -9223372036854775808 ≤ f) (hf2 : f ≤ 9223372036854775807) (hz : z2 ≤ 9223372036854775807) (hL : RV w E k 1 (SV L)) (hT : Tab w) :
    Calls Tryz.prog 4 #[DV A n c A' m c' f, .agg #[.int .i64 z0, .int .i64 z1, .int .i64 z2, .int .i64 z3], .slice E k ec] w fun r w' => r = .returned (.bool true) ∧ Below w.heap.size w w' := by
  have HAw := Lib.hid (fun W (hb : Below w.heap.size w W) => awakeJ_any W (Shf.tab_call hT hb))
  by_cases h1 : (n : Int) ≤ 60
  · by_cases h2 : (m : Int) ≤ 1100
    · by_cases h3 : (k : Int) ≤ 30
      · have hD : Dev w A n c A' m c' f S V := ⟨hS, hW, hf1, hf2, by have := hS.sec; omega, by have := hW.wr; omega⟩
        have hbw0 : Below w.heap.size w ((w.alloc (D25 A n c A' m c' f)).alloc (.cells #[.int .i64 z0, .int .i64 z1, .int .i64 z2, .int .i64 z3] 41)) := (new1 w _).push _
        have hX : Box ((w.alloc (D25 A n c A' m c' f)).alloc (.cells #[.int .i64 z0, .int .i64 z1, .int .i64 z2, .int .i64 z3] 41)) w.heap.size (.slice A n c) (.slice A' m c') (.int .i64 f) := (Box.new w (.slice A n c) (.slice A' m c') (.int .i64 f) 25).call (new1 _ _)
        have hV : Blk ((w.alloc (D25 A n c A' m c' f)).alloc (.cells #[.int .i64 z0, .int .i64 z1, .int .i64 z2, .int .i64 z3] 41)) (w.heap.size + 1) 41 [.int .i64 z0, .int .i64 z1, .int .i64 z2, .int .i64 z3] := (by have := Blk.new (w.alloc (D25 A n c A' m c' f)) 41 #[.int .i64 z0, .int .i64 z1, .int .i64 z2, .int .i64 z3]; rwa [World.size_alloc] at this)
        have HD := Lib.hid hD
        have HT := Lib.hid hT
        have HL := Lib.hid hL
        have HZ := Lib.hid hz
        have HKL := Lib.hid hL.sec
        clear hS hW hD hf1 hf2 hT hL hz
        go_enter Tryz.func4, Tryz.ntmps4
        go_wp2
        generalize ((w.alloc (D25 A n c A' m c' f)).alloc (.cells #[.int .i64 z0, .int .i64 z1, .int .i64 z2, .int .i64 z3] 41)) = W0 at *
        have HB0 := Lib.hid hbw0
        have HXs := Lib.hid hX
        have HVs := Lib.hid hV
        clear hbw0 hX hV
        go_loop [7] (fun s7 => ∃ i : Nat, (i : Int) ≤ k ∧ s7 = .int .i64 i) (fun s7 => k - (intOf s7).toNat)
        case atStart => exact ⟨0, by omega, rfl⟩
        case round =>
          obtain ⟨i, hi, rfl⟩ := hrel
          by_cases hlt : (i : Int) < k
          · have hil : i < L.length := by have := HKL.out; omega
            obtain ⟨b, off, rfl, hb, ha⟩ := (HL.out.below HB0.out).2 (by omega)
            have t0 := ha i (by rw [SV_length]; exact hil)
            rw [show (SV L)[i]'(by rw [SV_length]; exact hil) = .string L[i] from by simp [SV]] at t0
            clear ha
            generalize L[i] = x at *
            by_cases hxs : (x.size : Int) ≤ 200
            · go_wp2_with fail
              go_round
              case rel => exact ⟨i + 1, by omega, by go_num⟩
              case measure => simp [intOf]; omega
            · go_wp2_with (go_at_call 7; with_reducible refine (HAw.out _ HB0.out).mono ?_; rintro r w1 ⟨rfl, b1⟩; have HB1 := Lib.hid (HB0.out.call b1); clear b1)
              go_ret
              exact ⟨rfl, HB1.out⟩
          · obtain rfl : i = k := by omega
            clear hlt hi
            have HOw : Hid (∀ W, Below W0.heap.size W0 W → Calls Tryz.prog 9 #[DV A n c A' m c' f] W (RetD W S V f)) := Lib.hid (fun W hb => own_any A n c A' m c' f S V W (HD.out.below (HB0.out.call hb)))
            have HS1 : Hid (∀ W B p d B' q d', Below W0.heap.size W0 W → Dev W B p d B' q d' f S V → Calls Tryz.prog 13 #[DV B p d B' q d' f, .int .i64 z0] W (RetSc W (scanDL S V f z0) (scanDA S V f z0) (scanDE S V f))) := Lib.hid (fun W B p d B' q d' hb hd => scan_any B p d B' q d' f S V z0 W hd (Shf.tab_call HT.out (HB0.out.call hb)))
            have HS2 := Lib.hid (fun W (hb : Below W0.heap.size W0 W) => rscan_any A n c A' m c' f S V z0 W (HD.out.below (HB0.out.call hb)))
            have HLn := Lib.hid (scanDL_len S V f z0)
            have HN1 := Lib.hid (fun W (hb : Below W0.heap.size W0 W) => need_any E i ec L W (HL.out.below (HB0.out.call hb)) (by omega))
            have HN2 := Lib.hid (fun W (hb : Below W0.heap.size W0 W) => rneed_any E i ec L W (HL.out.below (HB0.out.call hb)) (by omega))
            have HM1 := Lib.hid (fun W => most_any z1 W)
            have HM2 := Lib.hid (fun W => rmost_any z1 W)
            have HF1 := Lib.hid (fun W => fits_any z1 z2 z3 W HZ.out)
            have HF2 := Lib.hid (fun W => rfits_any z1 z2 z3 W)
            unfold RetD at HOw
            unfold RetSc at HS1 HS2
            generalize scanDL S V f z0 = R at *
            generalize scanDA S V f z0 = ra at *
            generalize scanDE S V f = re at *
            generalize needR L = nl at *
            generalize mostR z1 = mo at *
            generalize fitsR z1 z2 z3 = fi at *
            obtain ⟨x0, x1, x2, -, -, -⟩ := HXs.out
            have hls := HXs.out.lt
            obtain ⟨v0, v1, v2, v3⟩ := ar_cells HVs.out
            have hlv := HVs.out.lt
            go_upto_region 8 with fail
            go_cut [8, 9, 10] (fun s8 s9 s10 wx => ∃ B mB cB, s8 = .slice B mB cB ∧ s9 = .int .i64 ra ∧ s10 = .int .i64 re ∧ Hid (Below W0.heap.size W0 wx ∧ RV wx B mB 1 (SV R)))
            case first =>
              go_region_held3 (fun W => W.cell? ⟨w.heap.size, 0, none⟩ = some (.slice A n c) ∧ W.cell? ⟨w.heap.size, 1, none⟩ = some (.slice A' m c') ∧ W.cell? ⟨w.heap.size, 2, none⟩ = some (.int .i64 f) ∧ W.cell? ⟨w.heap.size + 1, 0, none⟩ = some (.int .i64 z0)) (go_keep)
                (first
                  | (go_at_call 9; ((with_reducible refine (HOw.out _ (by repeat (first | exact Below.refl _ _ | refine Below.drew ?_))).mono ?_); rintro r wa ⟨B, p, d, B', q, d', rfl, hDa, ba⟩; have hbwwa : Below W0.heap.size W0 wa := (Below.call (by repeat (first | exact Below.refl _ _ | refine Below.drew ?_)) ba); have qwa0 : wa.cell? ⟨w.heap.size, 0, none⟩ = some (.slice A n c) := (hbwwa.cell (p := ⟨w.heap.size, 0, none⟩) hls).trans x0; have qwa1 : wa.cell? ⟨w.heap.size, 1, none⟩ = some (.slice A' m c') := (hbwwa.cell (p := ⟨w.heap.size, 1, none⟩) hls).trans x1; have qwa2 : wa.cell? ⟨w.heap.size, 2, none⟩ = some (.int .i64 f) := (hbwwa.cell (p := ⟨w.heap.size, 2, none⟩) hls).trans x2; have qwa3 : wa.cell? ⟨w.heap.size + 1, 0, none⟩ = some (.int .i64 z0) := (hbwwa.cell (p := ⟨w.heap.size + 1, 0, none⟩) hlv).trans v0; have HDa := Lib.hid hDa; clear hDa ba))
                  | (go_at_call 13; ((with_reducible refine (HS1.out _ _ _ _ _ _ _ (by first | exact hbwwa | exact hbwwa.drew) HDa.out).mono ?_); rintro r wb ⟨B2, p2, d2, rfl, hrb, bb⟩; have hbwwb : Below W0.heap.size W0 wb := (Below.call (by first | exact hbwwa | exact hbwwa.drew) bb); have qwb0 : wb.cell? ⟨w.heap.size, 0, none⟩ = some (.slice A n c) := (hbwwb.cell (p := ⟨w.heap.size, 0, none⟩) hls).trans x0; have qwb1 : wb.cell? ⟨w.heap.size, 1, none⟩ = some (.slice A' m c') := (hbwwb.cell (p := ⟨w.heap.size, 1, none⟩) hls).trans x1; have qwb2 : wb.cell? ⟨w.heap.size, 2, none⟩ = some (.int .i64 f) := (hbwwb.cell (p := ⟨w.heap.size, 2, none⟩) hls).trans x2; have qwb3 : wb.cell? ⟨w.heap.size + 1, 0, none⟩ = some (.int .i64 z0) := (hbwwb.cell (p := ⟨w.heap.size + 1, 0, none⟩) hlv).trans v0; have HRb := Lib.hid hrb; clear hrb bb)))
              all_goals (
                go_wp2_with fail
                go_meet
                first
                  | exact ⟨_, _, _, rfl, rfl, rfl, Lib.hid ⟨hbwwb, HRb.out⟩⟩
                  | exact ⟨_, _, _, rfl, rfl, rfl, Lib.hid ⟨hbwwb.drew, HRb.out.below (by repeat (first | exact Below.refl _ _ | refine Below.drew ?_))⟩⟩)
            case rest =>
              obtain ⟨B, mB, cB, rfl, rfl, rfl, HC⟩ := hcut
              clear x0 x1 x2 hls v0 v1 v2 v3 hlv HOw HS1
              obtain ⟨x0, x1, x2, -, -, -⟩ := HXs.out.call HC.out.1
              have hls := (HXs.out.call HC.out.1).lt
              obtain ⟨v0, v1, v2, v3⟩ := ar_cells (HVs.out.call HC.out.1)
              have hlv := (HVs.out.call HC.out.1).lt
              go_wp2_with fail
              refine (HS2.out _ HC.out.1).mono ?_
              rintro r w4 ⟨B4, m4, c4, rfl, hr4, b4⟩
              have HB4 := Lib.hid (HC.out.1.call b4)
              have HR4 := Lib.hid hr4
              have HRc := Lib.hid (HC.out.2.below b4)
              clear hr4 b4 x0 x1 x2 hls v0 v1 v2 v3 hlv HC HS2
              go_upto_region 10 with fail
              have hmB := HRc.out.sec
              have hmB2 : (mB : Int) ≤ 2000 := by have := HLn.out; omega
              clear hmB
              obtain ⟨v0, v1, v2, v3⟩ := ar_cells (HVs.out.call HB4.out)
              have hlv := (HVs.out.call HB4.out).lt
              go_region_held3 (fun W => W.cell? ⟨w.heap.size + 1, 1, none⟩ = some (.int .i64 z1) ∧ W.cell? ⟨w.heap.size + 1, 2, none⟩ = some (.int .i64 z2) ∧ W.cell? ⟨w.heap.size + 1, 3, none⟩ = some (.int .i64 z3)) (go_keep)
                (first
                  | (go_at_call 15; ((with_reducible refine (same_any B mB cB B4 m4 c4 R _ (HRc.out.below (by repeat (first | exact Below.refl _ _ | refine Below.drew ?_))) (HR4.out.below (by repeat (first | exact Below.refl _ _ | refine Below.drew ?_))) hmB2).mono ?_); rintro r wa ⟨rfl, ba⟩; have hbwwa : Below w4.heap.size w4 wa := (Below.call (by repeat (first | exact Below.refl _ _ | refine Below.drew ?_)) ba); have qwa0 : wa.cell? ⟨w.heap.size + 1, 1, none⟩ = some (.int .i64 z1) := (hbwwa.cell (p := ⟨w.heap.size + 1, 1, none⟩) hlv).trans v1; have qwa1 : wa.cell? ⟨w.heap.size + 1, 2, none⟩ = some (.int .i64 z2) := (hbwwa.cell (p := ⟨w.heap.size + 1, 2, none⟩) hlv).trans v2; have qwa2 : wa.cell? ⟨w.heap.size + 1, 3, none⟩ = some (.int .i64 z3) := (hbwwa.cell (p := ⟨w.heap.size + 1, 3, none⟩) hlv).trans v3; clear ba))
                  | (go_at_call 16; ((with_reducible refine (HN1.out _ (HB4.out.call (by repeat (first | exact Below.refl _ _ | exact hbwwa | refine Below.drew ?_)))).mono ?_); rintro r wq ⟨rfl, rfl⟩))
                  | (go_at_call 17; ((with_reducible refine (HN2.out _ (HB4.out.call (by repeat (first | exact Below.refl _ _ | exact hbwwa | refine Below.drew ?_)))).mono ?_); rintro r wq ⟨rfl, rfl⟩))
                  | (go_at_call 18; ((with_reducible refine (HM1.out _).mono ?_); rintro r wq ⟨rfl, rfl⟩))
                  | (go_at_call 19; ((with_reducible refine (HM2.out _).mono ?_); rintro r wq ⟨rfl, rfl⟩))
                  | (go_at_call 20; ((with_reducible refine (HF1.out _).mono ?_); rintro r wq ⟨rfl, rfl⟩))
                  | (go_at_call 21; ((with_reducible refine (HF2.out _).mono ?_); rintro r wq ⟨rfl, rfl⟩))
                  | (go_at_call 7; ((with_reducible refine (HAw.out _ ((HB0.out.call HB4.out).call (by repeat (first | exact Below.refl _ _ | exact hbwwa | refine Below.drew ?_)))).mono ?_); rintro r wf ⟨rfl, bf⟩; have HBf : Hid (Below w.heap.size w wf) := Lib.hid (((HB0.out.call HB4.out).call (by repeat (first | exact Below.refl _ _ | exact hbwwa | refine Below.drew ?_))).call bf); have hbwwf : Below w4.heap.size w4 wf := (Below.call (by repeat (first | exact Below.refl _ _ | exact hbwwa | refine Below.drew ?_)) bf); have qwf0 : wf.cell? ⟨w.heap.size + 1, 1, none⟩ = some (.int .i64 z1) := (hbwwf.cell (p := ⟨w.heap.size + 1, 1, none⟩) hlv).trans v1; have qwf1 : wf.cell? ⟨w.heap.size + 1, 2, none⟩ = some (.int .i64 z2) := (hbwwf.cell (p := ⟨w.heap.size + 1, 2, none⟩) hlv).trans v2; have qwf2 : wf.cell? ⟨w.heap.size + 1, 3, none⟩ = some (.int .i64 z3) := (hbwwf.cell (p := ⟨w.heap.size + 1, 3, none⟩) hlv).trans v3; clear bf)))
              all_goals (
                go_wp2_with fail
                go_ret
                first
                  | exact ⟨by simp, HBf.out⟩
                  | exact ⟨by simp, HBf.out.drew⟩)
      · have h3' : (30 : Int) < k := by omega
        clear hS hW hf1 hf2 hT hL hz
        go_enter Tryz.func4, Tryz.ntmps4
        go_wp2_with (go_at_call 7; with_reducible refine (HAw.out _ (((Below.refl w.heap.size w).push _).push _)).mono ?_; rintro r w1 ⟨rfl, b1⟩; have HB1 := Lib.hid ((((Below.refl w.heap.size w).push _).push _).call b1); clear b1)
        go_ret
        exact ⟨rfl, HB1.out⟩
    · have h2' : (1100 : Int) < m := by omega
      clear hS hW hf1 hf2 hT hL hz
      go_enter Tryz.func4, Tryz.ntmps4
      go_wp2_with (go_at_call 7; with_reducible refine (HAw.out _ (((Below.refl w.heap.size w).push _).push _)).mono ?_; rintro r w1 ⟨rfl, b1⟩; have HB1 := Lib.hid ((((Below.refl w.heap.size w).push _).push _).call b1); clear b1)
      go_ret
      exact ⟨rfl, HB1.out⟩
  · have h1' : (60 : Int) < n := by omega
    clear hS hW hf1 hf2 hT hL hz
    go_enter Tryz.func4, Tryz.ntmps4
    go_wp2_with (go_at_call 7; with_reducible refine (HAw.out _ (((Below.refl w.heap.size w).push _).push _)).mono ?_; rintro r w1 ⟨rfl, b1⟩; have HB1 := Lib.hid ((((Below.refl w.heap.size w).push _).push _).call b1); clear b1)
    go_ret
    exact ⟨rfl, HB1.out⟩

end Go.Proofs.YtmgpngfgmfdldaaGreatDoor.Jrn
