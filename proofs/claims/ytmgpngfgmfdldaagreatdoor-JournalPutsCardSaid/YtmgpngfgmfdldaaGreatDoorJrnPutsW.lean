/- The walk of JournalPuts. -/
import Derived.Test.YtmgpngfgmfdldaaGreatDoorJrnAw
import Derived.Test.YtmgpngfgmfdldaaGreatDoorSlotsOwn
import Derived.Test.YtmgpngfgmfdldaaGreatDoorDiskNewD
import Derived.Deep.RegionHeld3
import Derived.Deep.DeepCutAuto
namespace Go.Proofs.YtmgpngfgmfdldaaGreatDoor.Jrn
open Go.RowKit Go.Proofs.YtmgpngfgmfdldaaGreatDoor.Dsk Go.Proofs.YtmgpngfgmfdldaaGreatDoor.Sht Go.Proofs.YtmgpngfgmfdldaaGreatDoor.Shf Go.Proofs.YtmgpngfgmfdldaaGreatDoor.Slt
open Go.Proofs.YtmgpngfgmfdldaaGreatDoor.Crc (Tab)

theorem sameD_self (S : List ByteArray) (W : List Wr) (f : Int) : sameD S W f S W f = true := by simp [sameD]

/-- A record's cells. -/
abbrev reV (a g no st : Int) (t : ByteArray) : List Value := [.int .i64 a, .int .i64 g, .int .i64 no, .int .i64 st, .string t]
theorem re_cells {w : World} {x : Nat} {a g no st : Int} {t : ByteArray} (h : Blk w x 27 (reV a g no st t)) :
    w.cell? ⟨x, 0, none⟩ = some (.int .i64 a) ∧ w.cell? ⟨x, 1, none⟩ = some (.int .i64 g) ∧ w.cell? ⟨x, 2, none⟩ = some (.int .i64 no) ∧ w.cell? ⟨x, 3, none⟩ = some (.int .i64 st) ∧ w.cell? ⟨x, 4, none⟩ = some (.string t) :=
  ⟨h.cell (i := 0) (by simp), h.cell (i := 1) (by simp), h.cell (i := 2) (by simp), h.cell (i := 3) (by simp), h.cell (i := 4) (by simp)⟩

set_option maxRecDepth 100000 in
set_option maxHeartbeats 4000000 in
theorem walk_puts (A : Option Addr) (n c : Nat) (A' : Option Addr) (m c' : Nat) (f : Int) (S : List ByteArray) (V : List Wr) (a g no st : Int) (t : ByteArray) (w : World) (hS : RV w A n 1 (SV S)) (hW : RV w A' m 2 (WV V)) (hf1 : -9223372036854775808 ≤ f) (hf2 : f ≤ 9223372036854775807) (hT : Tab w) :
    Calls Tryz.prog 3 #[DV A n c A' m c' f, .agg #[.int .i64 a, .int .i64 g, .int .i64 no, .int .i64 st, .string t]] w fun r w' => r = .returned (.bool true) ∧ Below w.heap.size w w' := by
  have HAw := Lib.hid (fun W (hb : Below w.heap.size w W) => awakeJ_any W (Shf.tab_call hT hb))
  by_cases h1 : (n : Int) ≤ 60
  · by_cases h2 : (m : Int) ≤ 1100
    · by_cases h3 : (t.size : Int) ≤ 1500
      · have hD : Dev w A n c A' m c' f S V := ⟨hS, hW, hf1, hf2, by have := hS.sec; omega, by have := hW.wr; omega⟩
        have hbw0 : Below w.heap.size w ((w.alloc (D25 A n c A' m c' f)).alloc (.cells #[.int .i64 a, .int .i64 g, .int .i64 no, .int .i64 st, .string t] 27)) := (new1 w _).push _
        have hX : Box ((w.alloc (D25 A n c A' m c' f)).alloc (.cells #[.int .i64 a, .int .i64 g, .int .i64 no, .int .i64 st, .string t] 27)) w.heap.size (.slice A n c) (.slice A' m c') (.int .i64 f) := (Box.new w (.slice A n c) (.slice A' m c') (.int .i64 f) 25).call (new1 _ _)
        have hV : Blk ((w.alloc (D25 A n c A' m c' f)).alloc (.cells #[.int .i64 a, .int .i64 g, .int .i64 no, .int .i64 st, .string t] 27)) (w.heap.size + 1) 27 (reV a g no st t) := (by have := Blk.new (w.alloc (D25 A n c A' m c' f)) 27 #[.int .i64 a, .int .i64 g, .int .i64 no, .int .i64 st, .string t]; rwa [World.size_alloc] at this)
        have HD := Lib.hid hD
        have HT := Lib.hid hT
        clear hS hW hD hf1 hf2 hT
        go_enter Tryz.func3, Tryz.ntmps3
        go_upto_region 3 with fail
        generalize ((w.alloc (D25 A n c A' m c' f)).alloc (.cells #[.int .i64 a, .int .i64 g, .int .i64 no, .int .i64 st, .string t] 27)) = W0 at *
        have HB0 := Lib.hid hbw0
        have HXs := Lib.hid hX
        have HVs := Lib.hid hV
        have HOw : Hid (∀ W, Below W0.heap.size W0 W → Calls Tryz.prog 9 #[DV A n c A' m c' f] W (RetD W S V f)) := Lib.hid (fun W hb => own_any A n c A' m c' f S V W (HD.out.below (HB0.out.call hb)))
        have HP1 : Hid (∀ W B p d B' q d', Below W0.heap.size W0 W → Dev W B p d B' q d' f S V → Calls Tryz.prog 8 #[DV B p d B' q d' f, .int .i64 a, .int .i64 g, .int .i64 no, .int .i64 st, .string t] W (RetP W (putR S V f a g no st t))) := Lib.hid (fun W B p d B' q d' hb hd => put_any B p d B' q d' f S V a g no st t W hd (Shf.tab_call HT.out (HB0.out.call hb)))
        have HP2 := Lib.hid (fun W (hb : Below W0.heap.size W0 W) => rput_any A n c A' m c' f S V a g no st t W (HD.out.below (HB0.out.call hb)))
        unfold RetD at HOw
        unfold RetP at HP1 HP2
        generalize putR S V f a g no st t = X at *
        clear hbw0 hX hV
        obtain ⟨x0, x1, x2, -, -, -⟩ := HXs.out
        have hls := HXs.out.lt
        obtain ⟨v0, v1, v2, v3, v4⟩ := re_cells HVs.out
        have hlv := HVs.out.lt
        have ne1 : ¬ W0.heap.size = w.heap.size := by omega
        have ne2 : ¬ W0.heap.size = w.heap.size + 1 := by omega
        go_cut [5, 6, 7, 8] (fun s5 s6 s7 s8 wx => ∃ b A2 n2 c2 A2' m2 c2', s5 = .pointer (some ⟨b, 0, none⟩) ∧ s6 = .int .i64 X.p ∧ s7 = .int .i64 X.st ∧ s8 = .int .i64 X.e ∧ Hid (NewD W0 wx b A2 n2 c2 A2' m2 c2' X.f X.S X.W))
        case first =>
          go_region_held3 (fun W => W.cell? ⟨w.heap.size, 0, none⟩ = some (.slice A n c) ∧ W.cell? ⟨w.heap.size, 1, none⟩ = some (.slice A' m c') ∧ W.cell? ⟨w.heap.size, 2, none⟩ = some (.int .i64 f) ∧ W.cell? ⟨w.heap.size + 1, 0, none⟩ = some (.int .i64 a) ∧ W.cell? ⟨w.heap.size + 1, 1, none⟩ = some (.int .i64 g) ∧ W.cell? ⟨w.heap.size + 1, 2, none⟩ = some (.int .i64 no) ∧ W.cell? ⟨w.heap.size + 1, 3, none⟩ = some (.int .i64 st) ∧ W.cell? ⟨w.heap.size + 1, 4, none⟩ = some (.string t)) (go_keep)
            (first
              | (go_at_call 9; ((with_reducible refine (HOw.out _ (by repeat (first | exact Below.refl _ _ | refine Below.push ?_ _ | refine Below.drew ?_))).mono ?_); rintro r wa ⟨B, p, d, B', q, d', rfl, hDa, ba⟩; obtain ⟨hc4, hf4⟩ := Dsk.bcell ba; have hlt4 := Dsk.blt ba; have hbwwa : Below W0.heap.size W0 wa := (Below.call (by repeat (first | exact Below.refl _ _ | refine Below.push ?_ _ | refine Below.drew ?_)) ba); have qwa0 : wa.cell? ⟨w.heap.size, 0, none⟩ = some (.slice A n c) := (hbwwa.cell (p := ⟨w.heap.size, 0, none⟩) hls).trans x0; have qwa1 : wa.cell? ⟨w.heap.size, 1, none⟩ = some (.slice A' m c') := (hbwwa.cell (p := ⟨w.heap.size, 1, none⟩) hls).trans x1; have qwa2 : wa.cell? ⟨w.heap.size, 2, none⟩ = some (.int .i64 f) := (hbwwa.cell (p := ⟨w.heap.size, 2, none⟩) hls).trans x2; have qwa3 : wa.cell? ⟨w.heap.size + 1, 0, none⟩ = some (.int .i64 a) := (hbwwa.cell (p := ⟨w.heap.size + 1, 0, none⟩) hlv).trans v0; have qwa4 : wa.cell? ⟨w.heap.size + 1, 1, none⟩ = some (.int .i64 g) := (hbwwa.cell (p := ⟨w.heap.size + 1, 1, none⟩) hlv).trans v1; have qwa5 : wa.cell? ⟨w.heap.size + 1, 2, none⟩ = some (.int .i64 no) := (hbwwa.cell (p := ⟨w.heap.size + 1, 2, none⟩) hlv).trans v2; have qwa6 : wa.cell? ⟨w.heap.size + 1, 3, none⟩ = some (.int .i64 st) := (hbwwa.cell (p := ⟨w.heap.size + 1, 3, none⟩) hlv).trans v3; have qwa7 : wa.cell? ⟨w.heap.size + 1, 4, none⟩ = some (.string t) := (hbwwa.cell (p := ⟨w.heap.size + 1, 4, none⟩) hlv).trans v4; have ne4 : ¬ wa.heap.size = w.heap.size := (by have := hbwwa.size; omega); have ne4' : ¬ wa.heap.size = w.heap.size + 1 := (by have := hbwwa.size; omega); have HDa := Lib.hid hDa; clear hDa))
              | (go_at_call 8; ((with_reducible refine (HP1.out _ _ _ _ _ _ _ (by first | exact hbwwa | exact hbwwa.push _ | exact hbwwa.drew) (by first | exact HDa.out | exact HDa.out.new _)).mono ?_); rintro r wb ⟨B2, p2, d2, B2', q2, d2', rfl, hDb, bb⟩; obtain ⟨hc5, hf5⟩ := Dsk.bcell bb; have hlt5 := Dsk.blt bb; have hbwwb : Below W0.heap.size W0 wb := (Below.call (by first | exact hbwwa | exact hbwwa.push _ | exact hbwwa.drew) bb); have qwb0 : wb.cell? ⟨w.heap.size, 0, none⟩ = some (.slice A n c) := (hbwwb.cell (p := ⟨w.heap.size, 0, none⟩) hls).trans x0; have qwb1 : wb.cell? ⟨w.heap.size, 1, none⟩ = some (.slice A' m c') := (hbwwb.cell (p := ⟨w.heap.size, 1, none⟩) hls).trans x1; have qwb2 : wb.cell? ⟨w.heap.size, 2, none⟩ = some (.int .i64 f) := (hbwwb.cell (p := ⟨w.heap.size, 2, none⟩) hls).trans x2; have qwb3 : wb.cell? ⟨w.heap.size + 1, 0, none⟩ = some (.int .i64 a) := (hbwwb.cell (p := ⟨w.heap.size + 1, 0, none⟩) hlv).trans v0; have qwb4 : wb.cell? ⟨w.heap.size + 1, 1, none⟩ = some (.int .i64 g) := (hbwwb.cell (p := ⟨w.heap.size + 1, 1, none⟩) hlv).trans v1; have qwb5 : wb.cell? ⟨w.heap.size + 1, 2, none⟩ = some (.int .i64 no) := (hbwwb.cell (p := ⟨w.heap.size + 1, 2, none⟩) hlv).trans v2; have qwb6 : wb.cell? ⟨w.heap.size + 1, 3, none⟩ = some (.int .i64 st) := (hbwwb.cell (p := ⟨w.heap.size + 1, 3, none⟩) hlv).trans v3; have qwb7 : wb.cell? ⟨w.heap.size + 1, 4, none⟩ = some (.string t) := (hbwwb.cell (p := ⟨w.heap.size + 1, 4, none⟩) hlv).trans v4; have ne5 : ¬ wb.heap.size = w.heap.size := (by have := hbwwb.size; omega); have ne5' : ¬ wb.heap.size = w.heap.size + 1 := (by have := hbwwb.size; omega); have HDb := Lib.hid hDb; clear hDb)))
          · go_wp2_with fail
            go_meet
            exact ⟨_, _, _, _, _, _, _, rfl, rfl, rfl, rfl, Lib.hid (NewD.fresh hbwwb HDb.out 31)⟩
          · go_wp2_with fail
            go_meet
            exact ⟨_, _, _, _, _, _, _, rfl, rfl, rfl, rfl, Lib.hid (NewD.put hbwwb HDb.out ((St.new wa none 0 0 none 0 0 0 31).call bb) hbwwa.size)⟩
          · go_wp2_with fail
            go_meet
            exact ⟨_, _, _, _, _, _, _, rfl, rfl, rfl, rfl, Lib.hid (NewD.put hbwwb HDb.out (((St.new W0 none 0 0 none 0 0 0 31).call (Dsk.undrew ba)).call bb) (Nat.le_refl _))⟩
        case rest =>
          obtain ⟨b, A3, n3, c3, A3', m3, c3', rfl, rfl, rfl, rfl, HN⟩ := hcut
          clear x0 x1 x2 hls v0 v1 v2 v3 v4 hlv ne1 ne2 HOw HP1
          obtain ⟨x0, x1, x2, -, -, -⟩ := HXs.out.call HN.out.bel
          have hls := (HXs.out.call HN.out.bel).lt
          obtain ⟨v0, v1, v2, v3, v4⟩ := re_cells (HVs.out.call HN.out.bel)
          have hlv := (HVs.out.call HN.out.bel).lt
          go_wp2_with fail
          refine (HP2.out _ HN.out.bel).mono ?_
          rintro r w4 ⟨A4, n4, c4, A4', m4, c4', rfl, hd4, b4⟩
          have HX4 := Lib.hid ((HN.out.st.call b4).alloc (D25 A4 n4 c4 A4' m4 c4' X.f))
          have HY4 := Lib.hid (Box.new w4 (.slice A4 n4 c4) (.slice A4' m4 c4') (.int .i64 X.f) 25)
          have HD4 := Lib.hid ((HN.out.dev.below b4).new (D25 A4 n4 c4 A4' m4 c4' X.f))
          have HE4 := Lib.hid (hd4.new (D25 A4 n4 c4 A4' m4 c4' X.f))
          have HB4 := Lib.hid (((HB0.out.call HN.out.bel).call b4).push (D25 A4 n4 c4 A4' m4 c4' X.f))
          clear b4 hd4 x0 x1 x2 hls v0 v1 v2 v3 v4 hlv HP2 HN
          go_upto_region 5 with fail
          generalize (w4.alloc (D25 A4 n4 c4 A4' m4 c4' X.f)) = W at *
          generalize w4.heap.size = xd at *
          have HBk : Hid (∀ W', Below W.heap.size W W' → Calls Tryz.prog 12 #[DV A3 n3 c3 A3' m3 c3' X.f] W' (RetD W' X.S X.W X.f)) := Lib.hid (fun W' hb => back_any A3 n3 c3 A3' m3 c3' X.f X.S X.W W' (HD4.out.below hb))
          unfold RetD at HBk
          obtain ⟨x0, x1, x2, -, -, -⟩ := HX4.out.box
          obtain ⟨y0, y1, y2, -, -, -⟩ := HY4.out
          have hlx := HX4.out.lt
          have hly := HY4.out.lt
          go_region_held3 (fun W => W.cell? ⟨b, 0, none⟩ = some (.slice A3 n3 c3) ∧ W.cell? ⟨b, 1, none⟩ = some (.slice A3' m3 c3') ∧ W.cell? ⟨b, 2, none⟩ = some (.int .i64 X.f) ∧ W.cell? ⟨xd, 0, none⟩ = some (.slice A4 n4 c4) ∧ W.cell? ⟨xd, 1, none⟩ = some (.slice A4' m4 c4') ∧ W.cell? ⟨xd, 2, none⟩ = some (.int .i64 X.f)) (go_keep)
            (first
              | (go_at_call 12; ((with_reducible refine (HBk.out _ (by repeat (first | exact Below.refl _ _ | refine Below.drew ?_))).mono ?_); rintro r wa ⟨A5, n5, c5, A5', m5, c5', rfl, hD5, ba⟩; have hbwwa : Below W.heap.size W wa := (Below.call (by repeat (first | exact Below.refl _ _ | refine Below.drew ?_)) ba); have qwa0 : wa.cell? ⟨b, 0, none⟩ = some (.slice A3 n3 c3) := (hbwwa.cell (p := ⟨b, 0, none⟩) hlx).trans x0; have qwa1 : wa.cell? ⟨b, 1, none⟩ = some (.slice A3' m3 c3') := (hbwwa.cell (p := ⟨b, 1, none⟩) hlx).trans x1; have qwa2 : wa.cell? ⟨b, 2, none⟩ = some (.int .i64 X.f) := (hbwwa.cell (p := ⟨b, 2, none⟩) hlx).trans x2; have qwa3 : wa.cell? ⟨xd, 0, none⟩ = some (.slice A4 n4 c4) := (hbwwa.cell (p := ⟨xd, 0, none⟩) hly).trans y0; have qwa4 : wa.cell? ⟨xd, 1, none⟩ = some (.slice A4' m4 c4') := (hbwwa.cell (p := ⟨xd, 1, none⟩) hly).trans y1; have qwa5 : wa.cell? ⟨xd, 2, none⟩ = some (.int .i64 X.f) := (hbwwa.cell (p := ⟨xd, 2, none⟩) hly).trans y2; have HD5 := Lib.hid hD5; clear hD5 ba))
              | (go_at_call 11; ((with_reducible refine (rsame_any A5 n5 c5 A5' m5 c5' X.f X.S X.W A4 n4 c4 A4' m4 c4' X.f X.S X.W _ HD5.out (HE4.out.below (by repeat (first | exact Below.refl _ _ | exact hbwwa | refine Below.drew ?_)))).mono ?_); rintro r wb ⟨rfl, bb⟩; rw [sameD_self]; have hbwwb : Below W.heap.size W wb := (Below.call (by first | exact hbwwa | exact hbwwa.drew) bb); have qwb0 : wb.cell? ⟨b, 0, none⟩ = some (.slice A3 n3 c3) := (hbwwb.cell (p := ⟨b, 0, none⟩) hlx).trans x0; have qwb1 : wb.cell? ⟨b, 1, none⟩ = some (.slice A3' m3 c3') := (hbwwb.cell (p := ⟨b, 1, none⟩) hlx).trans x1; have qwb2 : wb.cell? ⟨b, 2, none⟩ = some (.int .i64 X.f) := (hbwwb.cell (p := ⟨b, 2, none⟩) hlx).trans x2; have qwb3 : wb.cell? ⟨xd, 0, none⟩ = some (.slice A4 n4 c4) := (hbwwb.cell (p := ⟨xd, 0, none⟩) hly).trans y0; have qwb4 : wb.cell? ⟨xd, 1, none⟩ = some (.slice A4' m4 c4') := (hbwwb.cell (p := ⟨xd, 1, none⟩) hly).trans y1; have qwb5 : wb.cell? ⟨xd, 2, none⟩ = some (.int .i64 X.f) := (hbwwb.cell (p := ⟨xd, 2, none⟩) hly).trans y2; clear bb))
              | (go_at_call 7; ((with_reducible refine (HAw.out _ (HB4.out.call (by first | exact hbwwb | exact hbwwb.drew))).mono ?_); rintro r wf ⟨rfl, bf⟩; have HBf : Hid (Below w.heap.size w wf) := Lib.hid ((HB4.out.call (by first | exact hbwwb | exact hbwwb.drew)).call bf); have hbwwf : Below W.heap.size W wf := (Below.call (by first | exact hbwwb | exact hbwwb.drew) bf); have qwf0 : wf.cell? ⟨b, 0, none⟩ = some (.slice A3 n3 c3) := (hbwwf.cell (p := ⟨b, 0, none⟩) hlx).trans x0; have qwf1 : wf.cell? ⟨b, 1, none⟩ = some (.slice A3' m3 c3') := (hbwwf.cell (p := ⟨b, 1, none⟩) hlx).trans x1; have qwf2 : wf.cell? ⟨b, 2, none⟩ = some (.int .i64 X.f) := (hbwwf.cell (p := ⟨b, 2, none⟩) hlx).trans x2; have qwf3 : wf.cell? ⟨xd, 0, none⟩ = some (.slice A4 n4 c4) := (hbwwf.cell (p := ⟨xd, 0, none⟩) hly).trans y0; have qwf4 : wf.cell? ⟨xd, 1, none⟩ = some (.slice A4' m4 c4') := (hbwwf.cell (p := ⟨xd, 1, none⟩) hly).trans y1; have qwf5 : wf.cell? ⟨xd, 2, none⟩ = some (.int .i64 X.f) := (hbwwf.cell (p := ⟨xd, 2, none⟩) hly).trans y2; clear bf)))
          all_goals (
            go_wp2_with fail
            go_ret
            first
              | exact ⟨rfl, HBf.out⟩
              | exact ⟨rfl, HBf.out.drew⟩)
      · have h3' : (1500 : Int) < t.size := by omega
        clear hS hW hf1 hf2 hT
        go_enter Tryz.func3, Tryz.ntmps3
        go_wp2_with (go_at_call 7; with_reducible refine (HAw.out _ (((Below.refl w.heap.size w).push _).push _)).mono ?_; rintro r w1 ⟨rfl, b1⟩; have HB1 := Lib.hid ((((Below.refl w.heap.size w).push _).push _).call b1); clear b1)
        go_ret
        exact ⟨rfl, HB1.out⟩
    · have h2' : (1100 : Int) < m := by omega
      clear hS hW hf1 hf2 hT
      go_enter Tryz.func3, Tryz.ntmps3
      go_wp2_with (go_at_call 7; with_reducible refine (HAw.out _ (((Below.refl w.heap.size w).push _).push _)).mono ?_; rintro r w1 ⟨rfl, b1⟩; have HB1 := Lib.hid ((((Below.refl w.heap.size w).push _).push _).call b1); clear b1)
      go_ret
      exact ⟨rfl, HB1.out⟩
  · have h1' : (60 : Int) < n := by omega
    clear hS hW hf1 hf2 hT
    go_enter Tryz.func3, Tryz.ntmps3
    go_wp2_with (go_at_call 7; with_reducible refine (HAw.out _ (((Below.refl w.heap.size w).push _).push _)).mono ?_; rintro r w1 ⟨rfl, b1⟩; have HB1 := Lib.hid ((((Below.refl w.heap.size w).push _).push _).call b1); clear b1)
    go_ret
    exact ⟨rfl, HB1.out⟩

end Go.Proofs.YtmgpngfgmfdldaaGreatDoor.Jrn
