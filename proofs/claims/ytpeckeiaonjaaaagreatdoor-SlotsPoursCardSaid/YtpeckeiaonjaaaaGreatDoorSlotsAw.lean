/- What every right program does with a small disk (awake of errandlaw06): it returns true. -/
import Derived.Test.YtpeckeiaonjaaaaGreatDoorSlotsPlainG
import Derived.Test.YtpeckeiaonjaaaaGreatDoorDiskNew
import Derived.Test.YtpeckeiaonjaaaaGreatDoorCrcBuf
import Derived.Deep.RegionWith
namespace Go.Proofs.YtpeckeiaonjaaaaGreatDoor.Slt
open Go.RowKit Go.Proofs.YtpeckeiaonjaaaaGreatDoor.Dsk Go.Proofs.YtpeckeiaonjaaaaGreatDoor.Sht Go.Proofs.YtpeckeiaonjaaaaGreatDoor.Shf
open Go.Proofs.YtpeckeiaonjaaaaGreatDoor.Crc (Tab)

/-- A device in a variable. -/
structure DB (w : World) (b : Nat) (S : List ByteArray) (W : List Wr) (f : Int) : Prop where
  h : ∃ A n c A' m c', Dev w A n c A' m c' f S W ∧ St w b A n c A' m c' f

set_option maxHeartbeats 2000000 in
set_option maxRecDepth 100000 in
theorem awake_any (w : World) (hT : Tab w) : Calls Tryz.prog 6 #[] w fun r w' => r = .returned (.bool true) ∧ Below w.heap.size w w' := by
  obtain ⟨Sa, Sb, hS⟩ := shows_
  obtain ⟨pa, hone⟩ := hS.one
  obtain ⟨pb, htwo⟩ := hS.two
  obtain ⟨l1, l2, l3⟩ := hS.load
  have HN := Lib.hid (fun W => new_yes 16 W (by omega) (by omega))
  have HS1 := Lib.hid (fun W A n c A' m c' (hD : Dev W A n c A' m c' (-1) (newS 16) []) hT => save_any A n c A' m c' (-1) (newS 16) [] 1 5 5 hello W hD hT)
  have HS2 := Lib.hid (fun W A n c A' m c' (hD : Dev W A n c A' m c' (-1) Sa []) hT => save_any A n c A' m c' (-1) Sa [] 0 6 6 atext W hD hT)
  have HS3 := Lib.hid (fun W A n c A' m c' (hD : Dev W A n c A' m c' (-1) Sb []) hT => save_any A n c A' m c' (-1) Sb [] 0 7 8 long_ W hD hT)
  have HL1 := Lib.hid (fun W A n c A' m c' (hD : Dev W A n c A' m c' (-1) Sb []) hT => load_any A n c A' m c' (-1) Sb [] 1 W hD hT)
  have HL2 := Lib.hid (fun W A n c A' m c' (hD : Dev W A n c A' m c' (-1) (newS 16) []) hT => load_any A n c A' m c' (-1) (newS 16) [] 0 W hD hT)
  have HBe := Lib.hid (fun W A n c A' m c' (hD : Dev W A n c A' m c' (-1) Sb []) hT => best_any A n c A' m c' (-1) Sb [] W hD hT)
  have HTo := Lib.hid (fun W A n c A' m c' (hD : Dev W A n c A' m c' (-1) Sb []) => topD_any A n c A' m c' (-1) Sb [] W hD)
  have HDr := Lib.hid (fun W A n c A' m c' (hD : Dev W A n c A' m c' (-1) Sb []) => drain_any A n c A' m c' (-1) Sb [] 0 4 W hD)
  have HZ1 := Lib.hid (fun W => size_any 16 W)
  have HZ2 := Lib.hid (fun W => begin_any 16 W)
  have HZ3 := Lib.hid (fun W => room_any 16 W)
  have HZ4 := Lib.hid (fun W => size_any 15 W)
  rw [show ((16 : Nat) : Int) = 16 from rfl] at HN
  rw [hone] at HS1
  rw [htwo] at HS2
  rw [l1, l2, l3] at HL1
  rw [hS.none_] at HL2
  rw [hS.best] at HBe
  rw [hS.top] at HTo
  have HE3 := Lib.hid hS.full
  have HE4 := Lib.hid hS.two_
  rw [show sizR 16 = 4 from by decide] at HZ1 HZ2
  rw [show longR (sizR 16) = 140 from by decide] at HZ3
  rw [show sizR 15 = 0 from by decide] at HZ4
  unfold hello at HS1 HL1
  unfold atext at HS2 HBe
  unfold RetS at HS1 HS2 HS3
  unfold RetN at HL1 HL2
  unfold RetB at HBe
  unfold RetT at HDr
  unfold RetDE at HN
  dsimp only at HS1 HS2 HBe
  generalize saveR Sb [] (-1) 0 7 8 long_ = x3 at *
  obtain ⟨S3, W3, f3, p3, st3, e3⟩ := x3
  obtain rfl : e3 = 7 := HE3.out
  dsimp only at HS3
  generalize drainD Sb [] (-1) 0 4 = dr at *
  generalize loadDG (newS 16) [] (-1) 0 = zg at *
  generalize loadDT (newS 16) [] (-1) 0 = zt at *
  have HT := Lib.hid hT
  clear hS hone htwo l1 l2 l3 hT HE3
  go_enter Tryz.func6, Tryz.ntmps6
  go_wp2_with fail
  with_reducible refine (HN.out _).mono ?_
  rintro r w1 ⟨A1, n1, c1, A1', m1, c1', rfl, hd1, b1⟩
  have HD1 := Lib.hid (hd1.new (D33 A1 n1 c1 A1' m1 c1' (-1)))
  have HX1 := Lib.hid (St.new w1 A1 n1 c1 A1' m1 c1' (-1) 33)
  have HB1 := Lib.hid (((Below.refl w.heap.size w).call b1).push (D33 A1 n1 c1 A1' m1 c1' (-1)))
  have HT1 := Lib.hid (Shf.tab_call HT.out HB1.out)
  clear b1 hd1 HN
  have HDd := HD1
  have HXd := HX1
  clear HD1 HX1
  obtain ⟨d0, d1, d2, -, -, -⟩ := HXd.out.box
  have hld := HXd.out.lt
  go_wp2_with fail
  with_reducible refine (HS1.out _ _ _ _ _ _ _ HDd.out HT1.out).mono ?_
  clear d0 d1 d2 hld
  rintro r w2 ⟨A2, n2, c2, A2', m2, c2', rfl, hd2, b2⟩
  have HB2 := Lib.hid ((HB1.out.call b2).push (D33 A2 n2 c2 A2' m2 c2' (-1)))
  have HT2 := Lib.hid (Shf.tab_call HT1.out ((Below.refl _ _).call b2 |>.push (D33 A2 n2 c2 A2' m2 c2' (-1))))
  have HDd' := Lib.hid ((HDd.out.below b2).new (D33 A2 n2 c2 A2' m2 c2' (-1)))
  have HXd' := Lib.hid ((HXd.out.call b2).alloc (D33 A2 n2 c2 A2' m2 c2' (-1)))
  clear HDd HXd
  have HDd := HDd'
  have HXd := HXd'
  clear HDd' HXd'
  have HDa := Lib.hid (hd2.new (D33 A2 n2 c2 A2' m2 c2' (-1)))
  have HXa := Lib.hid (St.new w2 A2 n2 c2 A2' m2 c2' (-1) 33)
  clear b2 hd2 HB1 HT1
  obtain ⟨d0, d1, d2, -, -, -⟩ := HXd.out.box
  have hld := HXd.out.lt
  obtain ⟨a0, a1, a2, -, -, -⟩ := HXa.out.box
  have hla := HXa.out.lt
  go_wp2_with fail
  with_reducible refine (HS2.out _ _ _ _ _ _ _ HDa.out HT2.out).mono ?_
  clear d0 d1 d2 a0 a1 a2 hld hla
  rintro r w3 ⟨A3, n3, c3, A3', m3, c3', rfl, hd3, b3⟩
  have HB3 := Lib.hid ((HB2.out.call b3).push (D33 A3 n3 c3 A3' m3 c3' (-1)))
  have HT3 := Lib.hid (Shf.tab_call HT2.out ((Below.refl _ _).call b3 |>.push (D33 A3 n3 c3 A3' m3 c3' (-1))))
  have HDd' := Lib.hid ((HDd.out.below b3).new (D33 A3 n3 c3 A3' m3 c3' (-1)))
  have HXd' := Lib.hid ((HXd.out.call b3).alloc (D33 A3 n3 c3 A3' m3 c3' (-1)))
  clear HDd HXd
  have HDd := HDd'
  have HXd := HXd'
  clear HDd' HXd'
  have HDa' := Lib.hid ((HDa.out.below b3).new (D33 A3 n3 c3 A3' m3 c3' (-1)))
  have HXa' := Lib.hid ((HXa.out.call b3).alloc (D33 A3 n3 c3 A3' m3 c3' (-1)))
  clear HDa HXa
  have HDa := HDa'
  have HXa := HXa'
  clear HDa' HXa'
  have HDb := Lib.hid (hd3.new (D33 A3 n3 c3 A3' m3 c3' (-1)))
  have HXb := Lib.hid (St.new w3 A3 n3 c3 A3' m3 c3' (-1) 33)
  clear b3 hd3 HB2 HT2
  clear HDa HXa
  obtain ⟨d0, d1, d2, -, -, -⟩ := HXd.out.box
  have hld := HXd.out.lt
  obtain ⟨b0, b1, b2, -, -, -⟩ := HXb.out.box
  have hlb := HXb.out.lt
  go_wp2_with fail
  with_reducible refine (HL1.out _ _ _ _ _ _ _ HDb.out HT3.out).mono ?_
  clear d0 d1 d2 b0 b1 b2 hld hlb
  rintro r w4 ⟨rfl, b4⟩
  have HB4 := Lib.hid ((HB3.out.call b4).push (.cells #[.int .i64 5, .string ⟨#[104, 101, 108, 108, 111]⟩] 50))
  have HT4 := Lib.hid (Shf.tab_call HT3.out ((Below.refl _ _).call b4 |>.push (.cells #[.int .i64 5, .string ⟨#[104, 101, 108, 108, 111]⟩] 50)))
  have HDd' := Lib.hid ((HDd.out.below b4).new (.cells #[.int .i64 5, .string ⟨#[104, 101, 108, 108, 111]⟩] 50))
  have HXd' := Lib.hid ((HXd.out.call b4).alloc (.cells #[.int .i64 5, .string ⟨#[104, 101, 108, 108, 111]⟩] 50))
  clear HDd HXd
  have HDd := HDd'
  have HXd := HXd'
  clear HDd' HXd'
  have HDb' := Lib.hid ((HDb.out.below b4).new (.cells #[.int .i64 5, .string ⟨#[104, 101, 108, 108, 111]⟩] 50))
  have HXb' := Lib.hid ((HXb.out.call b4).alloc (.cells #[.int .i64 5, .string ⟨#[104, 101, 108, 108, 111]⟩] 50))
  clear HDb HXb
  have HDb := HDb'
  have HXb := HXb'
  clear HDb' HXb'
  have HNx := Lib.hid (Bx2.new w4 (.int .i64 5) (.string ⟨#[104, 101, 108, 108, 111]⟩) 50)
  clear b4 HB3 HT3
  obtain ⟨d0, d1, d2, -, -, -⟩ := HXd.out.box
  have hld := HXd.out.lt
  obtain ⟨b0, b1, b2, -, -, -⟩ := HXb.out.box
  have hlb := HXb.out.lt
  obtain ⟨x0, x1, -, -⟩ := HNx.out
  have hlx := HNx.out.lt
  go_wp2_with fail
  with_reducible refine (HBe.out _ _ _ _ _ _ _ HDb.out HT4.out).mono ?_
  clear d0 d1 d2 b0 b1 b2 hld hlb x0 x1 hlx
  rintro r w5 ⟨rfl, b5⟩
  have HB5 := Lib.hid ((HB4.out.call b5).push (.cells #[.int .i64 6, .string ⟨#[97, 32, 116, 101, 120, 116, 32, 116, 104, 97, 116, 32, 100, 111, 101, 115, 32, 110, 111, 116, 32, 102, 105, 116, 32, 105, 110, 116, 111, 32, 111, 110, 101, 32, 115, 104, 101, 101, 116, 32, 97, 108, 111, 110, 101]⟩] 50))
  have HT5 := Lib.hid (Shf.tab_call HT4.out ((Below.refl _ _).call b5 |>.push (.cells #[.int .i64 6, .string ⟨#[97, 32, 116, 101, 120, 116, 32, 116, 104, 97, 116, 32, 100, 111, 101, 115, 32, 110, 111, 116, 32, 102, 105, 116, 32, 105, 110, 116, 111, 32, 111, 110, 101, 32, 115, 104, 101, 101, 116, 32, 97, 108, 111, 110, 101]⟩] 50)))
  have HDd' := Lib.hid ((HDd.out.below b5).new (.cells #[.int .i64 6, .string ⟨#[97, 32, 116, 101, 120, 116, 32, 116, 104, 97, 116, 32, 100, 111, 101, 115, 32, 110, 111, 116, 32, 102, 105, 116, 32, 105, 110, 116, 111, 32, 111, 110, 101, 32, 115, 104, 101, 101, 116, 32, 97, 108, 111, 110, 101]⟩] 50))
  have HXd' := Lib.hid ((HXd.out.call b5).alloc (.cells #[.int .i64 6, .string ⟨#[97, 32, 116, 101, 120, 116, 32, 116, 104, 97, 116, 32, 100, 111, 101, 115, 32, 110, 111, 116, 32, 102, 105, 116, 32, 105, 110, 116, 111, 32, 111, 110, 101, 32, 115, 104, 101, 101, 116, 32, 97, 108, 111, 110, 101]⟩] 50))
  clear HDd HXd
  have HDd := HDd'
  have HXd := HXd'
  clear HDd' HXd'
  have HDb' := Lib.hid ((HDb.out.below b5).new (.cells #[.int .i64 6, .string ⟨#[97, 32, 116, 101, 120, 116, 32, 116, 104, 97, 116, 32, 100, 111, 101, 115, 32, 110, 111, 116, 32, 102, 105, 116, 32, 105, 110, 116, 111, 32, 111, 110, 101, 32, 115, 104, 101, 101, 116, 32, 97, 108, 111, 110, 101]⟩] 50))
  have HXb' := Lib.hid ((HXb.out.call b5).alloc (.cells #[.int .i64 6, .string ⟨#[97, 32, 116, 101, 120, 116, 32, 116, 104, 97, 116, 32, 100, 111, 101, 115, 32, 110, 111, 116, 32, 102, 105, 116, 32, 105, 110, 116, 111, 32, 111, 110, 101, 32, 115, 104, 101, 101, 116, 32, 97, 108, 111, 110, 101]⟩] 50))
  clear HDb HXb
  have HDb := HDb'
  have HXb := HXb'
  clear HDb' HXb'
  have HNx' := Lib.hid ((HNx.out.call b5).alloc (.cells #[.int .i64 6, .string ⟨#[97, 32, 116, 101, 120, 116, 32, 116, 104, 97, 116, 32, 100, 111, 101, 115, 32, 110, 111, 116, 32, 102, 105, 116, 32, 105, 110, 116, 111, 32, 111, 110, 101, 32, 115, 104, 101, 101, 116, 32, 97, 108, 111, 110, 101]⟩] 50))
  clear HNx
  have HNx := HNx'
  clear HNx'
  have HNy := Lib.hid (Bx2.new w5 (.int .i64 6) (.string ⟨#[97, 32, 116, 101, 120, 116, 32, 116, 104, 97, 116, 32, 100, 111, 101, 115, 32, 110, 111, 116, 32, 102, 105, 116, 32, 105, 110, 116, 111, 32, 111, 110, 101, 32, 115, 104, 101, 101, 116, 32, 97, 108, 111, 110, 101]⟩) 50)
  clear b5 HB4 HT4
  obtain ⟨d0, d1, d2, -, -, -⟩ := HXd.out.box
  have hld := HXd.out.lt
  obtain ⟨b0, b1, b2, -, -, -⟩ := HXb.out.box
  have hlb := HXb.out.lt
  obtain ⟨x0, x1, -, -⟩ := HNx.out
  have hlx := HNx.out.lt
  obtain ⟨y0, y1, -, -⟩ := HNy.out
  have hly := HNy.out.lt
  go_wp2_with fail
  with_reducible refine (HL2.out _ _ _ _ _ _ _ HDd.out HT5.out).mono ?_
  clear d0 d1 d2 b0 b1 b2 hld hlb x0 x1 y0 y1 hlx hly
  rintro r w6 ⟨rfl, b6⟩
  have HB6 := Lib.hid ((HB5.out.call b6).push (.cells #[.int .i64 zg, .string zt] 50))
  have HT6 := Lib.hid (Shf.tab_call HT5.out ((Below.refl _ _).call b6 |>.push (.cells #[.int .i64 zg, .string zt] 50)))
  have HDd' := Lib.hid ((HDd.out.below b6).new (.cells #[.int .i64 zg, .string zt] 50))
  have HXd' := Lib.hid ((HXd.out.call b6).alloc (.cells #[.int .i64 zg, .string zt] 50))
  clear HDd HXd
  have HDd := HDd'
  have HXd := HXd'
  clear HDd' HXd'
  have HDb' := Lib.hid ((HDb.out.below b6).new (.cells #[.int .i64 zg, .string zt] 50))
  have HXb' := Lib.hid ((HXb.out.call b6).alloc (.cells #[.int .i64 zg, .string zt] 50))
  clear HDb HXb
  have HDb := HDb'
  have HXb := HXb'
  clear HDb' HXb'
  have HNx' := Lib.hid ((HNx.out.call b6).alloc (.cells #[.int .i64 zg, .string zt] 50))
  clear HNx
  have HNx := HNx'
  clear HNx'
  have HNy' := Lib.hid ((HNy.out.call b6).alloc (.cells #[.int .i64 zg, .string zt] 50))
  clear HNy
  have HNy := HNy'
  clear HNy'
  have HNz := Lib.hid (Bx2.new w6 (.int .i64 zg) (.string zt) 50)
  clear b6 HB5 HT5
  clear HDd HXd HNz
  go_upto_region 9 with fail
  generalize (w6.alloc (.cells #[.int .i64 zg, .string zt] 50)) = W6 at *
  have hmk : ∀ W, (Instr.makeSlice 71 (.int .i64 141) (.int .i64 141)).run Tryz.prog W = .ok (.slice (some ⟨W.heap.size, 0, none⟩) 141 141) (W.alloc (.cells (madeCells #[.int .u8 0] 141) 5)) := fun W => by
    have := run_make_row' (P := Tryz.prog) 71 5 (.int .u8 0) 1 Tryz.underlying71 info5 rfl .i64 .i64 141 (by decide) (by decide) W
    exact_mod_cast this
  have hcv : ∀ (W : World) (g : Nat), W.heap[g]? = some (.cells (madeCells #[.int .u8 0] 141) 5) → (convert 71 9 (.slice (some ⟨g, 0, none⟩) 141 141)).run Tryz.prog W = .ok (.string long_) W := fun W g hW => by
    have hB : Crc.Buf W g (List.replicate 141 0) := ⟨[], (0, 0), by intro j _; omega, by
      rw [hW]
      congr 2
      rw [List.append_nil]
      apply Array.toList_inj.1
      rw [toList_madeCells_one]
      simp [Crc.bv]⟩
    have := Crc.conv_back (cap := 141) hB
    rw [List.length_replicate] at this
    exact this
  have E1 : (convert 71 9 (.slice (some ⟨W6.heap.size, 0, none⟩) 141 141)).run Tryz.prog (W6.alloc (.cells (madeCells #[.int .u8 0] 141) 5)).drew = .ok (.string long_) (W6.alloc (.cells (madeCells #[.int .u8 0] 141) 5)).drew := hcv _ _ (World.alloc_heap_new W6 _)
  have E2 : (convert 71 9 (.slice (some ⟨W6.heap.size, 0, none⟩) 141 141)).run Tryz.prog ((W6.alloc (.cells (madeCells #[.int .u8 0] 141) 5)).alloc (D33 none 0 0 none 0 0 0)).drew = .ok (.string long_) ((W6.alloc (.cells (madeCells #[.int .u8 0] 141) 5)).alloc (D33 none 0 0 none 0 0 0)).drew := hcv _ _ ((Below.heap_alloc _ _ _ (by simp)).trans (World.alloc_heap_new W6 _))
  have E3 : (convert 71 9 (.slice (some ⟨W6.heap.size + 1, 0, none⟩) 141 141)).run Tryz.prog ((W6.alloc (D33 none 0 0 none 0 0 0)).alloc (.cells (madeCells #[.int .u8 0] 141) 5)).drew = .ok (.string long_) ((W6.alloc (D33 none 0 0 none 0 0 0)).alloc (.cells (madeCells #[.int .u8 0] 141) 5)).drew := hcv _ _ (by have := World.alloc_heap_new (W6.alloc (D33 none 0 0 none 0 0 0)) (.cells (madeCells #[.int .u8 0] 141) 5); rw [World.size_alloc] at this; exact this)
  clear hcv
  go_cut [18] (fun s18 wx => s18 = .int .i64 7 ∧ Hid (Below W6.heap.size W6 wx))
  case first =>
    obtain ⟨b0, b1, b2, -, -, -⟩ := HXb.out.box
    have hlb := HXb.out.lt
    go_region_with (go_at_call 12; with_reducible refine (HS3.out _ _ _ _ _ _ _ (HDb.out.below (by repeat (first | exact Below.refl _ _ | refine Below.push ?_ _ | refine Below.drew ?_))) (Shf.tab_call HT6.out (by repeat (first | exact Below.refl _ _ | refine Below.push ?_ _ | refine Below.drew ?_)))).mono ?_; rintro r w7 ⟨A7, n7, c7, A7', m7, c7', rfl, hd7, hb7⟩; have HB7 : Hid (Below W6.heap.size W6 w7) := Lib.hid (Below.call (by repeat (first | exact Below.refl _ _ | refine Below.push ?_ _ | refine Below.drew ?_)) hb7); obtain ⟨hc7, hf7⟩ := bcell hb7; clear hd7 hb7)
    all_goals (
      go_wp2_with fail
      go_meet
      refine ⟨rfl, Lib.hid ?_⟩
      first
        | exact HB7.out
        | exact HB7.out.push _
        | exact HB7.out.set3 (by omega) _ _ _
        | exact HB7.out.set3 (by simp) _ _ _
        | exact (HB7.out.push _).drew
        | exact (HB7.out.set3 (by omega) _ _ _).drew)
  case rest =>
    obtain ⟨rfl, hwx⟩ := hcut
    have HB7 := Lib.hid (HB6.out.call hwx.out)
    have HXb7 := Lib.hid (HXb.out.call hwx.out)
    have HDb7 := Lib.hid (HDb.out.below hwx.out)
    have HNx7 := Lib.hid (HNx.out.call hwx.out)
    have HNy7 := Lib.hid (HNy.out.call hwx.out)
    have HTT := Lib.hid (HTo.out wc _ _ _ _ _ _ HDb7.out)
    clear hwx HXb HDb HNx HNy HB6 HTo E1 E2 E3 hmk
    obtain ⟨b0, b1, b2, -, -, -⟩ := HXb7.out.box
    have hlb := HXb7.out.lt
    obtain ⟨x0, x1, -, -⟩ := HNx7.out
    have hlx := HNx7.out.lt
    obtain ⟨y0, y1, -, -⟩ := HNy7.out
    have hly := HNy7.out.lt
    go_wp2_with (first | (go_at_call 23; with_reducible refine (HZ1.out _).mono ?_; rintro r w8 ⟨rfl, rfl⟩) | (go_at_call 23; with_reducible refine (HZ4.out _).mono ?_; rintro r w8 ⟨rfl, rfl⟩) | (go_at_call 25; with_reducible refine (HZ2.out _).mono ?_; rintro r w8 ⟨rfl, rfl⟩) | (go_at_call 27; with_reducible refine (HZ3.out _).mono ?_; rintro r w8 ⟨rfl, rfl⟩))
    with_reducible refine HTT.out.mono ?_
    rintro r w8 ⟨rfl, b8⟩
    have HB8 := Lib.hid (HB7.out.call b8)
    have HDD := Lib.hid (HDr.out w8 _ _ _ _ _ _ (HDb7.out.below b8))
    have HX8 := Lib.hid (HXb7.out.call b8)
    obtain ⟨b0, b1, b2, -, -, -⟩ := HX8.out.box
    clear b8 HTT HB7 HXb7 HDb7 HDr
    go_wp2_with fail
    with_reducible refine HDD.out.mono ?_
    rintro r w9 ⟨A9, m9, c9, rfl, hr9, b9⟩
    have HB9 := Lib.hid (HB8.out.call b9)
    obtain rfl : m9 = 2 := by rw [← hr9.sec]; exact HE4.out
    clear b9 hr9 HDD HB8
    go_wp2_with fail
    go_ret
    exact ⟨rfl, HB9.out⟩

end Go.Proofs.YtpeckeiaonjaaaaGreatDoor.Slt
