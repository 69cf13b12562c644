/- What every right program does with a text and a record (awake of errandlaw08): it returns true. -/
import Derived.Test.YtkglolnghihegaaGreatDoorStoC
import Derived.Test.YtkglolnghihegaaGreatDoorDiskNew
namespace Go.Proofs.YtkglolnghihegaaGreatDoor.Sto
open Go.RowKit Go.Proofs.YtkglolnghihegaaGreatDoor.Dsk Go.Proofs.YtkglolnghihegaaGreatDoor.Slt Go.Proofs.YtkglolnghihegaaGreatDoor.Jrn
open Go.Proofs.YtkglolnghihegaaGreatDoor.Crc (Tab)

theorem sameD_refl (S : List ByteArray) (V : List Wr) (f : Int) : sameD S V f S V f = true := by unfold sameD; simp
theorem sameT_refl (S : List ByteArray) (V : List Wr) (f : Int) (x : Nm) : sameT S V f x S V f x = true := by unfold sameT; rw [sameD_refl]; simp

set_option maxHeartbeats 4000000 in
set_option maxRecDepth 100000 in
theorem awakeS_any (w : World) (hT : Tab w) : Calls Tryz.prog 7 #[] w fun r w' => r = .returned (.bool true) ∧ Below w.heap.size w w' := by
  obtain ⟨Sa, Sb, hS⟩ := aws
  have HN := Lib.hid (fun W => new_yes 16 W (by omega) (by omega))
  rw [show ((16 : Nat) : Int) = 16 from rfl] at HN
  have HO1 := Lib.hid (fun W A n c A' m c' (hD : Dev W A n c A' m c' (-1) (newS 16) []) hT => open_is A n c A' m c' (-1) (newS 16) [] W hD hT hS.oe)
  rw [hS.ox, hS.ot, hS.ol] at HO1
  have HL0 := Lib.hid (fun W A n c A' m c' (hD : Dev W A n c A' m c' (-1) (newS 16) []) hT => log_any A n c A' m c' (-1) (newS 16) [] W hD hT ⟨1, 0, 1, 8, 0, false⟩ xT)
  rw [hS.dead] at HL0
  have HS1 := Lib.hid (fun W A n c A' m c' (hD : Dev W A n c A' m c' (-1) (newS 16) []) hT => sav_any A n c A' m c' (-1) (newS 16) [] W hD hT ⟨1, 0, 1, 8, 0, false⟩ allT (by decide) (by decide))
  rw [hS.sav] at HS1
  have HL1 := Lib.hid (fun W A n c A' m c' (hD : Dev W A n c A' m c' (-1) Sa []) hT => log_any A n c A' m c' (-1) Sa [] W hD hT ⟨0, 1, 2, 8, 0, true⟩ oneT)
  rw [hS.log] at HL1
  have HO2 := Lib.hid (fun W A n c A' m c' (hD : Dev W A n c A' m c' (-1) Sb []) hT => open_is A n c A' m c' (-1) Sb [] W hD hT hS.pe)
  rw [hS.px, hS.pt, hS.pl] at HO2
  have HF1 := Lib.hid (fun W A n c A' m c' (hD : Dev W A n c A' m c' (-1) Sb []) => sfits_any A n c A' m c' (-1) Sb [] W hD ⟨0, 1, 3, 9, 1, true⟩ 251 (by decide))
  have HF2 := Lib.hid (fun W A n c A' m c' (hD : Dev W A n c A' m c' (-1) Sb []) => sfits_any A n c A' m c' (-1) Sb [] W hD ⟨0, 1, 3, 9, 1, true⟩ 252 (by decide))
  rw [hS.lb, show fitsR ((16 : Nat) : Int) 9 251 = true from by decide] at HF1
  rw [hS.lb, show fitsR ((16 : Nat) : Int) 9 252 = false from by decide] at HF2
  have HM1 := Lib.hid (fun W A n c A' m c' (hD : Dev W A n c A' m c' (-1) (newS 16) []) => ssame_any A n c A' m c' (-1) (newS 16) [] A n c A' m c' (-1) (newS 16) [] W hD hD ⟨1, 0, 1, 8, 0, false⟩ ⟨1, 0, 1, 8, 0, false⟩)
  rw [sameT_refl] at HM1
  have HM2 := Lib.hid (fun W A n c A' m c' B p d B' q d' (hD : Dev W A n c A' m c' (-1) (newS 16) []) (hE : Dev W B p d B' q d' (-1) Sa []) => ssame_any A n c A' m c' (-1) (newS 16) [] B p d B' q d' (-1) Sa [] W hD hE ⟨1, 0, 1, 8, 0, false⟩ ⟨0, 1, 2, 8, 0, true⟩)
  rw [show sameT (newS 16) [] (-1) ⟨1, 0, 1, 8, 0, false⟩ Sa [] (-1) ⟨0, 1, 2, 8, 0, true⟩ = false from by unfold sameT; simp] at HM2
  unfold xT at HL0
  unfold allT at HS1 HO2
  unfold oneT at HL1
  unfold RetT at HL0 HS1 HL1
  unfold RetOG at HO1 HO2
  unfold RetDE at HN
  dsimp only at HL0 HS1 HL1 HO1 HO2 HF1 HF2 HM1 HM2
  have HT := Lib.hid hT
  clear hS hT
  go_enter Tryz.func7, Tryz.ntmps7
  go_wp2_with fail
  with_reducible refine (HN.out _).mono ?_
  rintro r w1 ⟨A1, n1, c1, A1', m1, c1', rfl, hd1, b1⟩
  have HB1 := Lib.hid (((Below.refl w.heap.size w).call b1).push (D33 A1 n1 c1 A1' m1 c1' (-1)))
  have HT1 := Lib.hid (Shf.tab_call HT.out HB1.out)
  have HDd := Lib.hid (hd1.new (D33 A1 n1 c1 A1' m1 c1' (-1)))
  have HXd := Lib.hid (St.new w1 A1 n1 c1 A1' m1 c1' (-1) 29)
  clear b1 hd1
  obtain ⟨d0, d1, d2, -, -, -⟩ := HXd.out.box
  have hld := HXd.out.lt
  go_wp2_with fail
  with_reducible refine (HO1.out _ _ _ _ _ _ _ HDd.out HT1.out).mono ?_
  clear d0 d1 d2 hld
  rintro r w2 ⟨A2, n2, c2, A2', m2, c2', B2, q2, e2, rfl, hd2, hr2, b2⟩
  obtain rfl : 0 = q2 := hr2.sec
  have HB2 := Lib.hid ((HB1.out.call b2).push (TO 31 A2 n2 c2 A2' m2 c2' (-1) 1 0 1 8 0 false))
  have HT2 := Lib.hid (Shf.tab_call HT.out HB2.out)
  have HDa := Lib.hid (hd2.new (TO 31 A2 n2 c2 A2' m2 c2' (-1) 1 0 1 8 0 false))
  have HXa := Lib.hid (Sy.new 31 w2 A2 n2 c2 A2' m2 c2' (-1) 1 0 1 8 0 false)
  clear b2 hd2 hr2 HB1 HT1 HDd HXd
  obtain ⟨a0, a1, a2, a3, a4, a5, a6, a7, a8⟩ := HXa.out.cells
  have hla := HXa.out.lt
  go_wp2_with fail
  with_reducible refine (HL0.out _ _ _ _ _ _ _ HDa.out HT2.out).mono ?_
  clear a0 a1 a2 a3 a4 a5 a6 a7 a8 hla
  rintro r w3 ⟨A3, n3, c3, A3', m3, c3', rfl, hd3, b3⟩
  have HDa' := Lib.hid ((HDa.out.below b3).new (TO 31 A3 n3 c3 A3' m3 c3' (-1) 1 0 1 8 0 false))
  have HXa' := Lib.hid ((HXa.out.call b3).alloc (TO 31 A3 n3 c3 A3' m3 c3' (-1) 1 0 1 8 0 false))
  clear HDa HXa
  have HDa := HDa'
  have HXa := HXa'
  clear HDa' HXa'
  have HB3 := Lib.hid ((HB2.out.call b3).push (TO 31 A3 n3 c3 A3' m3 c3' (-1) 1 0 1 8 0 false))
  have HT3 := Lib.hid (Shf.tab_call HT.out HB3.out)
  have HDx := Lib.hid (hd3.new (TO 31 A3 n3 c3 A3' m3 c3' (-1) 1 0 1 8 0 false))
  have HXx := Lib.hid (Sy.new 31 w3 A3 n3 c3 A3' m3 c3' (-1) 1 0 1 8 0 false)
  clear b3 hd3 HB2 HT2 HDx HXx
  obtain ⟨a0, a1, a2, a3, a4, a5, a6, a7, a8⟩ := HXa.out.cells
  have hla := HXa.out.lt
  go_wp2_with fail
  with_reducible refine (HS1.out _ _ _ _ _ _ _ HDa.out HT3.out).mono ?_
  clear a0 a1 a2 a3 a4 a5 a6 a7 a8 hla
  rintro r w4 ⟨A4, n4, c4, A4', m4, c4', rfl, hd4, b4⟩
  have HDa' := Lib.hid ((HDa.out.below b4).new (TO 31 A4 n4 c4 A4' m4 c4' (-1) 0 1 2 8 0 true))
  have HXa' := Lib.hid ((HXa.out.call b4).alloc (TO 31 A4 n4 c4 A4' m4 c4' (-1) 0 1 2 8 0 true))
  clear HDa HXa
  have HDa := HDa'
  have HXa := HXa'
  clear HDa' HXa'
  have HB4 := Lib.hid ((HB3.out.call b4).push (TO 31 A4 n4 c4 A4' m4 c4' (-1) 0 1 2 8 0 true))
  have HT4 := Lib.hid (Shf.tab_call HT.out HB4.out)
  have HDb := Lib.hid (hd4.new (TO 31 A4 n4 c4 A4' m4 c4' (-1) 0 1 2 8 0 true))
  have HXb := Lib.hid (Sy.new 31 w4 A4 n4 c4 A4' m4 c4' (-1) 0 1 2 8 0 true)
  clear b4 hd4 HB3 HT3
  obtain ⟨b0, b1, b2, b3, b4, b5, b6, b7, b8⟩ := HXb.out.cells
  have hlb := HXb.out.lt
  go_wp2_with fail
  with_reducible refine (HL1.out _ _ _ _ _ _ _ HDb.out HT4.out).mono ?_
  clear b0 b1 b2 b3 b4 b5 b6 b7 b8 hlb
  rintro r w5 ⟨A5, n5, c5, A5', m5, c5', rfl, hd5, b5⟩
  have HDa' := Lib.hid ((HDa.out.below b5).new (TO 31 A5 n5 c5 A5' m5 c5' (-1) 0 1 3 9 1 true))
  have HXa' := Lib.hid ((HXa.out.call b5).alloc (TO 31 A5 n5 c5 A5' m5 c5' (-1) 0 1 3 9 1 true))
  clear HDa HXa
  have HDa := HDa'
  have HXa := HXa'
  clear HDa' HXa'
  have HDb' := Lib.hid ((HDb.out.below b5).new (TO 31 A5 n5 c5 A5' m5 c5' (-1) 0 1 3 9 1 true))
  have HXb' := Lib.hid ((HXb.out.call b5).alloc (TO 31 A5 n5 c5 A5' m5 c5' (-1) 0 1 3 9 1 true))
  clear HDb HXb
  have HDb := HDb'
  have HXb := HXb'
  clear HDb' HXb'
  have HB5 := Lib.hid ((HB4.out.call b5).push (TO 31 A5 n5 c5 A5' m5 c5' (-1) 0 1 3 9 1 true))
  have HT5 := Lib.hid (Shf.tab_call HT.out HB5.out)
  have HDc := Lib.hid (hd5.new (TO 31 A5 n5 c5 A5' m5 c5' (-1) 0 1 3 9 1 true))
  have HXc := Lib.hid (Sy.new 31 w5 A5 n5 c5 A5' m5 c5' (-1) 0 1 3 9 1 true)
  clear b5 hd5 HB4 HT4
  obtain ⟨k0, k1, k2, k3, k4, k5, k6, k7, k8⟩ := HXc.out.cells
  have hlc := HXc.out.lt
  go_wp2_with fail
  with_reducible refine (HO2.out _ _ _ _ _ _ _ HDc.out HT5.out).mono ?_
  clear k0 k1 k2 k3 k4 k5 k6 k7 k8 hlc
  rintro r w6 ⟨A6, n6, c6, A6', m6, c6', B6, q6, e6, rfl, hd6, hr6, b6⟩
  obtain rfl : 1 = q6 := hr6.sec
  have HDa' := Lib.hid ((HDa.out.below b6).new (TO 31 A6 n6 c6 A6' m6 c6' (-1) 0 1 3 9 1 false))
  have HXa' := Lib.hid ((HXa.out.call b6).alloc (TO 31 A6 n6 c6 A6' m6 c6' (-1) 0 1 3 9 1 false))
  clear HDa HXa
  have HDa := HDa'
  have HXa := HXa'
  clear HDa' HXa'
  have HDb' := Lib.hid ((HDb.out.below b6).new (TO 31 A6 n6 c6 A6' m6 c6' (-1) 0 1 3 9 1 false))
  have HXb' := Lib.hid ((HXb.out.call b6).alloc (TO 31 A6 n6 c6 A6' m6 c6' (-1) 0 1 3 9 1 false))
  clear HDb HXb
  have HDb := HDb'
  have HXb := HXb'
  clear HDb' HXb'
  have HDc' := Lib.hid ((HDc.out.below b6).new (TO 31 A6 n6 c6 A6' m6 c6' (-1) 0 1 3 9 1 false))
  have HXc' := Lib.hid ((HXc.out.call b6).alloc (TO 31 A6 n6 c6 A6' m6 c6' (-1) 0 1 3 9 1 false))
  clear HDc HXc
  have HDc := HDc'
  have HXc := HXc'
  clear HDc' HXc'
  have HB6 := Lib.hid ((HB5.out.call b6).push (TO 31 A6 n6 c6 A6' m6 c6' (-1) 0 1 3 9 1 false))
  have HT6 := Lib.hid (Shf.tab_call HT.out HB6.out)
  have HDz := Lib.hid (hd6.new (TO 31 A6 n6 c6 A6' m6 c6' (-1) 0 1 3 9 1 false))
  have HXz := Lib.hid (Sy.new 31 w6 A6 n6 c6 A6' m6 c6' (-1) 0 1 3 9 1 false)
  have HR6 := Lib.hid (hr6.below (new1 w6 (TO 31 A6 n6 c6 A6' m6 c6' (-1) 0 1 3 9 1 false)))
  clear b6 hd6 hr6 HB5 HT5 HDz
  obtain ⟨g, off, rfl, hg, hcl⟩ := HR6.out.2 (by decide)
  have t0 := hcl 0 (by decide)
  rw [show (SV [oneT])[0]'(by decide) = .string ⟨#[111, 110, 101]⟩ from rfl, Nat.add_zero] at t0
  clear hcl
  go_upto_region 9 with fail
  generalize w6.alloc (TO 31 A6 n6 c6 A6' m6 c6' (-1) 0 1 3 9 1 false) = w7 at *
  obtain ⟨a0, a1, a2, a3, a4, a5, a6, a7, a8⟩ := HXa.out.cells
  have hla := HXa.out.lt
  obtain ⟨b0, b1, b2, b3, b4, b5, b6, b7, b8⟩ := HXb.out.cells
  have hlb := HXb.out.lt
  obtain ⟨k0, k1, k2, k3, k4, k5, k6, k7, k8⟩ := HXc.out.cells
  have hlc := HXc.out.lt
  obtain ⟨z0, z1, z2, z3, z4, z5, z6, z7, z8⟩ := HXz.out.cells
  have hlz := HXz.out.lt
  go_wp2_with (first | (go_at_call 19; with_reducible refine (HF1.out _ _ _ _ _ _ _ HDc.out).mono ?_; rintro r w8 ⟨rfl, b8⟩; have HB8 := Lib.hid b8; obtain ⟨k0x, k1x, k2x, k3x, k4x, k5x, k6x, k7x, k8x⟩ := (HXc.out.call b8).cells; have hlcx := (HXc.out.call b8).lt; clear b8) | (go_at_call 19; with_reducible refine (HF2.out _ _ _ _ _ _ _ (HDc.out.below HB8.out)).mono ?_; rintro r w9 ⟨rfl, b9⟩; have HB9 := Lib.hid (HB8.out.call b9); obtain ⟨a0x, a1x, a2x, a3x, a4x, a5x, a6x, a7x, a8x⟩ := (HXa.out.call (HB8.out.call b9)).cells; have hlax := (HXa.out.call (HB8.out.call b9)).lt; clear b9) | (go_at_call 21; with_reducible refine (HM1.out _ _ _ _ _ _ _ (HDa.out.below HB9.out)).mono ?_; rintro r w10 ⟨rfl, b10⟩; have HB10 := Lib.hid (HB9.out.call b10); obtain ⟨a0y, a1y, a2y, a3y, a4y, a5y, a6y, a7y, a8y⟩ := (HXa.out.call (HB9.out.call b10)).cells; have hlay := (HXa.out.call (HB9.out.call b10)).lt; obtain ⟨b0y, b1y, b2y, b3y, b4y, b5y, b6y, b7y, b8y⟩ := (HXb.out.call (HB9.out.call b10)).cells; have hlby := (HXb.out.call (HB9.out.call b10)).lt; clear b10) | (go_at_call 21; with_reducible refine (HM2.out _ _ _ _ _ _ _ _ _ _ _ _ _ (HDa.out.below HB10.out) (HDb.out.below HB10.out)).mono ?_; rintro r w11 ⟨rfl, b11⟩; have HB11 := Lib.hid (HB10.out.call b11); clear b11))
  go_ret
  exact ⟨rfl, HB6.out.call HB11.out⟩

end Go.Proofs.YtkglolnghihegaaGreatDoor.Sto
