/- What every right program does with two records (awake of errandlaw07): it returns true. -/
import Derived.Test.YtmgpngfgmfdldaaGreatDoorJrnP
import Derived.Test.YtmgpngfgmfdldaaGreatDoorJrnPut
import Derived.Test.YtmgpngfgmfdldaaGreatDoorJrnC
import Derived.Test.YtmgpngfgmfdldaaGreatDoorDiskNew
namespace Go.Proofs.YtmgpngfgmfdldaaGreatDoor.Jrn
open Go.RowKit Go.Proofs.YtmgpngfgmfdldaaGreatDoor.Dsk Go.Proofs.YtmgpngfgmfdldaaGreatDoor.Sht Go.Proofs.YtmgpngfgmfdldaaGreatDoor.Shf Go.Proofs.YtmgpngfgmfdldaaGreatDoor.Slt
open Go.Proofs.YtmgpngfgmfdldaaGreatDoor.Crc (Tab)

set_option maxHeartbeats 4000000 in
set_option maxRecDepth 100000 in
theorem awakeJ_any (w : World) (hT : Tab w) : Calls Tryz.prog 7 #[] w fun r w' => r = .returned (.bool true) ∧ Below w.heap.size w w' := by
  obtain ⟨Sa, Sb, hS⟩ := awj
  obtain ⟨k1, k2, k3⟩ := hS.scan
  have HN := Lib.hid (fun W => new_yes 16 W (by omega) (by omega))
  have HS1 := Lib.hid (fun W A n c A' m c' (hD : Dev W A n c A' m c' (-1) (newS 16) []) hT => put_any A n c A' m c' (-1) (newS 16) [] 8 3 0 5 oneT W hD hT)
  have HS2 := Lib.hid (fun W A n c A' m c' (hD : Dev W A n c A' m c' (-1) Sa []) hT => put_any A n c A' m c' (-1) Sa [] 9 3 1 6 secondT W hD hT)
  have HS3 := Lib.hid (fun W A n c A' m c' (hD : Dev W A n c A' m c' (-1) (newS 16) []) hT => put_any A n c A' m c' (-1) (newS 16) [] 7 3 0 5 ⟨#[]⟩ W hD hT)
  have HS4 := Lib.hid (fun W A n c A' m c' (hD : Dev W A n c A' m c' (-1) (newS 16) []) hT => put_any A n c A' m c' (-1) (newS 16) [] 15 3 0 5 secondT W hD hT)
  have HL1 := Lib.hid (fun W A n c A' m c' (hD : Dev W A n c A' m c' (-1) Sb []) hT => scan_any A n c A' m c' (-1) Sb [] 3 W hD hT)
  have HL2 := Lib.hid (fun W A n c A' m c' (hD : Dev W A n c A' m c' (-1) Sb []) hT => scan_any A n c A' m c' (-1) Sb [] 4 W hD hT)
  rw [show ((16 : Nat) : Int) = 16 from rfl] at HN
  rw [hS.one] at HS1
  rw [hS.two] at HS2
  rw [hS.ahead] at HS3
  rw [hS.full] at HS4
  rw [k1, k2, k3] at HL1
  rw [hS.none_, k3] at HL2
  have HNe := Lib.hid (fun A m c W (h : RV W A m 1 (SV [oneT, secondT])) (hm : (m : Int) ≤ 2000) => need_any A m c _ W h hm)
  rw [show needR [oneT, secondT] = 3 from by decide] at HNe
  have HMo := Lib.hid (fun W => most_any 16 W)
  rw [show mostR 16 = 288 from by decide] at HMo
  have HF1 := Lib.hid (fun W => fits_any 16 15 29 W (by omega))
  rw [show fitsR 16 15 29 = true from by decide] at HF1
  have HF2 := Lib.hid (fun W => fits_any 16 15 30 W (by omega))
  rw [show fitsR 16 15 30 = false from by decide] at HF2
  unfold oneT at HS1
  unfold secondT at HS2 HS4
  unfold RetP at HS1 HS2 HS3 HS4
  unfold RetSc at HL1 HL2
  unfold RetDE at HN
  dsimp only at HS1 HS2 HS3 HS4
  generalize scanDA Sb [] (-1) 4 = za at *
  have HT := Lib.hid hT
  clear hS k1 k2 k3 hT
  go_enter Tryz.func7, Tryz.ntmps7
  go_wp2_with fail
  with_reducible refine (HN.out _).mono ?_
  rintro r w1 ⟨A1, n1, c1, A1', m1, c1', rfl, hd1, b1⟩
  have HB1 := Lib.hid (((Below.refl w.heap.size w).call b1).push (D33 A1 n1 c1 A1' m1 c1' (-1)))
  have HT1 := Lib.hid (Shf.tab_call HT.out HB1.out)
  have HDd := Lib.hid (hd1.new (D33 A1 n1 c1 A1' m1 c1' (-1)))
  have HXd := Lib.hid (St.new w1 A1 n1 c1 A1' m1 c1' (-1) 31)
  clear b1 hd1
  obtain ⟨d0, d1, d2, -, -, -⟩ := HXd.out.box
  have hld := HXd.out.lt
  go_wp2_with fail
  with_reducible refine (HS1.out _ _ _ _ _ _ _ HDd.out HT1.out).mono ?_
  clear d0 d1 d2 hld
  rintro r w2 ⟨A2, n2, c2, A2', m2, c2', rfl, hd2, b2⟩
  have HB2 := Lib.hid (((HB1.out).call b2).push (D33 A2 n2 c2 A2' m2 c2' (-1)))
  have HT2 := Lib.hid (Shf.tab_call HT.out HB2.out)
  have HDd' := Lib.hid ((HDd.out.below b2).new (D33 A2 n2 c2 A2' m2 c2' (-1)))
  have HXd' := Lib.hid ((HXd.out.call b2).alloc (D33 A2 n2 c2 A2' m2 c2' (-1)))
  clear HDd HXd
  have HDd := HDd'
  have HXd := HXd'
  clear HDd' HXd'
  have HDa := Lib.hid (hd2.new (D33 A2 n2 c2 A2' m2 c2' (-1)))
  have HXa := Lib.hid (St.new w2 A2 n2 c2 A2' m2 c2' (-1) 31)
  clear b2 hd2 HB1 HT1
  obtain ⟨a0, a1, a2, -, -, -⟩ := HXa.out.box
  have hla := HXa.out.lt
  go_wp2_with fail
  with_reducible refine (HS2.out _ _ _ _ _ _ _ HDa.out HT2.out).mono ?_
  clear a0 a1 a2 hla
  rintro r w3 ⟨A3, n3, c3, A3', m3, c3', rfl, hd3, b3⟩
  have HB3 := Lib.hid (((HB2.out).call b3).push (D33 A3 n3 c3 A3' m3 c3' (-1)))
  have HT3 := Lib.hid (Shf.tab_call HT.out HB3.out)
  have HDd' := Lib.hid ((HDd.out.below b3).new (D33 A3 n3 c3 A3' m3 c3' (-1)))
  have HXd' := Lib.hid ((HXd.out.call b3).alloc (D33 A3 n3 c3 A3' m3 c3' (-1)))
  clear HDd HXd
  have HDd := HDd'
  have HXd := HXd'
  clear HDd' HXd'
  have HDa' := Lib.hid ((HDa.out.below b3).new (D33 A3 n3 c3 A3' m3 c3' (-1)))
  have HXa' := Lib.hid ((HXa.out.call b3).alloc (D33 A3 n3 c3 A3' m3 c3' (-1)))
  clear HDa HXa
  have HDa := HDa'
  have HXa := HXa'
  clear HDa' HXa'
  have HDb := Lib.hid (hd3.new (D33 A3 n3 c3 A3' m3 c3' (-1)))
  have HXb := Lib.hid (St.new w3 A3 n3 c3 A3' m3 c3' (-1) 31)
  clear b3 hd3 HB2 HT2
  clear HDa HXa
  obtain ⟨b0, b1, b2, -, -, -⟩ := HXb.out.box
  have hlb := HXb.out.lt
  go_wp2_with fail
  with_reducible refine (HL1.out _ _ _ _ _ _ _ HDb.out HT3.out).mono ?_
  clear b0 b1 b2 hlb
  rintro r w4 ⟨A4, m4, c4, rfl, hr4, b4⟩
  obtain rfl : 2 = m4 := hr4.sec
  have HR4 := Lib.hid hr4
  clear hr4
  have HB4 := Lib.hid ((HB3.out).call b4)
  have HT4 := Lib.hid (Shf.tab_call HT.out HB4.out)
  have HDd' := Lib.hid (HDd.out.below b4)
  have HXd' := Lib.hid (HXd.out.call b4)
  clear HDd HXd
  have HDd := HDd'
  have HXd := HXd'
  clear HDd' HXd'
  have HDb' := Lib.hid (HDb.out.below b4)
  have HXb' := Lib.hid (HXb.out.call b4)
  clear HDb HXb
  have HDb := HDb'
  have HXb := HXb'
  clear HDb' HXb'
  clear b4 HB3 HT3
  obtain ⟨b0, b1, b2, -, -, -⟩ := HXb.out.box
  have hlb := HXb.out.lt
  go_wp2_with fail
  with_reducible refine (HL2.out _ _ _ _ _ _ _ HDb.out HT4.out).mono ?_
  clear b0 b1 b2 hlb
  rintro r w5 ⟨A5, m5, c5, rfl, hr5, b5⟩
  obtain rfl : 0 = m5 := hr5.sec
  have HR5 := Lib.hid (HR4.out.below b5)
  clear hr5 HR4
  have HB5 := Lib.hid ((HB4.out).call b5)
  have HT5 := Lib.hid (Shf.tab_call HT.out HB5.out)
  have HDd' := Lib.hid (HDd.out.below b5)
  have HXd' := Lib.hid (HXd.out.call b5)
  clear HDd HXd
  have HDd := HDd'
  have HXd := HXd'
  clear HDd' HXd'
  have HDb' := Lib.hid (HDb.out.below b5)
  have HXb' := Lib.hid (HXb.out.call b5)
  clear HDb HXb
  have HDb := HDb'
  have HXb := HXb'
  clear HDb' HXb'
  clear b5 HB4 HT4
  clear HDb HXb
  obtain ⟨d0, d1, d2, -, -, -⟩ := HXd.out.box
  have hld := HXd.out.lt
  go_wp2_with fail
  with_reducible refine (HS3.out _ _ _ _ _ _ _ HDd.out HT5.out).mono ?_
  clear d0 d1 d2 hld
  rintro r w6 ⟨A6, n6, c6, A6', m6, c6', rfl, hd6, b6⟩
  have HR6 := Lib.hid ((HR5.out.below b6).below (new1 w6 (D33 A6 n6 c6 A6' m6 c6' (-1))))
  clear HR5
  have HB6 := Lib.hid (((HB5.out).call b6).push (D33 A6 n6 c6 A6' m6 c6' (-1)))
  have HT6 := Lib.hid (Shf.tab_call HT.out HB6.out)
  have HDd' := Lib.hid ((HDd.out.below b6).new (D33 A6 n6 c6 A6' m6 c6' (-1)))
  have HXd' := Lib.hid ((HXd.out.call b6).alloc (D33 A6 n6 c6 A6' m6 c6' (-1)))
  clear HDd HXd
  have HDd := HDd'
  have HXd := HXd'
  clear HDd' HXd'
  clear b6 hd6 HB5 HT5
  obtain ⟨d0, d1, d2, -, -, -⟩ := HXd.out.box
  have hld := HXd.out.lt
  go_wp2_with fail
  with_reducible refine (HS4.out _ _ _ _ _ _ _ HDd.out HT6.out).mono ?_
  clear d0 d1 d2 hld
  rintro r w7 ⟨A7, n7, c7, A7', m7, c7', rfl, hd7, b7⟩
  have HR7 := Lib.hid ((HR6.out.below b7).below (new1 w7 (D33 A7 n7 c7 A7' m7 c7' (-1))))
  clear HR6
  have HB7 := Lib.hid (((HB6.out).call b7).push (D33 A7 n7 c7 A7' m7 c7' (-1)))
  have HT7 := Lib.hid (Shf.tab_call HT.out HB7.out)
  have HDd' := Lib.hid ((HDd.out.below b7).new (D33 A7 n7 c7 A7' m7 c7' (-1)))
  have HXd' := Lib.hid ((HXd.out.call b7).alloc (D33 A7 n7 c7 A7' m7 c7' (-1)))
  clear HDd HXd
  have HDd := HDd'
  have HXd := HXd'
  clear HDd' HXd'
  clear b7 hd7 HB6 HT6
  obtain ⟨g, off, rfl, hg, hcl⟩ := HR7.out.2 (by decide)
  have t0 := hcl 0 (by decide)
  rw [show (SV [oneT, secondT])[0]'(by decide) = .string ⟨#[111, 110, 101]⟩ from rfl, Nat.add_zero] at t0
  clear hcl
  go_wp2_with (first | (go_at_call 16; with_reducible refine (HNe.out _ _ _ _ HR7.out (by decide)).mono ?_; rintro r w8 ⟨rfl, rfl⟩) | (go_at_call 18; with_reducible refine (HMo.out _).mono ?_; rintro r w8 ⟨rfl, rfl⟩) | (go_at_call 20; with_reducible refine (HF1.out _).mono ?_; rintro r w8 ⟨rfl, rfl⟩) | (go_at_call 20; with_reducible refine (HF2.out _).mono ?_; rintro r w8 ⟨rfl, rfl⟩))
  go_ret
  exact ⟨rfl, HB7.out⟩

end Go.Proofs.YtmgpngfgmfdldaaGreatDoor.Jrn
