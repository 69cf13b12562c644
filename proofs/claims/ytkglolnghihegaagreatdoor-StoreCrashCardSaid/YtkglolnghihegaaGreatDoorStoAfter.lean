/- Contract of after: what an act answered; if the power went, what is left is not live. -/
import Derived.Test.YtkglolnghihegaaGreatDoorStoWorld
import Derived.Deep.RegionWith
namespace Go.Proofs.YtkglolnghihegaaGreatDoor.Sto
open Go.RowKit Go.Proofs.YtkglolnghihegaaGreatDoor.Dsk

abbrev zx : Nm := ⟨0, 0, 0, 0, 0, false⟩
/-- A step as a value. -/
abbrev PV8 (sv : Bool) (t : ByteArray) (z : Nat) (cA : Option Addr) (cm cc : Nat) : Value := .agg #[.bool sv, .string t, .int .u8 z, .slice cA cm cc]

set_option maxRecDepth 100000 in
set_option maxHeartbeats 4000000 in
theorem after_any (w : World) (b : Nat) (A : Option Addr) (n c : Nat) (A' : Option Addr) (m c' : Nat) (f : Int) (x : Nm) (hA : Option Addr) (hn hc : Nat) (mA : Option Addr) (mn mc : Nat) (S : List ByteArray) (V : List Wr) (H M : List ByteArray)
    (hW : Wd w b A n c A' m c' f x hA hn hc mA mn mc false S V H M) (hck : chk S V f = 0) (sv : Bool) (t : ByteArray) (z : Nat) (cA : Option Addr) (cm cc : Nat) (cs : List UInt8) (hC : RV w cA cm 1 (UV cs)) (hcm : (cm : Int) ≤ 100) (e : Int) (he : e = 0 ∨ e = 7 ∨ e = 21) :
    Calls Tryz.prog 26 #[.pointer (some ⟨b, 0, none⟩), .int .i64 e, PV8 sv t z cA cm cc] w fun r w' => r = .returned (.tuple #[]) ∧
      WdP w w' b (if e = 21 then zx else x) (if e = 21 then goAll S V (cutAt (ints cs)) else S) (if e = 21 then [] else V) (if e = 0 then M else H) (if e = 7 then H else M) := by
  have HCl := Lib.hid (by have := hC.1; rw [UV_length] at this; omega : cs.length = cm)
  have HX0 := Lib.hid (Blk.new w 61 #[.bool sv, .string t, .int .u8 z, .slice cA cm cc])
  have HB0 := Lib.hid (new1 w (.cells #[.bool sv, .string t, .int .u8 z, .slice cA cm cc] 61))
  have HW0 := Lib.hid (hW.call HB0.out)
  have HBf := Lib.hid (fun W (hb : Below (w.alloc (.cells #[.bool sv, .string t, .int .u8 z, .slice cA cm cc] 61)).heap.size (w.alloc (.cells #[.bool sv, .string t, .int .u8 z, .slice cA cm cc] 61)) W) => HB0.out.call hb)
  have HC0 := Lib.hid (hC.below HB0.out)
  have hbl := hW.lt
  have HCk := Lib.hid hck
  clear hW hC hck
  go_enter Tryz.func26, Tryz.ntmps26
  go_upto_region 1 with fail
  generalize w.alloc (.cells #[.bool sv, .string t, .int .u8 z, .slice cA cm cc] 61) = w0 at *
  generalize hsb : w.heap.size = sb at *
  have HSB := Lib.hid hsb
  clear hsb HB0
  have HSl : Hid (w0.cell? ⟨sb, 3, none⟩ = some (.slice cA cm cc) ∧ sb < w0.heap.size) := Lib.hid ⟨HX0.out.cell (i := 3) (by simp), HX0.out.lt⟩
  go_wp2_with fail
  go_loopw [6, 7] (fun s6 s7 wr => ∃ k : Nat, k ≤ cm ∧ s7 = .int .i64 k ∧ Hid (Below w0.heap.size w0 wr ∧ IRow wr w0.heap.size s6 (ints (cs.take k)))) (fun _ s7 _ => cm - (intOf s7).toNat)
  case atStart => exact ⟨0, Nat.zero_le _, rfl, Lib.hid ⟨Below.refl _ _, by simpa [ints] using IRow.nil w0 w0.heap.size⟩⟩
  case round =>
    obtain ⟨k, hk, rfl, HK⟩ := hrel
    obtain ⟨av, capv, rfl, hrv⟩ := HK.out.2.val
    have s3 := (HK.out.1.cell (p := ⟨sb, 3, none⟩) HSl.out.2).trans HSl.out.1
    have hsl : sb < wr.heap.size := Nat.lt_of_lt_of_le HSl.out.2 HK.out.1.size
    by_cases hkl : k < cm
    · clear hrv
      have hkx : k < cs.length := by have := HCl.out; omega
      obtain ⟨bc, offc, rfl, hbc, hcc2⟩ := HC0.out.2 (by omega)
      have hck2 := hcc2 k (by rw [UV_length]; exact hkx)
      have hck3 := (HK.out.1.cell (p := ⟨bc, offc + k, none⟩) hbc).trans hck2
      rw [show (UV cs)[k]'(by rw [UV_length]; exact hkx) = .int .u8 cs[k].toNat from by simp [UV]] at hck3
      have hbc6 : bc < wr.heap.size := Nat.lt_of_lt_of_le hbc HK.out.1.size
      have HTk := Lib.hid (show ints (cs.take (k + 1)) = ints (cs.take k) ++ [((cs[k].toNat : Nat) : Int)] from by rw [List.take_succ_eq_append_getElem hkx]; unfold ints; rw [List.map_append]; rfl)
      have hlen : (ints (cs.take k)).length = k := by simp [ints]; omega
      have hu8 : cs[k].toNat < 256 := UInt8.toNat_lt _
      generalize cs[k].toNat = y at *
      have hxc : (wr.alloc (.cells #[.int .i64 (y : Int)] 3)).cell? ⟨wr.heap.size, 0, none⟩ = some (.int .i64 (y : Int)) := by simp [go_sem]
      have hrw := HK.out.2.call (new1 wr (.cells #[.int .i64 (y : Int)] 3))
      obtain ⟨v', w', hap, hI', hgr, -⟩ := hrw.append ⟨wr.heap.size, 0, none⟩ 1 y hxc (by omega) (by have := HK.out.1.size; simp; omega)
      have HK5 : Hid (Below w0.heap.size w0 w' ∧ IRow w' w0.heap.size v' (ints (cs.take (k + 1)))) := Lib.hid ⟨(HK.out.1.push _).grown hgr (by have := HK.out.1.size; simp; omega) (fun g hg => (hrw.lt g hg).1), by rw [HTk.out]; exact hI'⟩
      have HAP := Lib.hid hap
      rw [hlen] at HAP ⊢
      clear hap hI' hgr hxc hrw hck2 hcc2 HTk HK
      go_wp2_with (at_builtin; refine wpList_append_run rfl (.tmp 15) (.tmp 22) 111 111 rfl _ _ rfl rfl v' w' HAP.out ?_)
      go_roundw
      case rel => exact ⟨k + 1, by omega, by go_num, HK5⟩
      case measure => simp [intOf]; omega
    · obtain rfl : k = cm := by omega
      have htk : cs.take k = cs := List.take_of_length_le (by have := HCl.out; omega)
      have hlk : (ints cs).length = k := by rw [ints_length]; exact HCl.out
      rw [htk] at hrv
      rw [htk, hlk]
      rw [hlk] at hrv
      have HRv := Lib.hid hrv
      have HLk := Lib.hid hlk
      have HWr := Lib.hid (HW0.out.call HK.out.1)
      have HBr : Hid (Below w.heap.size w wr) := Lib.hid (by rw [HSB.out]; exact HBf.out _ HK.out.1)
      obtain ⟨c0, c1, c2, c3, c4, c5, c6, c7, c8, c9, c10, c11⟩ := HWr.out.cells
      obtain ⟨f0, f1, f2, f3, f4, f5, f6, f7, f8, f9, f10, f11⟩ := HWr.out.live
      have hlw := HWr.out.lt
      clear hrv htk hlk
      rcases he with rfl | rfl | rfl
      · -- answered
        go_upto_region 8 with fail
        obtain ⟨hW1, hg1⟩ := HWr.out.setHas (d := mc) HWr.out.may
        have HW1 := Lib.hid hW1
        have HG1 := Lib.hid hg1
        clear hW1 hg1 c0 c1 c2 c3 c4 c5 c6 c7 c8 c9 c10 c11 f0 f1 f2 f3 f4 f5 f6 f7 f8 f9 f10 f11 hlw
        generalize wr.setCell ⟨b, 9, none⟩ (.slice mA mn mc) = w1 at *
        obtain ⟨c0, c1, c2, c3, c4, c5, c6, c7, c8, c9, c10, c11⟩ := HW1.out.cells
        obtain ⟨f0, f1, f2, f3, f4, f5, f6, f7, f8, f9, f10, f11⟩ := HW1.out.live
        have hlw := HW1.out.lt
        have HArm := Lib.hid (arm_any A n c A' m c' f S V (-1) w1 HW1.out.dev)
        rw [if_pos HCk.out, show armF (-1) = -1 from by decide] at HArm
        unfold RetD at HArm
        go_wp2_with (go_at_call 24; with_reducible refine HArm.out.mono ?_; rintro r w2 ⟨B, p, d, B', q, d', rfl, hd2, hb2⟩; have HD2 := Lib.hid hd2; have HW2 := Lib.hid (HW1.out.call hb2); have HB2 := Lib.hid hb2; obtain ⟨c0, c1, c2, c3, c4, c5, c6, c7, c8, c9, c10, c11⟩ := HW2.out.cells; obtain ⟨f0, f1, f2, f3, f4, f5, f6, f7, f8, f9, f10, f11⟩ := HW2.out.live; have hlw := HW2.out.lt; clear hd2 hb2)
        obtain ⟨hW3, hg3⟩ := HW2.out.disk HD2.out
        go_end0
        refine ⟨rfl, ?_⟩
        exact ⟨_, _, _, _, _, _, _, _, _, _, _, _, hW3, grown_trans (grown_below HBr.out _) (grown_trans HG1.out (grown_trans (grown_below HB2.out _) hg3))⟩
      · skip
        go_upto_region 10 with fail
        obtain ⟨hW1, hg1⟩ := HWr.out.setMay (d := hc) HWr.out.has
        have HW1 := Lib.hid hW1
        have HG1 := Lib.hid hg1
        clear hW1 hg1 c0 c1 c2 c3 c4 c5 c6 c7 c8 c9 c10 c11 f0 f1 f2 f3 f4 f5 f6 f7 f8 f9 f10 f11 hlw
        generalize wr.setCell ⟨b, 10, none⟩ (.slice hA hn hc) = w1 at *
        obtain ⟨c0, c1, c2, c3, c4, c5, c6, c7, c8, c9, c10, c11⟩ := HW1.out.cells
        obtain ⟨f0, f1, f2, f3, f4, f5, f6, f7, f8, f9, f10, f11⟩ := HW1.out.live
        have hlw := HW1.out.lt
        have HArm := Lib.hid (arm_any A n c A' m c' f S V (-1) w1 HW1.out.dev)
        rw [if_pos HCk.out, show armF (-1) = -1 from by decide] at HArm
        unfold RetD at HArm
        go_wp2_with (go_at_call 24; with_reducible refine HArm.out.mono ?_; rintro r w2 ⟨B, p, d, B', q, d', rfl, hd2, hb2⟩; have HD2 := Lib.hid hd2; have HW2 := Lib.hid (HW1.out.call hb2); have HB2 := Lib.hid hb2; obtain ⟨c0, c1, c2, c3, c4, c5, c6, c7, c8, c9, c10, c11⟩ := HW2.out.cells; obtain ⟨f0, f1, f2, f3, f4, f5, f6, f7, f8, f9, f10, f11⟩ := HW2.out.live; have hlw := HW2.out.lt; clear hd2 hb2)
        obtain ⟨hW3, hg3⟩ := HW2.out.disk HD2.out
        go_end0
        refine ⟨rfl, ?_⟩
        exact ⟨_, _, _, _, _, _, _, _, _, _, _, _, hW3, grown_trans (grown_below HBr.out _) (grown_trans HG1.out (grown_trans (grown_below HB2.out _) hg3))⟩
      · skip
        have HCr := Lib.hid (crash_yes A n c A' m c' f S V av (ints cs).length capv (ints cs) wr HWr.out.dev (by have := HRv.out; rwa [← HLk.out] at this) HCk.out)
        rw [HLk.out] at HCr
        unfold RetD at HCr
        go_upto_region 13 with fail
        go_wp2_with (go_at_call 28; with_reducible refine HCr.out.mono ?_; rintro r w2 ⟨B, p, d, B', q, d', rfl, hd2, hb2⟩; have HD2 := Lib.hid hd2; have HW2 := Lib.hid (HWr.out.call hb2); have HB2 := Lib.hid hb2; obtain ⟨c0, c1, c2, c3, c4, c5, c6, c7, c8, c9, c10, c11⟩ := HW2.out.cells; obtain ⟨f0, f1, f2, f3, f4, f5, f6, f7, f8, f9, f10, f11⟩ := HW2.out.live; have hlw := HW2.out.lt; clear hd2 hb2)
        obtain ⟨hW3, hg3⟩ := HW2.out.state HD2.out zx rfl
        refine bodyPost_ret (v := .tuple #[]) (by simp [results, Tryz.results26, go_sem]) rfl ⟨rfl, ?_⟩
        exact ⟨_, _, _, _, _, _, _, _, _, _, _, _, hW3, grown_trans (grown_below HBr.out _) (grown_trans (grown_below HB2.out _) hg3)⟩

theorem after_ok (w : World) (b : Nat) (A : Option Addr) (n c : Nat) (A' : Option Addr) (m c' : Nat) (f : Int) (x : Nm) (hA : Option Addr) (hn hc : Nat) (mA : Option Addr) (mn mc : Nat) (S : List ByteArray) (V : List Wr) (H M : List ByteArray)
    (hW : Wd w b A n c A' m c' f x hA hn hc mA mn mc false S V H M) (hck : chk S V f = 0) (sv : Bool) (t : ByteArray) (z : Nat) (cA : Option Addr) (cm cc : Nat) (cs : List UInt8) (hC : RV w cA cm 1 (UV cs)) (hcm : (cm : Int) ≤ 100) :
    Calls Tryz.prog 26 #[.pointer (some ⟨b, 0, none⟩), .int .i64 0, PV8 sv t z cA cm cc] w fun r w' => r = .returned (.tuple #[]) ∧ WdP w w' b x S V M M := by
  have h := after_any w b A n c A' m c' f x hA hn hc mA mn mc S V H M hW hck sv t z cA cm cc cs hC hcm 0 (.inl rfl)
  simpa using h

theorem after_full (w : World) (b : Nat) (A : Option Addr) (n c : Nat) (A' : Option Addr) (m c' : Nat) (f : Int) (x : Nm) (hA : Option Addr) (hn hc : Nat) (mA : Option Addr) (mn mc : Nat) (S : List ByteArray) (V : List Wr) (H M : List ByteArray)
    (hW : Wd w b A n c A' m c' f x hA hn hc mA mn mc false S V H M) (hck : chk S V f = 0) (sv : Bool) (t : ByteArray) (z : Nat) (cA : Option Addr) (cm cc : Nat) (cs : List UInt8) (hC : RV w cA cm 1 (UV cs)) (hcm : (cm : Int) ≤ 100) :
    Calls Tryz.prog 26 #[.pointer (some ⟨b, 0, none⟩), .int .i64 7, PV8 sv t z cA cm cc] w fun r w' => r = .returned (.tuple #[]) ∧ WdP w w' b x S V H H := by
  have h := after_any w b A n c A' m c' f x hA hn hc mA mn mc S V H M hW hck sv t z cA cm cc cs hC hcm 7 (.inr (.inl rfl))
  simpa using h

theorem after_down (w : World) (b : Nat) (A : Option Addr) (n c : Nat) (A' : Option Addr) (m c' : Nat) (f : Int) (x : Nm) (hA : Option Addr) (hn hc : Nat) (mA : Option Addr) (mn mc : Nat) (S : List ByteArray) (V : List Wr) (H M : List ByteArray)
    (hW : Wd w b A n c A' m c' f x hA hn hc mA mn mc false S V H M) (hck : chk S V f = 0) (sv : Bool) (t : ByteArray) (z : Nat) (cA : Option Addr) (cm cc : Nat) (cs : List UInt8) (hC : RV w cA cm 1 (UV cs)) (hcm : (cm : Int) ≤ 100) :
    Calls Tryz.prog 26 #[.pointer (some ⟨b, 0, none⟩), .int .i64 21, PV8 sv t z cA cm cc] w fun r w' => r = .returned (.tuple #[]) ∧ WdP w w' b zx (goAll S V (cutAt (ints cs))) [] H M := by
  have h := after_any w b A n c A' m c' f x hA hn hc mA mn mc S V H M hW hck sv t z cA cm cc cs hC hcm 21 (.inr (.inr rfl))
  simpa using h

end Go.Proofs.YtkglolnghihegaaGreatDoor.Sto
