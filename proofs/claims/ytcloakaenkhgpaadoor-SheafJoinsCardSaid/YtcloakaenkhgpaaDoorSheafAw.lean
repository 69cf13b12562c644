/- What every right program makes of a text of two parts. -/
import Derived.Test.YtcloakaenkhgpaaDoorSheafBackP
import Derived.Deep.RegionHeld3
import Derived.Deep.DeepCutAuto
import Derived.BigQuiet
import Derived.Deep.QuietTactic
namespace Go.Proofs.YtcloakaenkhgpaaDoor.Shf
open Go.RowKit Go.Proofs.YtcloakaenkhgpaaDoor.Oct Go.Proofs.YtcloakaenkhgpaaDoor.Crc
open Go.Proofs.YtcloakaenkhgpaaDoor.Dsk (RV SV SV_length Blk)

/-- Join's answer, where it is known. -/
theorem join_ok {k : Nat} {g n : Int} {A : Option Addr} {m c : Nat} {S : List ByteArray} {w : World} {t : ByteArray} {of : Nat} (hR : RV w A m 1 (SV S)) (hT : Tab w) (h1 : errJ k g n S = 0) (h2 : textU (loadS S) = t) (h3 : ofS S = of) :
    Calls Tryd.prog 16 #[HV k g n, .slice A m c] w fun r w' => r = .returned (.tuple #[.string t, .int .i64 of, .int .i64 0]) ∧ Below w.heap.size w w' := by
  refine (join_any k g n A m c S w hR hT).mono fun r w' h => ?_
  unfold RetJ at h
  rw [h1, h2, h3] at h
  exact h
theorem join_no {k : Nat} {g n e : Int} {A : Option Addr} {m c : Nat} {S : List ByteArray} {w : World} (hR : RV w A m 1 (SV S)) (hT : Tab w) (h1 : errJ k g n S = e) (h0 : ¬ e = 0) :
    Calls Tryd.prog 16 #[HV k g n, .slice A m c] w fun r w' => r = .returned (.tuple #[.string ⟨#[]⟩, .int .i64 0, .int .i64 e]) ∧ Below w.heap.size w w' := by
  refine (join_any k g n A m c S w hR hT).mono fun r w' h => ?_
  unfold RetJ at h
  rw [h1, if_neg h0, if_neg h0] at h
  exact h

/-- Lay's answer, where it is known. -/
theorem lay_ok {k g n : Nat} {t : ByteArray} {w : World} (h : Head k g n) (ht : (t.size : Int) ≤ 16000) (hT : Tab w) :
    Calls Tryd.prog 8 #[HV k g n, .string t] w fun r w' => ∃ A c, r = .returned (.tuple #[.slice A (cntN t.size) c, .int .i64 0]) ∧ RV w' A (cntN t.size) 1 (SV (bodiesT k g n t)) ∧ Below w.heap.size w w' ∧ cntN t.size ≤ c := by
  refine (lay_any k g n t w h.k hT).mono fun r w' hh => ?_
  obtain ⟨A, m, c, e, hR, hb, hc⟩ := hh
  obtain ⟨e1, e2⟩ := layS_eq h ht
  rw [e1] at e
  rw [e2] at hR
  have hm := hR.sec
  rw [bodiesT_len] at hm
  subst hm
  exact ⟨A, c, e, hR, hb, hc⟩

theorem read_ok2 {k g n N : Nat} {L : ByteArray} (h : Head k g n) (hL : L.size = N * 37) (hN : N < 65536) {j : Nat} (hj : j < N) (w : World) :
    Calls Tryd.prog 18 #[.string (bodyAt k g n N L j)] w fun r w' => r = .returned (.tuple #[PV k g n j N (dA (bodyAt k g n N L j)), .int .i64 0]) ∧ Below w.heap.size w w' := by
  have e0 := at_errR h hL hN hj
  obtain ⟨-, e1, e2, e3, e4⟩ := errB_zero (at_errB h hL hN hj)
  have e5 : oA (bodyAt k g n N L j) = N := at_oA hN j
  have := read_any (bodyAt k g n N L j) w
  unfold partV at this
  rw [if_pos e0, e0, e1, e2, e3, e4, e5] at this
  exact this

theorem rv_take {w : World} {A : Option Addr} {n : Nat} {S : List ByteArray} (h : RV w A n 1 (SV S)) (m : Nat) (hm : m ≤ n) : RV w A m 1 (SV (S.take m)) := by
  have hl := h.sec
  refine ⟨by rw [SV_length, List.length_take]; omega, fun h0 => ?_⟩
  obtain ⟨b, off, e, hb, hc⟩ := h.2 (by omega)
  refine ⟨b, off, e, hb, fun i hi => ?_⟩
  rw [SV_length, List.length_take] at hi
  rw [hc i (by rw [SV_length]; omega)]
  simp [SV]

/-- The text of two parts. -/
def txt : ByteArray := ⟨#[97, 32, 116, 101, 120, 116, 32, 116, 104, 97, 116, 32, 105, 115, 32, 108, 111, 110, 103, 101, 114, 32, 116, 104, 97, 110, 32, 111, 110, 101, 32, 115, 104, 101, 101, 116, 32, 104, 97, 115, 32, 114, 111, 111, 109, 32, 102, 111, 114]⟩

/-- The two bodies. -/
def b0 : ByteArray := bodyAt 2 7 3 2 (loadT txt) 0
def b1 : ByteArray := bodyAt 2 7 3 2 (loadT txt) 1
/-- What lies in memory behind the part that was read: a head, two bodies, the part. -/
structure AwK (w wx : World) (hb : Nat) (A : Option Addr) (pb : Nat) (d : ByteArray) : Prop where
  bel : Below w.heap.size w wx
  tab : Tab wx
  head : Box wx hb (.int .u8 2) (.int .i64 7) (.int .i64 3)
  rv : RV wx A 2 1 (SV [b0, b1])
  part : Box6 wx pb (.int .u8 2) (.int .i64 7) (.int .i64 3) (.int .i64 1) (.int .i64 2) (.string d)
theorem AwK.call {w wx w' : World} {hb pb : Nat} {A : Option Addr} {d : ByteArray} (h : AwK w wx hb A pb d) (hb' : Below wx.heap.size wx w') : AwK w w' hb A pb d :=
  ⟨h.bel.call hb', tab_call h.tab hb', h.head.below hb' (cell_lt h.head.c0), h.rv.below hb', h.part.below hb' (cell_lt h.part.c0)⟩

theorem txt_size : txt.size = 49 := rfl
theorem txt_cnt : cntN txt.size = 2 := rfl
theorem hh : Head 2 7 3 := ⟨by omega, by omega, by omega, by omega⟩
theorem txt_le : (txt.size : Int) ≤ 16000 := by rw [txt_size]; omega

theorem bodies_txt : bodiesT 2 7 3 txt = [b0, b1] := rfl

theorem j1 : errJ 2 7 3 [b0, b1, ⟨#[120]⟩] = 0 ∧ textU (loadS [b0, b1, ⟨#[120]⟩]) = txt ∧ ofS [b0, b1, ⟨#[120]⟩] = 2 := by
  have := join_back hh txt_le (begins_append (k := 2) (g := 7) (n := 3) (t := txt) [⟨#[120]⟩])
  rwa [bodies_txt] at this
theorem j2 : errJ 2 8 3 [b0, b1] = 9 := by
  have := join_other hh txt_le (Nat.le_refl _) (cnt_pos txt) (begins_append (k := 2) (g := 7) (n := 3) (t := txt) []) (show (8 : Nat) ≠ 7 by omega)
  rwa [bodies_txt] at this
theorem j3 : errJ 2 7 3 [b0] = 3 := by
  have := join_few hh txt_le (m := 1) (by rw [txt_cnt]; omega) (begins_take (k := 2) (g := 7) (n := 3) (t := txt) 1 (by rw [txt_cnt]; omega)) (by rw [bodies_txt]; rfl)
  rwa [bodies_txt] at this

theorem aw_join1 (W : World) (hT : Tab W) : Calls Tryd.prog 16 #[.agg #[.int .u8 2, .int .i64 7, .int .i64 3], .slice (some ⟨W.heap.size, 0, none⟩) 3 3] (W.alloc (.cells #[.string b0, .string b1, .string ⟨#[120]⟩] 9)) fun r w' => r = .returned (.tuple #[.string txt, .int .i64 2, .int .i64 0]) ∧ Below W.heap.size W w' :=
  (join_ok ((Blk.new W 9 #[.string b0, .string b1, .string ⟨#[120]⟩]).rv (n := 3) (k := 1) (vs := SV [b0, b1, ⟨#[120]⟩]) rfl) (tab_call hT ((Below.refl _ _).push _)) j1.1 j1.2.1 j1.2.2).mono fun _ _ ⟨h1, h2⟩ => ⟨h1, ((Below.refl _ _).push _).call h2⟩
theorem aw_join1d (W : World) (hT : Tab W) : Calls Tryd.prog 16 #[.agg #[.int .u8 2, .int .i64 7, .int .i64 3], .slice (some ⟨W.heap.size, 0, none⟩) 3 3] (W.alloc (.cells #[.string b0, .string b1, .string ⟨#[120]⟩] 9)).drew fun r w' => r = .returned (.tuple #[.string txt, .int .i64 2, .int .i64 0]) ∧ Below W.heap.size W w' :=
  (aw_join1 W.drew hT).mono fun _ _ ⟨h1, h2⟩ => ⟨h1, undrew h2⟩

set_option maxRecDepth 20000 in
set_option maxHeartbeats 1000000 in
theorem awake_any (w : World) (hT : Tab w) : Calls Tryd.prog 7 #[] w fun r w' => r = .returned (.bool true) ∧ Below w.heap.size w w' := by
  have HLay : Hid (∀ W, Tab W → Calls Tryd.prog 8 #[.agg #[.int .u8 2, .int .i64 7, .int .i64 3], .string txt] W fun r w' => ∃ A c, r = .returned (.tuple #[.slice A 2 c, .int .i64 0]) ∧ RV w' A 2 1 (SV [b0, b1]) ∧ Below W.heap.size W w' ∧ 2 ≤ c) := Lib.hid (fun W h => by
    have := lay_ok (k := 2) (g := 7) (n := 3) hh txt_le h
    rwa [txt_cnt, bodies_txt] at this)
  have HRead : Hid (∀ W, Calls Tryd.prog 18 #[.string b1] W fun r w' => r = .returned (.tuple #[.agg #[.int .u8 2, .int .i64 7, .int .i64 3, .int .i64 1, .int .i64 2, .string (dA b1)], .int .i64 0]) ∧ Below W.heap.size W w') := Lib.hid (fun W => read_ok2 hh (L := loadT txt) (N := 2) (loadT_size txt) (by omega) (j := 1) (by omega) W)
  have HJ1 := Lib.hid aw_join1
  have HJ1d := Lib.hid aw_join1d
  have HJ2 : Hid (∀ W A c, Tab W → RV W A 2 1 (SV [b0, b1]) → Calls Tryd.prog 16 #[.agg #[.int .u8 2, .int .i64 8, .int .i64 3], .slice A 2 c] W fun r w' => r = .returned (.tuple #[.string ⟨#[]⟩, .int .i64 0, .int .i64 9]) ∧ Below W.heap.size W w') := Lib.hid (fun W A c hT hR => join_no hR hT j2 (by decide))
  have HJ3 : Hid (∀ W A c, Tab W → RV W A 2 1 (SV [b0, b1]) → Calls Tryd.prog 16 #[.agg #[.int .u8 2, .int .i64 7, .int .i64 3], .slice A 1 c] W fun r w' => r = .returned (.tuple #[.string ⟨#[]⟩, .int .i64 0, .int .i64 3]) ∧ Below W.heap.size W w') := Lib.hid (fun W A c hT hR => join_no (rv_take hR 1 (by omega)) hT j3 (by decide))
  have HC1 : Hid (∀ W, Calls Tryd.prog 11 #[.int .i64 29] W fun r w' => r = .returned (.int .i64 1) ∧ W = w') := Lib.hid (fun W => count_any 29 W)
  have HC2 : Hid (∀ W, Calls Tryd.prog 11 #[.int .i64 30] W fun r w' => r = .returned (.int .i64 2) ∧ W = w') := Lib.hid (fun W => count_any 30 W)
  have HL1 : Hid (∀ W, Calls Tryd.prog 13 #[.int .i64 1] W fun r w' => r = .returned (.int .i64 29) ∧ W = w') := Lib.hid (fun W => longest_any 1 W)
  have HL0 : Hid (∀ W, Calls Tryd.prog 13 #[.int .i64 0] W fun r w' => r = .returned (.int .i64 0) ∧ W = w') := Lib.hid (fun W => longest_any 0 W)
  have hds : (dA b1).size = 37 := by
    have := part_len (L := loadT txt) (N := 2) (j := 1) (loadT_size txt) (by omega)
    rw [← at_dA (k := 2) (g := 7) (n := 3) (N := 2)] at this
    exact this
  generalize dA b1 = d at *
  have HT := Lib.hid hT
  clear hT
  go_enter Tryd.func7, Tryd.ntmps7
  go_upto_region 3 with fail
  rw [show (⟨#[97, 32, 116, 101, 120, 116, 32, 116, 104, 97, 116, 32, 105, 115, 32, 108, 111, 110, 103, 101, 114, 32, 116, 104, 97, 110, 32, 111, 110, 101, 32, 115, 104, 101, 101, 116, 32, 104, 97, 115, 32, 114, 111, 111, 109, 32, 102, 111, 114]⟩ : ByteArray) = txt from rfl]
  go_wp2_with fail
  with_reducible refine (HLay.out _ (tab_call HT.out ((Below.refl _ w).push _))).mono ?_
  rintro r w1 ⟨A, c, rfl, hR, hb1, hcap⟩
  have X1 := Lib.hid ((Box.new w (.int .u8 2) (.int .i64 7) (.int .i64 3) 29).below hb1 (by simp))
  have HB1 := Lib.hid (((Below.refl _ w).push _).call hb1)
  obtain ⟨b, off, rfl, hlb, hc⟩ := hR.2 (by omega)
  have r0 : w1.cell? ⟨b, off, none⟩ = some (.string b0) := hc 0 (by rw [SV_length]; decide)
  have r1 : w1.cell? ⟨b, off + 1, none⟩ = some (.string b1) := hc 1 (by rw [SV_length]; decide)
  have HR := Lib.hid hR
  clear hb1 hR hc HLay
  go_wp2_with fail
  with_reducible refine (HRead.out _).mono ?_
  rintro r w2 ⟨rfl, hb2⟩
  have hx := (X1.out.below hb2 (cell_lt X1.out.c0))
  have HK := Lib.hid (AwK.mk ((HB1.out.call hb2).push (.cells #[.int .u8 2, .int .i64 7, .int .i64 3, .int .i64 1, .int .i64 2, .string d] 41)) (tab_call (tab_call (tab_call HT.out HB1.out) hb2) ((Below.refl _ _).push (.cells #[.int .u8 2, .int .i64 7, .int .i64 3, .int .i64 1, .int .i64 2, .string d] 41)))
    (hx.alloc (cell_lt hx.c0) (.cells #[.int .u8 2, .int .i64 7, .int .i64 3, .int .i64 1, .int .i64 2, .string d] 41)) ((HR.out.below hb2).below ((Below.refl _ _).push (.cells #[.int .u8 2, .int .i64 7, .int .i64 3, .int .i64 1, .int .i64 2, .string d] 41))) (Box6.new w2 (.int .u8 2) (.int .i64 7) (.int .i64 3) (.int .i64 1) (.int .i64 2) (.string d) 41))
  clear hx X1 HB1 hb2 HRead r0 r1 HR HT
  go_upto_region 7 with fail
  generalize w2.heap.size = pb at *
  generalize w2.alloc (.cells #[.int .u8 2, .int .i64 7, .int .i64 3, .int .i64 1, .int .i64 2, .string d] 41) = w3 at *
  go_cut [7, 8, 9] (fun s7 s8 s9 wx => s7 = .string txt ∧ s8 = .int .i64 2 ∧ s9 = .int .i64 0 ∧ Hid (Below w3.heap.size w3 wx))
  case first =>
    obtain ⟨a0, a1, a2, -, -, -⟩ := HK.out.head
    have hlh : w.heap.size < w3.heap.size := cell_lt a0
    have hlb3 : b < w3.heap.size := by
      obtain ⟨b', off', e, hl, -⟩ := HK.out.rv.2 (by omega)
      injection e with e; injection e with e1 e2 e3; subst e1; exact hl
    obtain ⟨r0, r1⟩ : w3.cell? ⟨b, off, none⟩ = some (.string b0) ∧ w3.cell? ⟨b, off + 1, none⟩ = some (.string b1) := by
      obtain ⟨b', off', e, hl, hc⟩ := HK.out.rv.2 (by omega)
      injection e with e; injection e with e1 e2 e3; subst e1; subst e2
      exact ⟨hc 0 (by rw [SV_length]; decide), hc 1 (by rw [SV_length]; decide)⟩
    have HTb := Lib.hid HK.out.tab
    have ne1 : ¬ w3.heap.size = w.heap.size := by omega
    have ne2 : ¬ w3.heap.size = b := by omega
    go_region_held3 (fun W => W.cell? ⟨w.heap.size, 0, none⟩ = some (.int .u8 2) ∧ W.cell? ⟨w.heap.size, 1, none⟩ = some (.int .i64 7) ∧ W.cell? ⟨w.heap.size, 2, none⟩ = some (.int .i64 3) ∧ W.cell? ⟨b, off, none⟩ = some (.string b0) ∧ W.cell? ⟨b, off + 1, none⟩ = some (.string b1)) (go_keep)
      (first | (go_at_call 16; (first | (with_reducible refine (HJ1.out _ HTb.out).mono ?_) | (with_reducible refine (HJ1d.out _ HTb.out).mono ?_)); rintro r w4 ⟨rfl, hb4⟩; have q0 : w4.cell? ⟨w.heap.size, 0, none⟩ = some (.int .u8 2) := (by rw [hb4.cell (p := ⟨w.heap.size, 0, none⟩) hlh]; exact a0); have q1 : w4.cell? ⟨w.heap.size, 1, none⟩ = some (.int .i64 7) := (by rw [hb4.cell (p := ⟨w.heap.size, 1, none⟩) hlh]; exact a1); have q2 : w4.cell? ⟨w.heap.size, 2, none⟩ = some (.int .i64 3) := (by rw [hb4.cell (p := ⟨w.heap.size, 2, none⟩) hlh]; exact a2); have q3 : w4.cell? ⟨b, off, none⟩ = some (.string b0) := (by rw [hb4.cell (p := ⟨b, off, none⟩) hlb3]; exact r0); have q4 : w4.cell? ⟨b, off + 1, none⟩ = some (.string b1) := (by rw [hb4.cell (p := ⟨b, off + 1, none⟩) hlb3]; exact r1)))
    all_goals
      go_wp2_with fail
      go_meet
      exact ⟨rfl, rfl, rfl, Lib.hid hb4⟩
  case rest =>
    obtain ⟨rfl, rfl, rfl, hbx⟩ := hcut
    have HKx := Lib.hid (HK.out.call hbx.out)
    clear hbx HK HJ1 HJ1d
    go_wp2_with fail
    with_reducible refine (HJ2.out _ _ _ HKx.out.tab HKx.out.rv).mono ?_
    rintro r w5 ⟨rfl, hb5⟩
    have HK5 := Lib.hid (HKx.out.call hb5)
    clear hb5 HKx HJ2
    go_upto_region 9 with fail
    go_cut [13, 14, 15] (fun s13 s14 s15 wx => s13 = .string ⟨#[]⟩ ∧ s14 = .int .i64 0 ∧ s15 = .int .i64 3 ∧ Hid (Below w5.heap.size w5 wx))
    case first =>
      obtain ⟨a0, a1, a2, -, -, -⟩ := HK5.out.head
      have hlh : w.heap.size < w5.heap.size := cell_lt a0
      have HTb := Lib.hid HK5.out.tab
      have hc1 : (1 : Int) ≤ c := by omega
      have HRb := Lib.hid HK5.out.rv
      go_region_held3 (fun W => W.cell? ⟨w.heap.size, 0, none⟩ = some (.int .u8 2) ∧ W.cell? ⟨w.heap.size, 1, none⟩ = some (.int .i64 7) ∧ W.cell? ⟨w.heap.size, 2, none⟩ = some (.int .i64 3)) (go_keep)
        (first | (go_at_call 16; (first | (with_reducible refine (HJ3.out _ _ _ HTb.out HRb.out).mono ?_) | (refine (HJ3.out w5.drew _ _ HTb.out HRb.out).mono ?_)); rintro r w6 ⟨rfl, hb6⟩; have q0 : w6.cell? ⟨w.heap.size, 0, none⟩ = some (.int .u8 2) := (by rw [hb6.cell (p := ⟨w.heap.size, 0, none⟩) hlh]; exact a0); have q1 : w6.cell? ⟨w.heap.size, 1, none⟩ = some (.int .i64 7) := (by rw [hb6.cell (p := ⟨w.heap.size, 1, none⟩) hlh]; exact a1); have q2 : w6.cell? ⟨w.heap.size, 2, none⟩ = some (.int .i64 3) := (by rw [hb6.cell (p := ⟨w.heap.size, 2, none⟩) hlh]; exact a2)))
      all_goals
        go_wp2_with fail
        go_meet
        exact ⟨rfl, rfl, rfl, Lib.hid (undrew hb6)⟩
    case rest =>
      obtain ⟨rfl, rfl, rfl, hbx⟩ := hcut
      have HK6 := Lib.hid (HK5.out.call hbx.out)
      obtain ⟨a0, a1, a2, -, -, -⟩ := HK6.out.head
      obtain ⟨p0, p1, p2, p3, p4, p5⟩ := HK6.out.part
      have HB6 := Lib.hid HK6.out.bel
      have hq := str_eq txt
      clear hbx HK5 HJ3 HK6 hcap hlb
      go_wp2_with (first | (go_at_call 11; (first | (with_reducible refine (HC1.out _).mono ?_) | (with_reducible refine (HC2.out _).mono ?_)); rintro e w' ⟨rfl, rfl⟩) | (go_at_call 13; (first | (with_reducible refine (HL1.out _).mono ?_) | (with_reducible refine (HL0.out _).mono ?_)); rintro e w' ⟨rfl, rfl⟩))
      go_ret
      exact ⟨rfl, HB6.out⟩

end Go.Proofs.YtcloakaenkhgpaaDoor.Shf
