/- Contract of Read of the document's answer (errandref05), and of back. -/
import Derived.Test.YtkglolnghihegaaGreatDoorSheafRead
import Derived.Test.YtkglolnghihegaaGreatDoorOct
import Derived.Deep.RegionHeld3
import Derived.Deep.DeepCutAuto
namespace Go.Proofs.YtkglolnghihegaaGreatDoor.Shf
open Go.RowKit Go.Proofs.YtkglolnghihegaaGreatDoor.Oct

theorem blt {W w1 : World} (hb : Below W.heap.size W w1) : ∀ b, b < W.heap.size → b < w1.heap.size := fun _ h => Nat.lt_of_lt_of_le h hb.size

/-- Behind a region: the block b, one of the call's own, holds this part. -/
structure PartAt (a w : World) (b : Nat) (x0 x1 x2 x3 x4 x5 : Value) : Prop where
  bel : Below a.heap.size a w
  ge : a.heap.size ≤ b
  box : Box6 w b x0 x1 x2 x3 x4 x5

theorem PartAt.fresh {a W : World} (hb : Below a.heap.size a W) (x0 x1 x2 x3 x4 x5 : Value) (t : TypeId) : PartAt a (W.alloc (.cells #[x0, x1, x2, x3, x4, x5] t)) W.heap.size x0 x1 x2 x3 x4 x5 :=
  ⟨hb.push _, hb.size, Box6.new _ _ _ _ _ _ _ _⟩

theorem Box6.set6 {w : World} {b : Nat} {y0 y1 y2 y3 y4 y5 : Value} (h : Box6 w b y0 y1 y2 y3 y4 y5) (hf : Fr6 w b) (x0 x1 x2 x3 x4 x5 : Value) :
    Box6 ((((((w.setCell ⟨b, 0, none⟩ x0).setCell ⟨b, 1, none⟩ x1).setCell ⟨b, 2, none⟩ x2).setCell ⟨b, 3, none⟩ x3).setCell ⟨b, 4, none⟩ x4).setCell ⟨b, 5, none⟩ x5) b x0 x1 x2 x3 x4 x5 := by
  obtain ⟨c0, c1, c2, c3, c4, c5⟩ := h
  obtain ⟨f0, f1, f2, f3, f4, f5⟩ := hf
  constructor <;> simp [go_sem, *]

theorem PartAt.put {a W : World} {b : Nat} {y0 y1 y2 y3 y4 y5 : Value} (hb : Below a.heap.size a W) (h : Box6 W b y0 y1 y2 y3 y4 y5) (hf : Fr6 W b) (hge : a.heap.size ≤ b) (x0 x1 x2 x3 x4 x5 : Value) :
    PartAt a ((((((W.setCell ⟨b, 0, none⟩ x0).setCell ⟨b, 1, none⟩ x1).setCell ⟨b, 2, none⟩ x2).setCell ⟨b, 3, none⟩ x3).setCell ⟨b, 4, none⟩ x4).setCell ⟨b, 5, none⟩ x5) b x0 x1 x2 x3 x4 x5 :=
  ⟨hb.set6 hge _ _ _ _ _ _, hge, h.set6 hf _ _ _ _ _ _⟩

/-- What reading a body of 52 bytes answers. -/
def RetR (s : ByteArray) (w : World) (r : Ending) (w' : World) : Prop := r = .returned (.tuple #[partV s, .int .i64 (errR s)]) ∧ Below w.heap.size w w'

set_option maxHeartbeats 2000000 in
theorem rread_52 (s : ByteArray) (w : World) (hs : s.size = 52) :
    Calls Tryz.prog 109 #[.string s] w (RetR s w) := by
  have hd : ((s.size : Int) != 52) = false := by rw [hs]; rfl
  have hm : s.size ≤ maxLen := by unfold maxLen; omega
  have N1 : Hid (∀ W, Calls Tryz.prog 110 #[.string s, .int .i64 1, .int .i64 6] W fun r w' => r = .returned (.int .i64 (gA s)) ∧ Below W.heap.size W w') := Lib.hid (fun W => number_any s 1 6 W hm (by omega) (by omega) (by omega) (by omega))
  have N2 : Hid (∀ W, Calls Tryz.prog 110 #[.string s, .int .i64 7, .int .i64 4] W fun r w' => r = .returned (.int .i64 (nA s)) ∧ Below W.heap.size W w') := Lib.hid (fun W => number_any s 7 4 W hm (by omega) (by omega) (by omega) (by omega))
  have N3 : Hid (∀ W, Calls Tryz.prog 110 #[.string s, .int .i64 11, .int .i64 2] W fun r w' => r = .returned (.int .i64 (aA s)) ∧ Below W.heap.size W w') := Lib.hid (fun W => number_any s 11 2 W hm (by omega) (by omega) (by omega) (by omega))
  have N4 : Hid (∀ W, Calls Tryz.prog 110 #[.string s, .int .i64 13, .int .i64 2] W fun r w' => r = .returned (.int .i64 (oA s)) ∧ Below W.heap.size W w') := Lib.hid (fun W => number_any s 13 2 W hm (by omega) (by omega) (by omega) (by omega))
  have HM := Lib.hid (fun W => fine_any (kA s) (gA s) (nA s) W)
  have hk : s[0].toNat = kA s := by
    unfold kA
    rw [List.headD_eq_head?_getD, List.head?_eq_getElem?, List.getElem?_eq_getElem (by simp; omega)]
    rfl
  have hdA : s.extract 15 52 = dA s := by unfold dA; rw [hs]
  have E0 : Hid (fineH (gA s) (nA s) = true → aA s < oA s → errR s = 0) := Lib.hid (fun h1 h2 => by unfold errR; rw [if_pos hs, if_pos ⟨h1, h2⟩])
  have E8 : Hid (¬ (fineH (gA s) (nA s) = true ∧ aA s < oA s) → errR s = 8) := Lib.hid (fun h => by unfold errR; rw [if_pos hs, if_neg h])
  have HO : Hid (0 ≤ aA s) := Lib.hid (numAt_nonneg _ _ _)
  unfold RetR partV
  generalize errR s = err at *
  generalize kA s = k at *
  generalize gA s = g at *
  generalize nA s = n at *
  generalize aA s = a at *
  generalize oA s = o at *
  generalize dA s = d at *
  go_enter Tryz.func109, Tryz.ntmps109
  have R0 := Lib.hid (Box6.new w (.int .u8 0) (.int .i64 0) (.int .i64 0) (.int .i64 0) (.int .i64 0) (.string ⟨#[]⟩) 183)
  have F0 := Lib.hid (Fr6.new w (.int .u8 0) (.int .i64 0) (.int .i64 0) (.int .i64 0) (.int .i64 0) (.string ⟨#[]⟩) 183)
  have HB0 := Lib.hid ((Below.refl w.heap.size w).push (.cells #[.int .u8 0, .int .i64 0, .int .i64 0, .int .i64 0, .int .i64 0, .string ⟨#[]⟩] 183))
  go_upto_region 3 with fail
  generalize hw0 : w.alloc (.cells #[.int .u8 0, .int .i64 0, .int .i64 0, .int .i64 0, .int .i64 0, .string ⟨#[]⟩] 183) = w0 at *
  clear hw0
  go_cut [4] (fun s4 wx => ∃ b, s4 = .pointer (some ⟨b, 0, none⟩) ∧ Hid (PartAt w0 wx b (.int .u8 k) (.int .i64 g) (.int .i64 n) (.int .i64 a) (.int .i64 o) (.string d)))
  case first =>
    clear HM E0 E8 HO
    have B0 := Below.refl w0.heap.size w0
    have x0 := R0.out.c0
    have hl0 : w.heap.size < w0.heap.size := cell_lt x0
    have ne0 : ¬ w0.heap.size = w.heap.size := by omega
    go_region_held3 (fun W => W.cell? ⟨w.heap.size, 0, none⟩ = some (.int .u8 0)) (go_keep)
      (first
        | (go_at_call 110; ((with_reducible refine (N1.out _).mono ?_)); rintro r w1 ⟨rfl, hb1⟩; (first | (have B1 := Below.call B0 hb1) | (have B1 := Below.call (B0.push _) hb1) | (have B1 := Below.call (B0.drew) hb1) | (have B1 := Below.call (B0.drew.push _) hb1) | (have B1 := Below.call (B0.push _).drew hb1)); have q1 : w1.cell? ⟨w.heap.size, 0, none⟩ = some (.int .u8 0) := (by rw [B1.cell (p := ⟨w.heap.size, 0, none⟩) hl0]; exact x0); have ne1 : ¬ w1.heap.size = w.heap.size := (by have := B1.size; omega))
        | (go_at_call 110; ((with_reducible refine (N2.out _).mono ?_)); rintro r w2 ⟨rfl, hb2⟩; (first | (have B2 := Below.call B1 hb2) | (have B2 := Below.call (B1.push _) hb2) | (have B2 := Below.call (B1.drew) hb2) | (have B2 := Below.call (B1.drew.push _) hb2) | (have B2 := Below.call (B1.push _).drew hb2)); (first | (have C02 := Below.call hb1 hb2) | (have C02 := Below.call (hb1.push _) hb2) | (have C02 := Below.call (hb1.drew) hb2) | (have C02 := Below.call (hb1.drew.push _) hb2) | (have C02 := Below.call (hb1.push _).drew hb2)); have q2 : w2.cell? ⟨w.heap.size, 0, none⟩ = some (.int .u8 0) := (by rw [B2.cell (p := ⟨w.heap.size, 0, none⟩) hl0]; exact x0); have ne2 : ¬ w2.heap.size = w.heap.size := (by have := B2.size; omega))
        | (go_at_call 110; ((with_reducible refine (N3.out _).mono ?_)); rintro r w3 ⟨rfl, hb3⟩; (first | (have B3 := Below.call B2 hb3) | (have B3 := Below.call (B2.push _) hb3) | (have B3 := Below.call (B2.drew) hb3) | (have B3 := Below.call (B2.drew.push _) hb3) | (have B3 := Below.call (B2.push _).drew hb3)); (first | (have C03 := Below.call C02 hb3) | (have C03 := Below.call (C02.push _) hb3) | (have C03 := Below.call (C02.drew) hb3) | (have C03 := Below.call (C02.drew.push _) hb3) | (have C03 := Below.call (C02.push _).drew hb3)); (first | (have C13 := Below.call hb2 hb3) | (have C13 := Below.call (hb2.push _) hb3) | (have C13 := Below.call (hb2.drew) hb3) | (have C13 := Below.call (hb2.drew.push _) hb3) | (have C13 := Below.call (hb2.push _).drew hb3)); have q3 : w3.cell? ⟨w.heap.size, 0, none⟩ = some (.int .u8 0) := (by rw [B3.cell (p := ⟨w.heap.size, 0, none⟩) hl0]; exact x0); have ne3 : ¬ w3.heap.size = w.heap.size := (by have := B3.size; omega))
        | (go_at_call 110; ((with_reducible refine (N4.out _).mono ?_)); rintro r w4 ⟨rfl, hb4⟩; (first | (have B4 := Below.call B3 hb4) | (have B4 := Below.call (B3.push _) hb4) | (have B4 := Below.call (B3.drew) hb4) | (have B4 := Below.call (B3.drew.push _) hb4) | (have B4 := Below.call (B3.push _).drew hb4)); (first | (have C04 := Below.call C03 hb4) | (have C04 := Below.call (C03.push _) hb4) | (have C04 := Below.call (C03.drew) hb4) | (have C04 := Below.call (C03.drew.push _) hb4) | (have C04 := Below.call (C03.push _).drew hb4)); (first | (have C14 := Below.call C13 hb4) | (have C14 := Below.call (C13.push _) hb4) | (have C14 := Below.call (C13.drew) hb4) | (have C14 := Below.call (C13.drew.push _) hb4) | (have C14 := Below.call (C13.push _).drew hb4)); (first | (have C24 := Below.call hb3 hb4) | (have C24 := Below.call (hb3.push _) hb4) | (have C24 := Below.call (hb3.drew) hb4) | (have C24 := Below.call (hb3.drew.push _) hb4) | (have C24 := Below.call (hb3.push _).drew hb4)); obtain ⟨hc0, hf0⟩ := bcell C04; obtain ⟨hc1, hf1⟩ := bcell C14; obtain ⟨hc2, hf2⟩ := bcell C24; obtain ⟨hc3, hf3⟩ := bcell hb4; have q4 : w4.cell? ⟨w.heap.size, 0, none⟩ = some (.int .u8 0) := (by rw [B4.cell (p := ⟨w.heap.size, 0, none⟩) hl0]; exact x0); have ne4 : ¬ w4.heap.size = w.heap.size := (by have := B4.size; omega)))
    all_goals
      go_wp2_with fail
      go_meet
      refine ⟨_, rfl, ?_⟩
      first
        | (refine (id (α := Hid (PartAt w0 _ w4.heap.size _ _ _ _ _ _)) ?_); exact PartAt.fresh B4 _ _ _ _ _ _ 183)
        | (refine (id (α := Hid (PartAt w0 _ w3.heap.size _ _ _ _ _ _)) ?_); exact PartAt.put (b := w3.heap.size) B4 ((Box6.new w3 _ _ _ _ _ _ 183).below hb4 (by simp)) ((Fr6.new w3 _ _ _ _ _ _ 183).below hb4 (by simp)) B3.size _ _ _ _ _ _)
        | (refine (id (α := Hid (PartAt w0 _ w2.heap.size _ _ _ _ _ _)) ?_); exact PartAt.put (b := w2.heap.size) B4 ((Box6.new w2 _ _ _ _ _ _ 183).below C24 (by simp)) ((Fr6.new w2 _ _ _ _ _ _ 183).below C24 (by simp)) B2.size _ _ _ _ _ _)
        | (refine (id (α := Hid (PartAt w0 _ w1.heap.size _ _ _ _ _ _)) ?_); exact PartAt.put (b := w1.heap.size) B4 ((Box6.new w1 _ _ _ _ _ _ 183).below C14 (by simp)) ((Fr6.new w1 _ _ _ _ _ _ 183).below C14 (by simp)) B1.size _ _ _ _ _ _)
        | (refine (id (α := Hid (PartAt w0 _ w0.heap.size _ _ _ _ _ _)) ?_); exact PartAt.put (b := w0.heap.size) B4 ((Box6.new w0 _ _ _ _ _ _ 183).below (undrew C04) (by simp)) ((Fr6.new w0 _ _ _ _ _ _ 183).below (undrew C04) (by simp)) B0.size _ _ _ _ _ _)
  case rest =>
    obtain ⟨b, rfl, HP⟩ := hcut
    clear N1 N2 N3 N4 hk hdA
    have X := HP.out.box
    have HB := Lib.hid (HB0.out.call HP.out.bel)
    have R := Lib.hid (R0.out.below HP.out.bel (cell_lt R0.out.c0))
    have F := Lib.hid (F0.out.below HP.out.bel (cell_lt R0.out.c0))
    have ne1 : ¬ b = w.heap.size := by have h1 := cell_lt R0.out.c0; have h2 := HP.out.ge; simp at h1; omega
    obtain ⟨c0, c1, c2, c3, c4, c5⟩ := X
    have hbl := cell_lt c0
    simp only at hbl
    go_wp2_with fail
    with_reducible refine (HM.out _).mono ?_
    rintro r w2 ⟨rfl, b2⟩
    have X2 := (Box6.mk c0 c1 c2 c3 c4 c5).below b2 hbl
    have HB2 := Lib.hid (HB.out.call b2)
    obtain ⟨r0, r1, r2, r3, r4, r5⟩ := R.out.below b2 (cell_lt R.out.c0)
    obtain ⟨f0, f1, f2, f3, f4, f5⟩ := F.out.below b2 (cell_lt R.out.c0)
    clear c0 c1 c2 c3 c4 c5 hbl b2 HB R F HP HM R0 F0 HB0
    obtain ⟨c0, c1, c2, c3, c4, c5⟩ := X2
    rcases hf : fineH g n with _ | _
    · obtain rfl : err = 8 := E8.out (fun h => by rw [hf] at h; cases h.1)
      go_wp2_with fail
      refine bodyPost_ret (v := .tuple #[PV 0 0 0 0 0 ⟨#[]⟩, .int .i64 8]) (by simp [results, Tryz.results109, go_sem, *]) rfl ⟨by simp, ?_⟩
      exact HB2.out.set6 (Nat.le_refl _) _ _ _ _ _ _
    · by_cases hp : a < o
      · obtain rfl : err = 0 := E0.out hf hp
        have hq : decide (o ≤ a) = false := decide_eq_false (by omega)
        have ho : (o == 0) = false := by have := HO.out; simp; omega
        clear hp
        go_wp2_with fail
        refine bodyPost_ret (v := .tuple #[PV k g n a o d, .int .i64 0]) (by simp [results, Tryz.results109, go_sem, *]) rfl ⟨by simp, ?_⟩
        exact HB2.out.set6 (Nat.le_refl _) _ _ _ _ _ _
      · obtain rfl : err = 8 := E8.out (fun h => hp h.2)
        by_cases h0 : o = 0
        · have ho : (o == 0) = true := by simp [h0]
          clear hp h0
          go_wp2_with fail
          refine bodyPost_ret (v := .tuple #[PV 0 0 0 0 0 ⟨#[]⟩, .int .i64 8]) (by simp [results, Tryz.results109, go_sem, *]) rfl ⟨by simp, ?_⟩
          exact HB2.out.set6 (Nat.le_refl _) _ _ _ _ _ _
        · have ho : (o == 0) = false := by simp [h0]
          have hq : decide (o ≤ a) = true := decide_eq_true (by omega)
          clear hp h0
          go_wp2_with fail
          refine bodyPost_ret (v := .tuple #[PV 0 0 0 0 0 ⟨#[]⟩, .int .i64 8]) (by simp [results, Tryz.results109, go_sem, *]) rfl ⟨by simp, ?_⟩
          exact HB2.out.set6 (Nat.le_refl _) _ _ _ _ _ _

theorem rread_form (s : ByteArray) (w : World) (h : ((s.size : Int) != 52) = true) :
    Calls Tryz.prog 109 #[.string s] w fun r w' => r = .returned (.tuple #[PV 0 0 0 0 0 ⟨#[]⟩, .int .i64 4]) ∧ Below w.heap.size w w' := by
  go_enter Tryz.func109, Tryz.ntmps109
  go_wp2_with fail
  refine bodyPost_ret (v := .tuple #[PV 0 0 0 0 0 ⟨#[]⟩, .int .i64 4]) (by simp [results, Tryz.results109, go_sem, *]) rfl ⟨rfl, ?_⟩
  exact (Below.refl _ _).push _

theorem rread_any (s : ByteArray) (w : World) : Calls Tryz.prog 109 #[.string s] w (RetR s w) := by
  by_cases hs : s.size = 52
  · exact rread_52 s w hs
  · have e : errR s = 4 := by unfold errR; rw [if_neg hs]
    unfold RetR partV
    rw [e, if_neg (by decide)]; exact rread_form s w (by simp; omega)

end Go.Proofs.YtkglolnghihegaaGreatDoor.Shf
