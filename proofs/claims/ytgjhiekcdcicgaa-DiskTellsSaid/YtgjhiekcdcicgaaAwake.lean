/- The contract of awake. -/
import Derived.Test.YtgjhiekcdcicgaaDone
import Derived.Test.YtgjhiekcdcicgaaCrash
import Derived.Test.YtgjhiekcdcicgaaArm
import Derived.Test.YtgjhiekcdcicgaaSame
import Derived.Test.YtgjhiekcdcicgaaClass
namespace Go.Proofs.Ytgjhiekcdcicgaa
open Go.RowKit

theorem blt {W w1 : World} (hb : Below W.heap.size W w1) : ∀ b, b < W.heap.size → b < w1.heap.size := fun _ h => Nat.lt_of_lt_of_le h hb.size

/-- Behind a region: the variable in block b holds this device. -/
structure NewD (w wx : World) (b : Nat) (A : Option Addr) (n c : Nat) (A' : Option Addr) (m c' : Nat) (f : Int) (S : List ByteArray) (W : List Wr) : Prop where
  bel : Below w.heap.size w wx
  st : St wx b A n c A' m c' f
  dev : Dev wx A n c A' m c' f S W
  new : w.heap.size ≤ b
section
variable {w wx : World} {b : Nat} {A : Option Addr} {n c : Nat} {A' : Option Addr} {m c' : Nat} {f : Int} {S : List ByteArray} {W : List Wr}
theorem NewD.fresh (hb : Below w.heap.size w wx) (hD : Dev wx A n c A' m c' f S W) (t : TypeId) : NewD w (wx.alloc (.cells #[.slice A n c, .slice A' m c', .int .i64 f] t)) wx.heap.size A n c A' m c' f S W :=
  ⟨hb.push _, St.new _ _ _ _ _ _ _ _ _, hD.new _, hb.size⟩
theorem NewD.put (hb : Below w.heap.size w wx) (hD : Dev wx A n c A' m c' f S W) (hs : St wx b none 0 0 none 0 0 0) (hw : w.heap.size ≤ b) : NewD w (set3 wx b (.slice A n c) (.slice A' m c') (.int .i64 f)) b A n c A' m c' f S W :=
  ⟨hb.grown (grown_set3 _ _ _ _ _) hb.size (by simpa using hw), hs.set3 _ _ _ _ _ _ _, hD.only hs.ns (grown_set3 _ _ _ _ _), hw⟩
end

/-- The devices of awake. -/
def aW1 : List Wr := [(3, fillS 1)]
def aW2 : List Wr := [(3, fillS 1), (3, fillS 2)]
theorem aP1 : putE (newS 16) [] (-1) 3 (fillS 1) = 0 := by decide +kernel
theorem aP2 : putE (newS 16) aW1 (-1) 3 (fillS 2) = 0 := by decide +kernel
theorem aC2 : chk (newS 16) aW2 (-1) = 0 := by decide +kernel
def aS : List ByteArray := goAll (newS 16) aW2 (cutAt [64, 3])
def aT : List ByteArray := goAll (newS 16) aW2 (fun _ => 64)
theorem aCD : chk aS [] (-1) = 0 := by decide +kernel
theorem aC3 : chk (newS 16) aW2 2 = 0 := by decide +kernel
theorem aP3 : putE aT [] 1 0 (fillS 3) = 0 := by decide +kernel
theorem aF4 : flushE aT [(0, fillS 3)] 0 = 21 := by decide +kernel
theorem aC4 : chk aT [(0, fillS 3)] 0 = 0 := by decide +kernel
theorem aR2 : rdS (newS 16) aW2 (-1) 3 = fillS 2 := by decide +kernel
theorem aE2 : rdE (newS 16) aW2 (-1) 3 = 0 := by decide +kernel
theorem aR3 : rdS aS [] (-1) 3 = (fillS 2).extract 0 3 ++ (fillS 1).extract 3 (fillS 1).size := by decide +kernel
theorem aE3 : rdE aS [] (-1) 3 = 0 := by decide +kernel
theorem aSm1 : sameD aS [] (-1) aS [] (-1) = true := by simp [sameD]
theorem aSm2 : sameD aS [] (-1) (newS 16) aW2 (-1) = false := by simp [sameD, aW2]

set_option maxRecDepth 100000 in
set_option maxHeartbeats 8000000 in
theorem awake_any (w : World) : Calls Try.prog 9 #[] w fun e w' => e = .returned (.bool true) ∧ Below w.heap.size w w' := by
  have HN := Lib.hid (fun w => new_yes 16 w (by omega) (by omega))
  have HN15 := Lib.hid (fun w => new_no 15 w (by omega))
  go_enter Try.func9, Try.ntmps9
  go_wp2_with fail
  refine (HN.out _).mono ?_
  rintro r w1 ⟨A1, n1, k1, B1, m1, l1, rfl, hD1, hb1⟩
  go_wp2_with fail
  have hN1 := NewD.fresh hb1 hD1 33
  generalize w1.alloc (.cells #[.slice A1 n1 k1, .slice B1 m1 l1, .int .i64 (-1)] 33) = wa at *
  generalize w1.heap.size = b1 at *
  clear hD1 hb1
  have HN1 := Lib.hid hN1
  clear hN1
  go_upto_region 2 with fail
  go_cut [3, 4] (fun s3 s4 wx => ∃ b A n c A' m c', s3 = .pointer (some ⟨b, 0, none⟩) ∧ s4 = .int .i64 0 ∧ Hid (NewD wa wx b A n c A' m c' (-1) (newS 16) aW1))
  case first =>
    obtain ⟨x0, x1, x2, y0, y1, y2⟩ := HN1.out.st.box
    have hl1 := HN1.out.st.lt
    have HF := Lib.hid (fun W => filled_any 1 1 W rfl)
    have HP : Hid (∀ W, Below wa.heap.size wa W → Calls Try.prog 11 #[DV A1 n1 k1 B1 m1 l1 (-1), .int .i64 3, .string (fillS 1)] W (RetDE W (newS 16) aW1 (-1) 0)) := fun W hb => put_yes A1 n1 k1 B1 m1 l1 (-1) (newS 16) [] 3 (fillS 1) W (HN1.out.dev.below hb) aP1
    have ne1 : ¬ wa.heap.size = b1 := by omega
    go_region_held3 (fun W => W.cell? ⟨b1, 0, none⟩ = some (.slice A1 n1 k1) ∧ W.cell? ⟨b1, 1, none⟩ = some (.slice B1 m1 l1) ∧ W.cell? ⟨b1, 2, none⟩ = some (.int .i64 (-1))) (go_keep)
      (first
        | (go_at_call 29; ((with_reducible refine (HF.out _).mono ?_)); rintro r w4 ⟨rfl, hb4⟩; obtain ⟨hc, hf⟩ := bcell hb4; have hlt4 := blt hb4; have hbw : Below wa.heap.size wa w4 := (Below.call (by repeat (first | exact Below.refl _ _ | refine Below.push ?_ _ | refine Below.drew ?_)) hb4); have q0 : w4.cell? ⟨b1, 0, none⟩ = some (.slice A1 n1 k1) := (by rw [hbw.cell (p := ⟨b1, 0, none⟩) hl1]; exact x0); have q1 : w4.cell? ⟨b1, 1, none⟩ = some (.slice B1 m1 l1) := (by rw [hbw.cell (p := ⟨b1, 1, none⟩) hl1]; exact x1); have q2 : w4.cell? ⟨b1, 2, none⟩ = some (.int .i64 (-1)) := (by rw [hbw.cell (p := ⟨b1, 2, none⟩) hl1]; exact x2); have ne4 : ¬ w4.heap.size = b1 := (by have := hbw.size; omega))
        | (go_at_call 11; ((with_reducible refine (HP.out _ (by first | exact hbw | exact hbw.push _)).mono ?_)); rintro r w5 ⟨A9, n9, k9, B9, m9, l9, rfl, hD5, hb5⟩; obtain ⟨hc5, hf5⟩ := bcell hb5; have hlt5 := blt hb5; have hbw5 : Below wa.heap.size wa w5 := (Below.call (by first | exact hbw | exact hbw.push _) hb5); have r0 : w5.cell? ⟨b1, 0, none⟩ = some (.slice A1 n1 k1) := (by rw [hbw5.cell (p := ⟨b1, 0, none⟩) hl1]; exact x0); have r1 : w5.cell? ⟨b1, 1, none⟩ = some (.slice B1 m1 l1) := (by rw [hbw5.cell (p := ⟨b1, 1, none⟩) hl1]; exact x1); have r2 : w5.cell? ⟨b1, 2, none⟩ = some (.int .i64 (-1)) := (by rw [hbw5.cell (p := ⟨b1, 2, none⟩) hl1]; exact x2); have ne5 : ¬ w5.heap.size = b1 := (by have := hbw5.size; omega); have HD5 := Lib.hid hD5; clear hD5))
    · go_wp2_with fail
      go_meet
      exact ⟨_, _, _, _, _, _, _, rfl, rfl, NewD.fresh hbw5 HD5.out 33⟩
    · go_wp2_with fail
      go_meet
      exact ⟨_, _, _, _, _, _, _, rfl, rfl, NewD.put hbw5 HD5.out ((St.new w4 none 0 0 none 0 0 0 33).call hb5) hbw.size⟩
    · go_wp2_with fail
      go_meet
      exact ⟨_, _, _, _, _, _, _, rfl, rfl, NewD.put hbw5 HD5.out (((St.new wa none 0 0 none 0 0 0 33).call (undrew hb4)).call hb5) (Nat.le_refl _)⟩
  case rest =>
    obtain ⟨b2, A2, n2, k2, B2, m2, l2, rfl, rfl, HN2⟩ := hcut
    obtain ⟨wb, rfl⟩ : ∃ x : World, x = wc := ⟨_, rfl⟩
    have HB2 := Lib.hid (HN1.out.bel.call HN2.out.bel)
    clear HN1
    go_upto_region 3 with fail
    go_cut [5, 6] (fun s3 s4 wx => ∃ b A n c A' m c', s3 = .pointer (some ⟨b, 0, none⟩) ∧ s4 = .int .i64 0 ∧ Hid (NewD wb wx b A n c A' m c' (-1) (newS 16) aW2))
    case first =>
      obtain ⟨x0, x1, x2, y0, y1, y2⟩ := HN2.out.st.box
      have hl1 := HN2.out.st.lt
      have HF := Lib.hid (fun W => filled_any 2 2 W rfl)
      have HP : Hid (∀ W, Below wb.heap.size wb W → Calls Try.prog 11 #[DV A2 n2 k2 B2 m2 l2 (-1), .int .i64 3, .string (fillS 2)] W (RetDE W (newS 16) aW2 (-1) 0)) := fun W hb => put_yes A2 n2 k2 B2 m2 l2 (-1) (newS 16) aW1 3 (fillS 2) W (HN2.out.dev.below hb) aP2
      have ne1 : ¬ wb.heap.size = b2 := by omega
      go_region_held3 (fun W => W.cell? ⟨b2, 0, none⟩ = some (.slice A2 n2 k2) ∧ W.cell? ⟨b2, 1, none⟩ = some (.slice B2 m2 l2) ∧ W.cell? ⟨b2, 2, none⟩ = some (.int .i64 (-1))) (go_keep)
        (first
          | (go_at_call 29; ((with_reducible refine (HF.out _).mono ?_)); rintro r w4 ⟨rfl, hb4⟩; obtain ⟨hc, hf⟩ := bcell hb4; have hlt4 := blt hb4; have hbw : Below wb.heap.size wb w4 := (Below.call (by repeat (first | exact Below.refl _ _ | refine Below.push ?_ _ | refine Below.drew ?_)) hb4); have q0 : w4.cell? ⟨b2, 0, none⟩ = some (.slice A2 n2 k2) := (by rw [hbw.cell (p := ⟨b2, 0, none⟩) hl1]; exact x0); have q1 : w4.cell? ⟨b2, 1, none⟩ = some (.slice B2 m2 l2) := (by rw [hbw.cell (p := ⟨b2, 1, none⟩) hl1]; exact x1); have q2 : w4.cell? ⟨b2, 2, none⟩ = some (.int .i64 (-1)) := (by rw [hbw.cell (p := ⟨b2, 2, none⟩) hl1]; exact x2); have ne4 : ¬ w4.heap.size = b2 := (by have := hbw.size; omega))
          | (go_at_call 11; ((with_reducible refine (HP.out _ (by first | exact hbw | exact hbw.push _)).mono ?_)); rintro r w5 ⟨A9, n9, k9, B9, m9, l9, rfl, hD5, hb5⟩; obtain ⟨hc5, hf5⟩ := bcell hb5; have hlt5 := blt hb5; have hbw5 : Below wb.heap.size wb w5 := (Below.call (by first | exact hbw | exact hbw.push _) hb5); have r0 : w5.cell? ⟨b2, 0, none⟩ = some (.slice A2 n2 k2) := (by rw [hbw5.cell (p := ⟨b2, 0, none⟩) hl1]; exact x0); have r1 : w5.cell? ⟨b2, 1, none⟩ = some (.slice B2 m2 l2) := (by rw [hbw5.cell (p := ⟨b2, 1, none⟩) hl1]; exact x1); have r2 : w5.cell? ⟨b2, 2, none⟩ = some (.int .i64 (-1)) := (by rw [hbw5.cell (p := ⟨b2, 2, none⟩) hl1]; exact x2); have ne5 : ¬ w5.heap.size = b2 := (by have := hbw5.size; omega); have HD5 := Lib.hid hD5; clear hD5))
      · go_wp2_with fail
        go_meet
        exact ⟨_, _, _, _, _, _, _, rfl, rfl, NewD.fresh hbw5 HD5.out 33⟩
      · go_wp2_with fail
        go_meet
        exact ⟨_, _, _, _, _, _, _, rfl, rfl, NewD.put hbw5 HD5.out ((St.new w4 none 0 0 none 0 0 0 33).call hb5) hbw.size⟩
      · go_wp2_with fail
        go_meet
        exact ⟨_, _, _, _, _, _, _, rfl, rfl, NewD.put hbw5 HD5.out (((St.new wb none 0 0 none 0 0 0 33).call (undrew hb4)).call hb5) (Nat.le_refl _)⟩
    case rest =>
      obtain ⟨b3, A3, n3, k3, B3, m3, l3, rfl, rfl, HN3⟩ := hcut
      obtain ⟨wd, rfl⟩ : ∃ x : World, x = wc := ⟨_, rfl⟩
      have HB3 := Lib.hid (HB2.out.call HN3.out.bel)
      clear HN2 HB2
      obtain ⟨x0, x1, x2, y0, y1, y2⟩ := HN3.out.st.box
      have hl3 := HN3.out.st.lt
      go_wp2_with fail
      have hr := read_any A3 n3 k3 B3 m3 l3 (-1) (newS 16) aW2 3 wd HN3.out.dev
      rw [aR2, aE2] at hr
      refine hr.mono ?_
      rintro r w4 ⟨rfl, hb4⟩
      clear hr
      have HB4 := Lib.hid (HB3.out.call hb4)
      have HS4 := Lib.hid (HN3.out.st.call hb4)
      have HD4 := Lib.hid (HN3.out.dev.below hb4)
      clear x0 x1 x2 y0 y1 y2 hb4 HN3 HB3
      obtain ⟨x0, x1, x2, y0, y1, y2⟩ := HS4.out.box
      have hl4 := HS4.out.lt
      go_wp2_with fail
      have hr := crash_yes A3 n3 k3 B3 m3 l3 (-1) (newS 16) aW2 (some ⟨w4.heap.size, 0, none⟩) 2 2 [64, 3] _ (HD4.out.new (.cells #[.int .i64 64, .int .i64 3] 3)) ((Blk.new w4 3 #[.int .i64 64, .int .i64 3]).rv rfl) aC2
      refine hr.mono ?_
      rintro r w5 ⟨A5, n5, k5, B5, m5, l5, rfl, hD5, hb5⟩
      clear hr
      have hN5 := NewD.fresh ((HB4.out.push _).call hb5) hD5 33
      have HS5 := Lib.hid (((HS4.out.alloc _).call hb5).alloc (.cells #[.slice A5 n5 k5, .slice B5 m5 l5, .int .i64 (-1)] 33))
      have HD5 := Lib.hid (((HD4.out.new _).below hb5).new (.cells #[.slice A5 n5 k5, .slice B5 m5 l5, .int .i64 (-1)] 33))
      clear x0 x1 x2 y0 y1 y2 hb5 HD4 HS4 HB4 hD5
      have HN5 := Lib.hid hN5
      clear hN5
      go_wp2_with fail
      generalize w5.alloc (.cells #[.slice A5 n5 k5, .slice B5 m5 l5, .int .i64 (-1)] 33) = we at *
      generalize w5.heap.size = b5 at *
      have hr := read_any A5 n5 k5 B5 m5 l5 (-1) aS [] 3 we HN5.out.dev
      rw [aR3, aE3] at hr
      refine hr.mono ?_
      rintro r w6 ⟨rfl, hb6⟩
      clear hr
      have HB6 := Lib.hid (HN5.out.bel.call hb6)
      have HS6 := Lib.hid (HN5.out.st.call hb6)
      have HD6 := Lib.hid (HN5.out.dev.below hb6)
      have HS3 := Lib.hid (HS5.out.call hb6)
      have HD3 := Lib.hid (HD5.out.below hb6)
      clear hb6 HS5 HD5 HN5
      obtain ⟨x0, x1, x2, y0, y1, y2⟩ := HS3.out.box
      go_wp2_with fail
      have hr := arm_in A3 n3 k3 B3 m3 l3 (-1) (newS 16) aW2 2 w6 HD3.out aC2 (by omega) (by omega)
      refine hr.mono ?_
      rintro r w7 ⟨A7, n7, k7, B7, m7, l7, rfl, hD7, hb7⟩
      clear hr
      go_wp2_with fail
      have hr := flush0 A7 n7 k7 B7 m7 l7 2 (newS 16) aW2 w7 hD7 aC3 (by omega)
      refine hr.mono ?_
      rintro r w8 ⟨A8, n8, k8, B8, m8, l8, rfl, hD8, hb8⟩
      clear hr
      have HB8 := Lib.hid ((HB6.out.call hb7).call hb8)
      have HS8 := Lib.hid (((HS6.out.call hb7).call hb8).alloc (.cells #[.slice A8 n8 k8, .slice B8 m8 l8, .int .i64 1] 33))
      have HD8 := Lib.hid (((HD6.out.below hb7).below hb8).new (.cells #[.slice A8 n8 k8, .slice B8 m8 l8, .int .i64 1] 33))
      have HT8 := Lib.hid (((HS3.out.call hb7).call hb8).alloc (.cells #[.slice A8 n8 k8, .slice B8 m8 l8, .int .i64 1] 33))
      have HE8 := Lib.hid (((HD3.out.below hb7).below hb8).new (.cells #[.slice A8 n8 k8, .slice B8 m8 l8, .int .i64 1] 33))
      have hN8 : NewD w (w8.alloc (.cells #[.slice A8 n8 k8, .slice B8 m8 l8, .int .i64 1] 33)) w8.heap.size A8 n8 k8 B8 m8 l8 1 aT [] := NewD.fresh HB8.out hD8 33
      have hbu : burnt 2 = 1 := rfl
      rw [hbu]
      clear hbu x0 x1 x2 y0 y1 y2 hb7 hb8 hD7 hD8 HB6 HS6 HD6 HS3 HD3
      go_wp2_with fail
      have HN8 := Lib.hid hN8
      clear hN8
      generalize w8.alloc (.cells #[.slice A8 n8 k8, .slice B8 m8 l8, .int .i64 1] 33) = wf at *
      generalize w8.heap.size = b8 at *
      go_upto_region 8 with fail
      go_cut [14, 15] (fun s3 s4 wx => ∃ b A n c A' m c', s3 = .pointer (some ⟨b, 0, none⟩) ∧ s4 = .int .i64 0 ∧ Hid (NewD wf wx b A n c A' m c' 0 aT [(0, fillS 3)]))
      case first =>
        obtain ⟨x0, x1, x2, y0, y1, y2⟩ := HN8.out.st.box
        have hl1 := HN8.out.st.lt
        have HF := Lib.hid (fun W => filled_any 3 3 W rfl)
        have HP : Hid (∀ W, Below wf.heap.size wf W → Calls Try.prog 11 #[DV A8 n8 k8 B8 m8 l8 1, .int .i64 0, .string (fillS 3)] W (RetDE W aT [(0, fillS 3)] 0 0)) := fun W hb => put_yes A8 n8 k8 B8 m8 l8 1 aT [] 0 (fillS 3) W (HN8.out.dev.below hb) aP3
        have ne1 : ¬ wf.heap.size = b8 := by omega
        go_region_held3 (fun W => W.cell? ⟨b8, 0, none⟩ = some (.slice A8 n8 k8) ∧ W.cell? ⟨b8, 1, none⟩ = some (.slice B8 m8 l8) ∧ W.cell? ⟨b8, 2, none⟩ = some (.int .i64 1)) (go_keep)
          (first
            | (go_at_call 29; ((with_reducible refine (HF.out _).mono ?_)); rintro r w4 ⟨rfl, hb4⟩; obtain ⟨hc, hf⟩ := bcell hb4; have hlt4 := blt hb4; have hbw : Below wf.heap.size wf w4 := (Below.call (by repeat (first | exact Below.refl _ _ | refine Below.push ?_ _ | refine Below.drew ?_)) hb4); have q0 : w4.cell? ⟨b8, 0, none⟩ = some (.slice A8 n8 k8) := (by rw [hbw.cell (p := ⟨b8, 0, none⟩) hl1]; exact x0); have q1 : w4.cell? ⟨b8, 1, none⟩ = some (.slice B8 m8 l8) := (by rw [hbw.cell (p := ⟨b8, 1, none⟩) hl1]; exact x1); have q2 : w4.cell? ⟨b8, 2, none⟩ = some (.int .i64 1) := (by rw [hbw.cell (p := ⟨b8, 2, none⟩) hl1]; exact x2); have ne4 : ¬ w4.heap.size = b8 := (by have := hbw.size; omega))
            | (go_at_call 11; ((with_reducible refine (HP.out _ (by first | exact hbw | exact hbw.push _)).mono ?_)); rintro r w5 ⟨A9, n9, k9, B9, m9, l9, rfl, hD5, hb5⟩; obtain ⟨hc5, hf5⟩ := bcell hb5; have hlt5 := blt hb5; have hbw5 : Below wf.heap.size wf w5 := (Below.call (by first | exact hbw | exact hbw.push _) hb5); have r0 : w5.cell? ⟨b8, 0, none⟩ = some (.slice A8 n8 k8) := (by rw [hbw5.cell (p := ⟨b8, 0, none⟩) hl1]; exact x0); have r1 : w5.cell? ⟨b8, 1, none⟩ = some (.slice B8 m8 l8) := (by rw [hbw5.cell (p := ⟨b8, 1, none⟩) hl1]; exact x1); have r2 : w5.cell? ⟨b8, 2, none⟩ = some (.int .i64 1) := (by rw [hbw5.cell (p := ⟨b8, 2, none⟩) hl1]; exact x2); have ne5 : ¬ w5.heap.size = b8 := (by have := hbw5.size; omega); have HD5 := Lib.hid hD5; clear hD5))
        · go_wp2_with fail
          go_meet
          exact ⟨_, _, _, _, _, _, _, rfl, rfl, NewD.fresh hbw5 HD5.out 33⟩
        · go_wp2_with fail
          go_meet
          exact ⟨_, _, _, _, _, _, _, rfl, rfl, NewD.put hbw5 HD5.out ((St.new w4 none 0 0 none 0 0 0 33).call hb5) hbw.size⟩
        · go_wp2_with fail
          go_meet
          exact ⟨_, _, _, _, _, _, _, rfl, rfl, NewD.put hbw5 HD5.out (((St.new wf none 0 0 none 0 0 0 33).call (undrew hb4)).call hb5) (Nat.le_refl _)⟩
      case rest =>
        obtain ⟨b9, A9, n9, k9, B9, m9, l9, rfl, rfl, HN9⟩ := hcut
        obtain ⟨wg, rfl⟩ : ∃ x : World, x = wc := ⟨_, rfl⟩
        have HB9 := Lib.hid (HN8.out.bel.call HN9.out.bel)
        have HS9 := Lib.hid (HS8.out.call HN9.out.bel)
        have HD9 := Lib.hid (HD8.out.below HN9.out.bel)
        have HT9 := Lib.hid (HT8.out.call HN9.out.bel)
        have HE9 := Lib.hid (HE8.out.below HN9.out.bel)
        clear HN8 HS8 HD8 HT8 HE8 HB8
        obtain ⟨x0, x1, x2, y0, y1, y2⟩ := HN9.out.st.box
        go_wp2_with fail
        refine (flush21 A9 n9 k9 B9 m9 l9 aT [(0, fillS 3)] wg HN9.out.dev aC4).mono ?_
        rintro r wh ⟨A10, n10, k10, B10, m10, l10, rfl, hD10, hb⟩
        have HB10 := Lib.hid ((HB9.out.call hb).push (.cells #[.slice A10 n10 k10, .slice B10 m10 l10, .int .i64 0] 33))
        have HS10 := Lib.hid ((HS9.out.call hb).alloc (.cells #[.slice A10 n10 k10, .slice B10 m10 l10, .int .i64 0] 33))
        have HD10 := Lib.hid ((HD9.out.below hb).new (.cells #[.slice A10 n10 k10, .slice B10 m10 l10, .int .i64 0] 33))
        have HT10 := Lib.hid ((HT9.out.call hb).alloc (.cells #[.slice A10 n10 k10, .slice B10 m10 l10, .int .i64 0] 33))
        have HE10 := Lib.hid ((HE9.out.below hb).new (.cells #[.slice A10 n10 k10, .slice B10 m10 l10, .int .i64 0] 33))
        clear hb hD10 x0 x1 x2 y0 y1 y2 HN9 HB9 HS9 HD9 HT9 HE9
        go_wp2_with fail
        refine (HN15.out _).mono ?_
        rintro r wi ⟨A11, n11, k11, B11, m11, l11, rfl, hD11, hb⟩
        have HB11 := Lib.hid ((HB10.out.call hb).push (.cells #[.slice A11 n11 k11, .slice B11 m11 l11, .int .i64 0] 33))
        have HS11 := Lib.hid ((HS10.out.call hb).alloc (.cells #[.slice A11 n11 k11, .slice B11 m11 l11, .int .i64 0] 33))
        have HD11 := Lib.hid ((HD10.out.below hb).new (.cells #[.slice A11 n11 k11, .slice B11 m11 l11, .int .i64 0] 33))
        have HT11 := Lib.hid ((HT10.out.call hb).alloc (.cells #[.slice A11 n11 k11, .slice B11 m11 l11, .int .i64 0] 33))
        have HE11 := Lib.hid ((HE10.out.below hb).new (.cells #[.slice A11 n11 k11, .slice B11 m11 l11, .int .i64 0] 33))
        clear hb hD11 HB10 HS10 HD10 HT10 HE10
        have hz1 : (3 : Int) ≤ (fillS 1).size := by rw [fillS_size]; decide
        have hz2 : (3 : Int) ≤ (fillS 2).size := by rw [fillS_size]; decide
        have hlim : ¬ 9223372036854775807 < min 3 (fillS 2).size + ((fillS 1).size - 3) := by rw [fillS_size, fillS_size]; decide
        go_wp2_with fail
        generalize wi.alloc (.cells #[.slice A11 n11 k11, .slice B11 m11 l11, .int .i64 0] 33) = wj at *
        have hG : Two w b5 A5 n5 k5 B5 m5 l5 (-1) aS [] b3 A3 n3 k3 B3 m3 l3 (-1) (newS 16) aW2 wj := ⟨HB11.out, ⟨HS11.out.box, HD11.out⟩, ⟨HT11.out.box, HE11.out⟩⟩
        clear HB11 HS11 HD11 HT11 HE11
        refine wp_region_class (Two w b5 A5 n5 k5 B5 m5 l5 (-1) aS [] b3 A3 n3 k3 B3 m3 l3 (-1) (newS 16) aW2) hG.drawn (by kernel_rfl) (by kernel_rfl) ?_
        intro hne
        clear hG
        generalize hGG : Two w b5 A5 n5 k5 B5 m5 l5 (-1) aS [] b3 A3 n3 k3 B3 m3 l3 (-1) (newS 16) aW2 = G at *
        have HK : Hid (∀ W W', G W → Below W.heap.size W W' → G W') := by subst hGG; exact Two.kept
        have HBG : Hid (∀ W, G W → Below w.heap.size w W) := by subst hGG; exact fun _ h => h.1
        have C1 : Hid (∀ W, G W → Calls Try.prog 25 #[DV A5 n5 k5 B5 m5 l5 (-1)] W fun e w' => e = .returned (.int .i64 0) ∧ Below W.heap.size W w') := by
          subst hGG; intro W h; have := check_any A5 n5 k5 B5 m5 l5 (-1) aS [] W h.2.1.dev; rwa [aCD] at this
        have C2 : Hid (∀ W, G W → Calls Try.prog 27 #[DV A5 n5 k5 B5 m5 l5 (-1), DV A5 n5 k5 B5 m5 l5 (-1)] W fun e w' => e = .returned (.bool true) ∧ Below W.heap.size W w') := by
          subst hGG; intro W h; have := same_any A5 n5 k5 B5 m5 l5 (-1) aS [] A5 n5 k5 B5 m5 l5 (-1) aS [] W h.2.1.dev h.2.1.dev; rwa [aSm1] at this
        have C3 : Hid (∀ W, G W → Calls Try.prog 27 #[DV A5 n5 k5 B5 m5 l5 (-1), DV A3 n3 k3 B3 m3 l3 (-1)] W fun e w' => e = .returned (.bool false) ∧ Below W.heap.size W w') := by
          subst hGG; intro W h; have := same_any A5 n5 k5 B5 m5 l5 (-1) aS [] A3 n3 k3 B3 m3 l3 (-1) (newS 16) aW2 W h.2.1.dev h.2.2.dev; rwa [aSm2] at this
        have r0 : ∀ x : Wd G, x.W.cell? ⟨b5, 0, none⟩ = some (.slice A5 n5 k5) := by subst hGG; exact fun x => x.ok.2.1.box.c0
        have r1 : ∀ x : Wd G, x.W.cell? ⟨b5, 1, none⟩ = some (.slice B5 m5 l5) := by subst hGG; exact fun x => x.ok.2.1.box.c1
        have r2 : ∀ x : Wd G, x.W.cell? ⟨b5, 2, none⟩ = some (.int .i64 (-1)) := by subst hGG; exact fun x => x.ok.2.1.box.c2
        have r3 : ∀ x : Wd G, x.W.cell? ⟨b3, 0, none⟩ = some (.slice A3 n3 k3) := by subst hGG; exact fun x => x.ok.2.2.box.c0
        have r4 : ∀ x : Wd G, x.W.cell? ⟨b3, 1, none⟩ = some (.slice B3 m3 l3) := by subst hGG; exact fun x => x.ok.2.2.box.c1
        have r5 : ∀ x : Wd G, x.W.cell? ⟨b3, 2, none⟩ = some (.int .i64 (-1)) := by subst hGG; exact fun x => x.ok.2.2.box.c2
        clear hGG
        simp only [List.append_eq, List.cons_append, List.nil_append]
        repeat (go_big_quiet_step (((with_reducible (first
          | exact wd_call HK.out (filled_any 2 2 _ rfl)
          | exact wd_call HK.out (filled_any 1 1 _ rfl)
          | exact wd_call HK.out (C1.out _ (Wd.ok _))
          | exact wd_call HK.out (C2.out _ (Wd.ok _))
          | exact wd_call HK.out (C3.out _ (Wd.ok _))
          | exact wd_call HK.out (check8 none 0 0 none 0 0 0 _ (Or.inl (by decide))))))))
        refine wpQuiet_nil ?_
        rintro _ ⟨x, rfl⟩
        go_wp2_with fail
        go_ret
        exact ⟨rfl, HBG.out _ x.ok⟩

end Go.Proofs.Ytgjhiekcdcicgaa
