/- The walk of DiskStays. -/
import Derived.Test.YtgjhiekcdcicgaaStaysK
import Derived.Deep.QuietTactic
import Derived.BigQuiet
namespace Go.Proofs.Ytgjhiekcdcicgaa
open Go.RowKit

set_option maxRecDepth 100000 in
set_option maxHeartbeats 8000000 in
theorem walk_stays (a : Option Addr) (len cap : Nat) (acts : List Act) (a' : Option Addr) (len' cap' : Nat) (late : List Act) (ac : Option Addr) (clen ccap : Nat) (zs : List Int) (w : World) (hR : RV w a len 3 (TV acts)) (ha : ∀ x ∈ acts, x.a ≤ 255)
    (hR' : RV w a' len' 3 (TV late)) (ha' : ∀ x ∈ late, x.a ≤ 255) (hRc : RV w ac clen 1 (EV zs)) (hz : ∀ z ∈ zs, -128 ≤ z ∧ z ≤ 127) :
    Calls Try.prog 6 #[.slice a len cap, .slice a' len' cap', .slice ac clen ccap] w fun e w' => e = .returned (.bool true) ∧ Below w.heap.size w w' := by
  by_cases hg : (40 : Int) < len
  · clear hR ha hR' ha' hRc hz
    go_enter Try.func6, Try.ntmps6
    go_wp2_with (go_at_call 9; refine (awake_any _).mono ?_; rintro e w' ⟨rfl, hb⟩)
    go_ret
    exact ⟨rfl, hb⟩
  by_cases hg' : (20 : Int) < len'
  · clear hR ha hR' ha' hRc hz
    go_enter Try.func6, Try.ntmps6
    go_wp2_with (go_at_call 9; refine (awake_any _).mono ?_; rintro e w' ⟨rfl, hb⟩)
    go_ret
    exact ⟨rfl, hb⟩
  have HR := Lib.hid hR
  have HA := Lib.hid ha
  have HLn := Lib.hid hR.acts
  have HR' := Lib.hid hR'
  have HA' := Lib.hid ha'
  have HLn' := Lib.hid hR'.acts
  have HRC := Lib.hid hRc
  have HZ := Lib.hid hz
  have hlen : (len : Int) ≤ 40 := by omega
  have hlen' : (len' : Int) ≤ 20 := by omega
  clear hR ha hR' ha' hRc hz
  have HN := Lib.hid (fun w => new_yes 16 w (by omega) (by omega))
  go_enter Try.func6, Try.ntmps6
  go_wp2_with fail
  refine (HN.out _).mono ?_
  rintro r w1 ⟨A1, n1, k1, B1, m1, l1, rfl, hD1, hb1⟩
  go_wp2_with fail
  have hN1 := NewD.fresh hb1 hD1 33
  have HRun : Hid (Run w (w1.alloc (.cells #[.slice A1 n1 k1, .slice B1 m1 l1, .int .i64 (-1)] 33)) w1.heap.size A1 n1 k1 B1 m1 l1 (-1) (newS 16) [] 0) := ⟨hN1.bel, hN1.st, hN1.dev, fine_new, hN1.new⟩
  clear hD1 hb1 hN1
  generalize w1.alloc (.cells #[.slice A1 n1 k1, .slice B1 m1 l1, .int .i64 (-1)] 33) = w3 at *
  generalize w1.heap.size = b7 at *
  go_loopw [9] (fun i wr => ∃ (k : Nat) (A : Option Addr) (p c : Nat) (B : Option Addr) (m d : Nat) (S : List ByteArray) (W : List Wr), k ≤ len ∧ i = .int .i64 k ∧ Hid (Run w wr b7 A p c B m d (-1) S W k)) (fun i _ => len - (intOf i).toNat)
  case atStart => exact ⟨0, _, _, _, _, _, _, _, _, Nat.zero_le _, rfl, HRun.out⟩
  case round =>
    obtain ⟨k, A, p, c, B, m, d, S, W, hk, rfl, HR2⟩ := hrel
    clear HRun
    by_cases hlt : k < len
    · have hl : k < acts.length := by have := HLn.out; omega
      obtain ⟨ba, off, rfl, hla, t0, t1, t2⟩ := (HR.out.below HR2.out.bel).actAt hlt hl
      have hax := HA.out _ (List.getElem_mem hl)
      obtain ⟨x, HX⟩ : ∃ x, x = acts[k] := ⟨_, rfl⟩
      rw [← HX] at t0 t1 t2 hax
      clear HX hl
      have HC : Hid (∀ W', Below wr.heap.size wr W' → Calls Try.prog 28 #[DV A p c B m d (-1), AV x.a x.b.toNat x.fl] W' (RetDE W' (dS S W x) (dW W x) (-1) 0)) := fun W' hb => done_ok HR2.out.fine (by omega) (by decide) x hax (HR2.out.dev.below hb)
      have HFN : Hid (Fine (dS S W x) (dW W x) (-1) (k + 1)) := HR2.out.fine.act (by omega) x
      generalize dS S W x = S' at *
      generalize dW W x = W' at *
      generalize x.a = xa at *
      generalize x.b.toNat = xb at *
      generalize x.fl = xf at *
      go_upto_region 9 with fail
      go_cut [10, 11] (fun s8 s9 wx => ∃ b A n c A' m c', s8 = .pointer (some ⟨b, 0, none⟩) ∧ s9 = .int .i64 0 ∧ Hid (NewD wr wx b A n c A' m c' (-1) S' W'))
      case first =>
        obtain ⟨x0, x1, x2, y0, y1, y2⟩ := HR2.out.st.box
        have hl1 := HR2.out.st.lt
        have ne1 : ¬ wr.heap.size = b7 := by omega
        have ne2 : ¬ wr.heap.size = ba := by omega
        go_region_held3 (fun W => W.cell? ⟨b7, 0, none⟩ = some (.slice A p c) ∧ W.cell? ⟨b7, 1, none⟩ = some (.slice B m d) ∧ W.cell? ⟨b7, 2, none⟩ = some (.int .i64 (-1)) ∧ W.cell? ⟨ba, off + k * 3, none⟩ = some (.int .u8 xa) ∧ W.cell? ⟨ba, off + k * 3 + 1, none⟩ = some (.int .u8 xb) ∧ W.cell? ⟨ba, off + k * 3 + 2, none⟩ = some (.bool xf)) (go_keep)
          (first
            | (go_at_call 28; ((with_reducible refine (HC.out _ (by repeat (first | exact Below.refl _ _ | refine Below.push ?_ _ | refine Below.drew ?_))).mono ?_)); rintro r w4 ⟨A9, n9, k9, B9, m9, l9, rfl, hD4, hb4⟩; obtain ⟨hc, hf⟩ := bcell hb4; have hlt4 := blt hb4; have hbw : Below wr.heap.size wr w4 := (Below.call (by repeat (first | exact Below.refl _ _ | refine Below.push ?_ _ | refine Below.drew ?_)) hb4); have q0 : w4.cell? ⟨b7, 0, none⟩ = some (.slice A p c) := (by rw [hbw.cell (p := ⟨b7, 0, none⟩) hl1]; exact x0); have q1 : w4.cell? ⟨b7, 1, none⟩ = some (.slice B m d) := (by rw [hbw.cell (p := ⟨b7, 1, none⟩) hl1]; exact x1); have q2 : w4.cell? ⟨b7, 2, none⟩ = some (.int .i64 (-1)) := (by rw [hbw.cell (p := ⟨b7, 2, none⟩) hl1]; exact x2); have q3 : w4.cell? ⟨ba, off + k * 3, none⟩ = some (.int .u8 xa) := (by rw [hbw.cell (p := ⟨ba, off + k * 3, none⟩) hla]; exact t0); have q4 : w4.cell? ⟨ba, off + k * 3 + 1, none⟩ = some (.int .u8 xb) := (by rw [hbw.cell (p := ⟨ba, off + k * 3 + 1, none⟩) hla]; exact t1); have q5 : w4.cell? ⟨ba, off + k * 3 + 2, none⟩ = some (.bool xf) := (by rw [hbw.cell (p := ⟨ba, off + k * 3 + 2, none⟩) hla]; exact t2); have ne4 : ¬ w4.heap.size = b7 := (by have := hbw.size; omega); have ne5 : ¬ w4.heap.size = ba := (by have := hbw.size; omega); have HD4 := Lib.hid hD4; clear hD4))
        · go_wp2_with fail
          go_meet
          exact ⟨_, _, _, _, _, _, _, rfl, rfl, NewD.fresh hbw HD4.out 33⟩
        · go_wp2_with fail
          go_meet
          exact ⟨_, _, _, _, _, _, _, rfl, rfl, NewD.put hbw HD4.out ((St.new wr none 0 0 none 0 0 0 33).call (undrew hb4)) (Nat.le_refl _)⟩
      case rest =>
        obtain ⟨b8, A8, n8, k8, B8, m8, l8, rfl, rfl, HN8⟩ := hcut
        have HR3 := Lib.hid (HR2.out.call HN8.out.bel)
        obtain ⟨x0, x1, x2, y0, y1, y2⟩ := HN8.out.st.box
        obtain ⟨z0, z1, z2, v0, v1, v2⟩ := HR3.out.st.box
        have HR4 := Lib.hid (HR3.out.set HN8.out.dev HFN.out)
        clear t0 t1 t2
        go_wp2
        go_roundw
        case rel => exact ⟨k + 1, _, _, _, _, _, _, _, _, by omega, by go_num, HR4.out⟩
        case measure => simp [intOf]; omega
    · obtain ⟨-, hso, -, hwo⟩ := chk_ok HR2.out.fine.ok
      have HTok := Lib.hid (goAll_all (c := fun _ => 64) hso hwo (fun _ => Nat.le_refl _))
      have hFT : Fine (goAll S W fun _ => 64) [] (-1) 0 := ⟨chk_of (by rw [HTok.out.2, HR2.out.fine.len]; decide) (by rw [HTok.out.2, HR2.out.fine.len]; decide) (by decide) HTok.out.1 (by simp) (by simp), by rw [HTok.out.2]; exact HR2.out.fine.len, by simp⟩
      have hfl : Calls Try.prog 13 #[DV A p c B m d (-1)] wr (RetDE wr (goAll S W fun _ => 64) [] (-1) 0) := flush0 A p c B m d (-1) S W wr HR2.out.dev HR2.out.fine.ok (by decide)
      generalize (goAll S W fun _ => 64) = T at *
      have HFT := Lib.hid hFT
      have HFL := Lib.hid hfl
      clear hso hwo hFT hfl HTok
      obtain ⟨x0, x1, x2, y0, y1, y2⟩ := HR2.out.st.box
      go_wp2_with fail
      refine HFL.out.mono ?_
      rintro r w4 ⟨A4, n4, k4, B4, m4, l4, rfl, hD4, hb4⟩
      have hR4 := (HR2.out.call hb4).set hD4 HFT.out
      unfold set3 at hR4
      have HR4 := Lib.hid hR4
      obtain ⟨z0, z1, z2, v0, v1, v2⟩ := (HR2.out.st.call hb4).box
      clear x0 x1 x2 y0 y1 y2 hD4 hb4 hR4 HFL
      go_wp2_with fail
      have hX : (((w4.setCell ⟨b7, 0, none⟩ (Value.slice A4 n4 k4)).setCell ⟨b7, 1, none⟩ (.slice B4 m4 l4)).setCell ⟨b7, 2, none⟩ (.int .i64 (-1))).heap.size = w4.heap.size := by simp [World.setCell]
      clear z0 z1 z2 v0 v1 v2
      generalize (((w4.setCell ⟨b7, 0, none⟩ (Value.slice A4 n4 k4)).setCell ⟨b7, 1, none⟩ (.slice B4 m4 l4)).setCell ⟨b7, 2, none⟩ (.int .i64 (-1))) = wy at *
      have HK0 : Hid (StayK w ((wy.alloc (.cells #[.slice A4 n4 k4, .slice B4 m4 l4, .int .i64 (-1)] 33)).alloc (.cells #[.bool false, .bool false, .bool false, .bool false, .bool false, .bool false, .bool false, .bool false, .bool false, .bool false, .bool false, .bool false, .bool false, .bool false, .bool false, .bool false] 68)) b7 w4.heap.size (w4.heap.size + 1) A4 n4 k4 B4 m4 l4 T [] A4 n4 k4 B4 m4 l4 (List.replicate 16 false) (.slice none 0 0) [] 0) := by
        rw [← hX]
        have hb2 := (new1 wy (.cells #[.slice A4 n4 k4, .slice B4 m4 l4, .int .i64 (-1)] 33)).push (.cells #[.bool false, .bool false, .bool false, .bool false, .bool false, .bool false, .bool false, .bool false, .bool false, .bool false, .bool false, .bool false, .bool false, .bool false, .bool false, .bool false] 68)
        have hB := Blk.new (wy.alloc (.cells #[.slice A4 n4 k4, .slice B4 m4 l4, .int .i64 (-1)] 33)) 68 #[.bool false, .bool false, .bool false, .bool false, .bool false, .bool false, .bool false, .bool false, .bool false, .bool false, .bool false, .bool false, .bool false, .bool false, .bool false, .bool false]
        rw [World.size_alloc] at hB
        have hl7 := HR4.out.st.lt
        have hsz := HR4.out.bel.size
        exact ⟨HR4.out.call hb2, (St.new wy A4 n4 k4 B4 m4 l4 (-1) 33).alloc _, HR4.out.dev.below hb2, hB, rfl, IRow.nil _ _, by simp, by omega, by omega, by omega, by simp [Value.ownBlock], by simp [Value.ownBlock], by simp [Value.ownBlock], by omega, by simp, by simp⟩
      clear HR4 HR2 hX
      generalize ((wy.alloc (.cells #[.slice A4 n4 k4, .slice B4 m4 l4, .int .i64 (-1)] 33)).alloc (.cells #[.bool false, .bool false, .bool false, .bool false, .bool false, .bool false, .bool false, .bool false, .bool false, .bool false, .bool false, .bool false, .bool false, .bool false, .bool false, .bool false] 68)) = wz at *
      generalize w4.heap.size + 1 = b13 at *
      generalize w4.heap.size = b12 at *
      obtain ⟨A0, n0, c0, B0, m0, d0, hA0⟩ : ∃ A0 n0 c0 B0 m0 d0, (A4 = A0 ∧ n4 = n0 ∧ k4 = c0 ∧ B4 = B0 ∧ m4 = m0 ∧ l4 = d0) := ⟨_, _, _, _, _, _, rfl, rfl, rfl, rfl, rfl, rfl⟩
      clear hA0
      go_loopw [14, 15] (fun v i wr => ∃ (k : Nat) (A : Option Addr) (p c : Nat) (B : Option Addr) (m d : Nat) (V : List Wr) (O : List Bool) (H : List Int), k ≤ len' ∧ i = .int .i64 k ∧ Hid (StayK w wr b7 b12 b13 A p c B m d T V A4 n4 k4 B4 m4 l4 O v H k)) (fun _ i _ => len' - (intOf i).toNat)
      case atStart => exact ⟨0, _, _, _, _, _, _, _, _, _, Nat.zero_le _, rfl, HK0.out⟩
      case round =>
        obtain ⟨k', A', p', c', B', m', d', V, O, H, hk', rfl, HK⟩ := hrel
        clear HK0
        obtain ⟨k0, rfl⟩ : ∃ x, x = k := ⟨_, rfl⟩
        obtain ⟨k, rfl⟩ : ∃ x, x = k' := ⟨_, rfl⟩
        obtain ⟨A2, p2, c2, B2, m2, d2, rfl, rfl, rfl, rfl, rfl, rfl⟩ : ∃ x1 x2 x3 x4 x5 x6, x1 = A ∧ x2 = p ∧ x3 = c ∧ x4 = B ∧ x5 = m ∧ x6 = d := ⟨_, _, _, _, _, _, rfl, rfl, rfl, rfl, rfl, rfl⟩
        obtain ⟨A, p, c, B, m, d, rfl, rfl, rfl, rfl, rfl, rfl⟩ : ∃ x1 x2 x3 x4 x5 x6, x1 = A' ∧ x2 = p' ∧ x3 = c' ∧ x4 = B' ∧ x5 = m' ∧ x6 = d' := ⟨_, _, _, _, _, _, rfl, rfl, rfl, rfl, rfl, rfl⟩
        by_cases hlt' : k < len'
        · have hl : k < late.length := by have := HLn'.out; omega
          obtain ⟨bl, off, rfl, hla0, u0, u1, u2⟩ := HR'.out.actAt hlt' hl
          have hax := HA'.out _ (List.getElem_mem hl)
          obtain ⟨x, HX⟩ : ∃ x, x = late[k] := ⟨_, rfl⟩
          rw [← HX] at u0 u1 u2 hax
          clear HX hl
          obtain ⟨xa, bb, xf⟩ := x
          dsimp only at u0 u1 u2 hax
          obtain ⟨xb, hxb⟩ : ∃ xb, xb = bb.toNat := ⟨_, rfl⟩
          rw [← hxb] at u1
          have HXB := Lib.hid hxb
          clear hxb
          have t0 := (HK.out.run.bel.cell (p := ⟨bl, off + k * 3, none⟩) hla0).trans u0
          have hq : (xa : Int).tmod 16 = ((xa % 16 : Nat) : Int) := by rw [Int.tmod_eq_emod_of_nonneg (by omega)]; omega
          have hq2 : (xa : Int) % 16 = ((xa % 16 : Nat) : Int) := by omega
          have HQ := Lib.hid (show xa % 16 < 16 by omega)
          have hqb : ((xa % 16 : Nat) : Int) < 16 := by omega
          have hO : xa % 16 < O.length := by rw [HK.out.len]; exact HQ.out
          have hc13 := HK.out.arr.cell (i := xa % 16) (by rw [OV_length]; exact hO)
          have hf13 := HK.out.arr.frozen (xa % 16)
          have eO : (OV O)[xa % 16]'(by rw [OV_length]; exact hO) = .bool O[xa % 16] := by simp [OV]
          rw [eO] at hc13
          have HOG := Lib.hid (show O.getD (xa % 16) false = O[xa % 16] by simp [List.getD, hO])
          have HOL := Lib.hid hO
          have hwq : IntKind.i64.wrap ((xa % 16 : Nat) : Int) = ((xa % 16 : Nat) : Int) := IntWalk.i64_in _ (by omega)
          clear eO
          generalize hob : O[xa % 16] = ob at *
          clear hob hO
          generalize xa % 16 = q at *
          have i1 : (k : Int) < (len' : Int) := by omega
          cases ob with
          | true =>
            have HK3 := Lib.hid HK.out.skip
            go_wp2
            go_roundw
            case rel => exact ⟨k + 1, _, _, _, _, _, _, _, _, _, by omega, by go_num, HK3.out⟩
            case measure => simp [intOf]; omega
          | false =>
            have HK2 := Lib.hid (HK.out.mark q)
            have HNew : Hid (∀ x ∈ V, x.1 ≠ (q : Int)) := fun x hx e => by
              have h1 := HK.out.seen x hx
              rw [e, Int.toNat_natCast, HOG.out] at h1
              cases h1
            have HS : Hid ((O.set q true).getD q false = true) := getD_set_same O q HOL.out
            have HRow := Lib.hid HK.out.row
            clear HK
            go_upto_region 25 with fail
            generalize wr.setCell ⟨b13, q, none⟩ (Value.bool true) = wm at *
            go_cut [17, 18] (fun s3 s4 wx => ∃ b A n c A' m c', s3 = .pointer (some ⟨b, 0, none⟩) ∧ s4 = .int .i64 0 ∧ Hid (NewD wm wx b A n c A' m c' (-1) T (V ++ [((q : Int), fillS bb)])))
            case first =>
              obtain ⟨x0, x1, x2, y0, y1, y2⟩ := HK2.out.run.st.box
              have hl1 := HK2.out.run.st.lt
              have hla : bl < wm.heap.size := Nat.lt_of_lt_of_le hla0 HK2.out.run.bel.size
              have t1 := (HK2.out.run.bel.cell (p := ⟨bl, off + k * 3 + 1, none⟩) hla0).trans u1
              have HF := Lib.hid (fun W => filled_any (xb : Int) bb W (by rw [HXB.out]))
              have HP : Hid (∀ W, Below wm.heap.size wm W → Calls Try.prog 11 #[DV A p c B m d (-1), .int .i64 (q : Int), .string (fillS bb)] W (RetDE W T (V ++ [((q : Int), fillS bb)]) (-1) 0)) := fun W hb => put_yes A p c B m d (-1) T V q (fillS bb) W (HK2.out.run.dev.below hb) (by rw [HK2.out.run.fine.putE (by omega) q HQ.out _ (fillS_size bb)]; rfl)
              have ne1 : ¬ wm.heap.size = b7 := by omega
              have ne2 : ¬ wm.heap.size = bl := by omega
              go_region_held3 (fun W => W.cell? ⟨b7, 0, none⟩ = some (.slice A p c) ∧ W.cell? ⟨b7, 1, none⟩ = some (.slice B m d) ∧ W.cell? ⟨b7, 2, none⟩ = some (.int .i64 (-1)) ∧ W.cell? ⟨bl, off + k * 3 + 1, none⟩ = some (.int .u8 xb)) (go_keep)
                (first
                  | (go_at_call 29; ((with_reducible refine (HF.out _).mono ?_)); rintro r w4 ⟨rfl, hb4⟩; obtain ⟨hc, hf⟩ := bcell hb4; have hlt4 := blt hb4; have hbw : Below wm.heap.size wm w4 := (Below.call (by repeat (first | exact Below.refl _ _ | refine Below.push ?_ _ | refine Below.drew ?_)) hb4); have q0 : w4.cell? ⟨b7, 0, none⟩ = some (.slice A p c) := (by rw [hbw.cell (p := ⟨b7, 0, none⟩) hl1]; exact x0); have q1 : w4.cell? ⟨b7, 1, none⟩ = some (.slice B m d) := (by rw [hbw.cell (p := ⟨b7, 1, none⟩) hl1]; exact x1); have q2 : w4.cell? ⟨b7, 2, none⟩ = some (.int .i64 (-1)) := (by rw [hbw.cell (p := ⟨b7, 2, none⟩) hl1]; exact x2); have q3 : w4.cell? ⟨bl, off + k * 3 + 1, none⟩ = some (.int .u8 xb) := (by rw [hbw.cell (p := ⟨bl, off + k * 3 + 1, none⟩) hla]; exact t1); have ne4 : ¬ w4.heap.size = b7 := (by have := hbw.size; omega); have ne5 : ¬ w4.heap.size = bl := (by have := hbw.size; omega))
                  | (go_at_call 11; ((with_reducible refine (HP.out _ (by first | exact hbw | exact hbw.push _)).mono ?_)); rintro r w5 ⟨A9, n9, k9, B9, m9, l9, rfl, hD5, hb5⟩; obtain ⟨hc5, hf5⟩ := bcell hb5; have hlt5 := blt hb5; have hbw5 : Below wm.heap.size wm w5 := (Below.call (by first | exact hbw | exact hbw.push _) hb5); have r0 : w5.cell? ⟨b7, 0, none⟩ = some (.slice A p c) := (by rw [hbw5.cell (p := ⟨b7, 0, none⟩) hl1]; exact x0); have r1 : w5.cell? ⟨b7, 1, none⟩ = some (.slice B m d) := (by rw [hbw5.cell (p := ⟨b7, 1, none⟩) hl1]; exact x1); have r2 : w5.cell? ⟨b7, 2, none⟩ = some (.int .i64 (-1)) := (by rw [hbw5.cell (p := ⟨b7, 2, none⟩) hl1]; exact x2); have r3 : w5.cell? ⟨bl, off + k * 3 + 1, none⟩ = some (.int .u8 xb) := (by rw [hbw5.cell (p := ⟨bl, off + k * 3 + 1, none⟩) hla]; exact t1); have ne6 : ¬ w5.heap.size = b7 := (by have := hbw5.size; omega); have ne7 : ¬ w5.heap.size = bl := (by have := hbw5.size; omega); have HD5 := Lib.hid hD5; clear hD5))
              · go_wp2_with fail
                go_meet
                exact ⟨_, _, _, _, _, _, _, rfl, rfl, NewD.fresh hbw5 HD5.out 33⟩
              · go_wp2_with fail
                go_meet
                exact ⟨_, _, _, _, _, _, _, rfl, rfl, NewD.put hbw5 HD5.out ((St.new w4 none 0 0 none 0 0 0 33).call hb5) hbw.size⟩
              · go_wp2_with fail
                go_meet
                exact ⟨_, _, _, _, _, _, _, rfl, rfl, NewD.put hbw5 HD5.out (((St.new wm none 0 0 none 0 0 0 33).call (undrew hb4)).call hb5) (Nat.le_refl _)⟩
            case rest =>
              obtain ⟨b8, A8, n8, k8, B8, m8, l8, rfl, rfl, HN8⟩ := hcut
              have hK3 := HK2.out.put q bb (by omega) HQ.out HS.out HNew.out HN8.out
              unfold set3 at hK3
              have HK3 := Lib.hid hK3
              have hH := HK2.out.few
              obtain ⟨x0, x1, x2, y0, y1, y2⟩ := HN8.out.st.box
              obtain ⟨z0, z1, z2, v0, v1, v2⟩ := (HK2.out.run.st.call HN8.out.bel).box
              clear hK3 t0 hc13 hf13
              obtain ⟨av, capv, rfl, -⟩ := HRow.out.val
              clear HRow
              by_cases hcut : H.length < clen
              · obtain ⟨bc, offc, z, rfl, hbc, hzm, hcz⟩ := HRC.out.i8At hcut
                obtain ⟨hz1, hz2⟩ := HZ.out z hzm
                go_upto_if 108 with fail
                clear x0 x1 x2 y0 y1 y2 z0 z1 z2 v0 v1 v2
                generalize ((wc.setCell ⟨b7, 0, none⟩ (Value.slice A8 n8 k8)).setCell ⟨b7, 1, none⟩ (.slice B8 m8 l8)).setCell ⟨b7, 2, none⟩ (.int .i64 (-1)) = ws at *
                have hcz2 := (HK3.out.run.bel.cell (p := ⟨bc, offc + H.length, none⟩) hbc).trans hcz
                have HK4 := Lib.hid (HK3.out.call (new1 ws (.cells #[.int .i64 z] 3)))
                have hxc : (ws.alloc (.cells #[.int .i64 z] 3)).cell? ⟨ws.heap.size, 0, none⟩ = some (.int .i64 z) := by simp [go_sem]
                obtain ⟨v', w', hap, hI', hgr, hob⟩ := HK4.out.row.append ⟨ws.heap.size, 0, none⟩ 1 z hxc (by omega) (HK4.out.run.bel.size)
                have HK5 := Lib.hid (HK4.out.cut hH hI' hgr hob)
                have HAP := Lib.hid hap
                clear hap hI' hgr hob hxc hcz hzm
                have i2 : ((H.length : Nat) : Int) < (clen : Int) := by omega
                go_wp2_with (at_builtin; refine wpList_append_run rfl (.tmp 109) (.tmp 116) 28 28 rfl _ _ rfl rfl v' w' HAP.out ?_)
                go_roundw
                case rel => exact ⟨k + 1, _, _, _, _, _, _, _, _, _, by omega, by go_num, HK5.out⟩
                case measure => simp [intOf]; omega
              · have hcd : decide (((H.length : Nat) : Int) < (clen : Int)) = false := by simp; omega
                go_wp2
                go_roundw
                case rel => exact ⟨k + 1, _, _, _, _, _, _, _, _, _, by omega, by go_num, HK3.out⟩
                case measure => simp [intOf]; omega
        · obtain ⟨av, capv, rfl, hrv⟩ := HK.out.row.val
          have HRV := Lib.hid hrv
          clear hrv
          obtain ⟨-, hso, -, hwo⟩ := chk_ok HK.out.run.fine.ok
          have hT16 := HK.out.run.fine.len
          have HTorn := Lib.hid (fun (q : Nat) (hq : q < 16) => torn_all (c := cutAt H) hso hwo HK.out.uniq (cutAt_le H) q (by omega))
          have HLs := Lib.hid (fun (q : Nat) (hq : q < 16) => size_last hwo (q : Int) (secAt T q) (sec_size hso (by omega)))
          have HSs := Lib.hid (fun (q : Nat) (hq : q < 16) => sec_size hso (show q < T.length by omega))
          have hall := goAll_all (c := cutAt H) hso hwo (cutAt_le H)
          have HFN : Hid (Fine (goAll T V (cutAt H)) [] (-1) 0) := ⟨chk_of (by rw [hall.2, hT16]; decide) (by rw [hall.2, hT16]; decide) (by decide) hall.1 (by simp) (by simp), by rw [hall.2]; exact hT16, by simp⟩
          have HNs := Lib.hid (fun (q : Nat) (hq : q < 16) => sec_size hall.1 (show q < (goAll T V (cutAt H)).length by rw [hall.2]; omega))
          have HCr := Lib.hid (fun W' hb => crash_yes A p c B m d (-1) T V av H.length capv H W' (HK.out.run.dev.below hb) (HRV.out.below hb) HK.out.run.fine.ok)
          clear hso hwo hall hT16
          obtain ⟨x0, x1, x2, y0, y1, y2⟩ := HK.out.run.st.box
          go_wp2_with fail
          refine (HCr.out wr (Below.refl _ _)).mono ?_
          rintro r w5 ⟨A5, n5, k5, B5, m5, l5, rfl, hD5, hb5⟩
          generalize goAll T V (cutAt H) = Z at *
          have hN5 := NewD.fresh hb5 hD5 33
          have HN5 := Lib.hid hN5
          have HK5 := Lib.hid (HK.out.call hN5.bel)
          clear hN5 hb5 hD5 x0 x1 x2 y0 y1 y2 HK HRV HCr
          go_wp2_with fail
          generalize w5.alloc (.cells #[.slice A5 n5 k5, .slice B5 m5 l5, .int .i64 (-1)] 33) = we at *
          generalize w5.heap.size = b19 at *
          go_loopw [20, 21] (fun n i wr => ∃ q : Nat, (q : Int) ≤ 16 ∧ i = .int .i64 q ∧ n = .int .i64 (64 * (q : Int)) ∧ Hid (Below we.heap.size we wr)) (fun _ i _ => (16 - intOf i).toNat)
          case atStart => exact ⟨0, by omega, rfl, rfl, Below.refl _ _⟩
          case round =>
            obtain ⟨q, hq, rfl, rfl, HBw⟩ := hrel
            obtain ⟨wo, rfl⟩ : ∃ wo : World, wo = wr := ⟨_, rfl⟩
            by_cases hlt2 : (q : Int) < 16
            · have hq16 : q < 16 := by omega
              have R1 : Hid (∀ W', Below we.heap.size we W' → Calls Try.prog 21 #[DV A4 n4 k4 B4 m4 l4 (-1), .int .i64 q] W' fun e w' => e = .returned (.tuple #[.string (secAt T q), .int .i64 0]) ∧ Below W'.heap.size W' w') := fun W' hb => by
                have h1 := read_any A4 n4 k4 B4 m4 l4 (-1) T [] q W' (HK5.out.dev0.below hb)
                obtain ⟨e1, e2⟩ := HFT.out.rd q hq16
                rwa [e1, e2] at h1
              have R2 : Hid (∀ W', Below we.heap.size we W' → Calls Try.prog 21 #[DV A5 n5 k5 B5 m5 l5 (-1), .int .i64 q] W' fun e w' => e = .returned (.tuple #[.string (secAt Z q), .int .i64 0]) ∧ Below W'.heap.size W' w') := fun W' hb => by
                have h1 := read_any A5 n5 k5 B5 m5 l5 (-1) Z [] q W' (HN5.out.dev.below hb)
                obtain ⟨e1, e2⟩ := HFN.out.rd q hq16
                rwa [e1, e2] at h1
              have R3 : Hid (∀ W', Below we.heap.size we W' → Calls Try.prog 21 #[DV A p c B m d (-1), .int .i64 q] W' fun e w' => e = .returned (.tuple #[.string (lastW V q (secAt T q)), .int .i64 0]) ∧ Below W'.heap.size W' w') := fun W' hb => by
                have h1 := read_any A p c B m d (-1) T V q W' (HK5.out.run.dev.below hb)
                obtain ⟨e1, e2⟩ := HK5.out.run.fine.rd q hq16
                rwa [e1, e2] at h1
              have HTq := Lib.hid (HTorn.out q hq16)
              have HL1 := Lib.hid (HLs.out q hq16)
              have HL2 := Lib.hid (HSs.out q hq16)
              have HL3 := Lib.hid (HNs.out q hq16)
              have hOl : q < O.length := by rw [HK5.out.len]; exact hq16
              have hc13 : ∀ W', Below we.heap.size we W' → W'.cell? ⟨b13, q, none⟩ = some (.bool O[q]) := fun W' hb => by
                have := (HK5.out.arr.call hb).cell (i := q) (by rw [OV_length]; exact hOl)
                rw [this]; simp [OV]
              have HC13 := Lib.hid hc13
              have HOnce : Hid (O[q] = false → ∀ x ∈ V, x.1 ≠ (q : Int)) := fun h x hx e => by
                have h1 := HK5.out.seen x hx
                rw [e, Int.toNat_natCast] at h1
                simp [List.getD, hOl, h] at h1
              clear hc13
              generalize O[q] = oq at *
              generalize lastW V q (secAt T q) = sc at *
              generalize secAt Z q = sb at *
              generalize secAt T q = sa at *
              have hs1 : ((sa.size : Int) != 64) = false := by have := HL2.out; simp; omega
              have hs2 : ((sb.size : Int) != 64) = false := by have := HL3.out; simp; omega
              have hs3 : ((sc.size : Int) != 64) = false := by have := HL1.out; simp; omega
              obtain ⟨x0, x1, x2, y0, y1, y2⟩ := (HK5.out.st0.call HBw.out).box
              go_wp2_with fail
              refine (R1.out _ HBw.out).mono ?_
              rintro r w21 ⟨rfl, hb⟩
              have HB1 := Lib.hid (HBw.out.call hb)
              clear hb x0 x1 x2 y0 y1 y2
              obtain ⟨x0, x1, x2, y0, y1, y2⟩ := (HN5.out.st.call HB1.out).box
              go_wp2_with fail
              refine (R2.out _ HB1.out).mono ?_
              rintro r w22 ⟨rfl, hb⟩
              have HB2 := Lib.hid (HB1.out.call hb)
              clear hb x0 x1 x2 y0 y1 y2
              obtain ⟨x0, x1, x2, y0, y1, y2⟩ := (HK5.out.run.st.call HB2.out).box
              go_wp2_with fail
              refine (R3.out _ HB2.out).mono ?_
              rintro r w23 ⟨rfl, hb⟩
              have HB3 := Lib.hid (HB2.out.call hb)
              clear hb x0 x1 x2 y0 y1 y2 R1 R2 R3
              go_wp2_with fail
              go_loopw [28] (fun i wx => ∃ j : Nat, (j : Int) ≤ 64 ∧ i = .int .i64 j ∧ Hid (Below we.heap.size we wx)) (fun i _ => (64 - intOf i).toNat)
              case atStart => exact ⟨0, by omega, rfl, HB3.out⟩
              case round =>
                obtain ⟨j, hj, rfl, HB4⟩ := hrel
                clear hs1 hs2 hs3
                have hz1 : (sb.size : Int) = 64 := by have := HL3.out; omega
                by_cases hj64 : (j : Int) < 64
                · have hjb : j < sb.size := by have := HL3.out; omega
                  have hjc : j < sc.size := by have := HL1.out; omega
                  have k1 : (j : Int) < (sb.size : Int) := by omega
                  have k2 : (j : Int) < (sc.size : Int) := by omega
                  clear hz1
                  by_cases hbe : sb[j] = sc[j]
                  · have hbe2 : ((sb[j].toNat : Int) == (sc[j].toNat : Int)) = true := by rw [hbe]; simp
                    have HBE := Lib.hid hbe
                    clear hbe
                    go_wp2_with fail
                    go_quiet (fail)
                    go_wp2
                    go_roundw
                    case rel => exact ⟨j + 1, by omega, by go_num, below_n HB4.out _⟩
                    case measure => simp [intOf]; omega
                  · have hbe2 : ((sb[j].toNat : Int) == (sc[j].toNat : Int)) = false := by
                      rw [Bool.eq_false_iff]
                      intro e
                      have e2 := eq_of_beq e
                      exact hbe (UInt8.toNat_inj.1 (by exact_mod_cast e2))
                    have Hm : Hid (∀ mm, Torn sa sb sc mm → mm ≤ j) := fun mm ht => by
                      by_cases h : mm ≤ j
                      · exact h
                      · exact absurd (torn_lo ht (by omega) hjb hjc) hbe
                    clear hbe
                    go_wp2_with fail
                    go_quiet (fail)
                    go_wp2_with fail
                    have hex : sb.extract j sb.size = sa.extract j sa.size := by
                      obtain ⟨⟨mm, ht⟩, _⟩ := HTq.out
                      exact torn_hi ht (Hm.out mm ht) HL2.out HL3.out HL1.out
                    have hq1 : ((sb.extract j sb.size).toList == (sa.extract j sa.size).toList) = true := by rw [hex]; simp
                    have g1 : (j : Int) ≤ (sb.size : Int) := by have := HL3.out; omega
                    have g2 : (j : Int) ≤ (sa.size : Int) := by have := HL2.out; omega
                    have g3 : (sb.size : Int) ≤ 64 := by have := HL3.out; omega
                    have g4 : 64 ≤ (sb.size : Int) := by have := HL3.out; omega
                    have gq : (q : Int) < 16 := hlt2
                    have hcc := HC13.out _ HB4.out
                    have HE64 := Lib.hid (show (sb.size : Int) = 64 by omega)
                    clear hex Hm
                    cases oq with
                    | true =>
                      go_wp2_with fail
                      go_quiet (fail)
                      go_wp2
                      go_roundw
                      case rel => exact ⟨q + 1, by omega, by go_num, by rw [HE64.out]; congr 1 <;> omega, below_n HB4.out _⟩
                      case measure => simp [intOf]; omega
                    | false =>
                      have e := HTq.out.2 (HOnce.out rfl)
                      have hq2 : (sa.toList == sb.toList) = true := by rw [e]; simp
                      clear e
                      go_wp2_with fail
                      go_quiet (fail)
                      go_wp2
                      go_roundw
                      case rel => exact ⟨q + 1, by omega, by go_num, by rw [HE64.out]; congr 1 <;> omega, below_n HB4.out _⟩
                      case measure => simp [intOf]; omega
                · have hjd : decide (j < sb.size) = false := by simp; omega
                  have Hm : Hid (∀ mm, Torn sa sb sc mm → mm ≤ j) := fun mm ht => by have := ht.1; omega
                  clear hz1
                  go_wp2_with fail
                  go_quiet (fail)
                  go_wp2_with fail
                  have hex : sb.extract j sb.size = sa.extract j sa.size := by
                    obtain ⟨⟨mm, ht⟩, _⟩ := HTq.out
                    exact torn_hi ht (Hm.out mm ht) HL2.out HL3.out HL1.out
                  have hq1 : ((sb.extract j sb.size).toList == (sa.extract j sa.size).toList) = true := by rw [hex]; simp
                  have g1 : (j : Int) ≤ (sb.size : Int) := by have := HL3.out; omega
                  have g2 : (j : Int) ≤ (sa.size : Int) := by have := HL2.out; omega
                  have g3 : (sb.size : Int) ≤ 64 := by have := HL3.out; omega
                  have g4 : 64 ≤ (sb.size : Int) := by have := HL3.out; omega
                  have gq : (q : Int) < 16 := hlt2
                  have hcc := HC13.out _ HB4.out
                  have HE64 := Lib.hid (show (sb.size : Int) = 64 by omega)
                  clear hex Hm
                  cases oq with
                  | true =>
                    go_wp2_with fail
                    go_quiet (fail)
                    go_wp2
                    go_roundw
                    case rel => exact ⟨q + 1, by omega, by go_num, by rw [HE64.out]; congr 1 <;> omega, below_n HB4.out _⟩
                    case measure => simp [intOf]; omega
                  | false =>
                    have e := HTq.out.2 (HOnce.out rfl)
                    have hq2 : (sa.toList == sb.toList) = true := by rw [e]; simp
                    clear e
                    go_wp2_with fail
                    go_quiet (fail)
                    go_wp2
                    go_roundw
                    case rel => exact ⟨q + 1, by omega, by go_num, by rw [HE64.out]; congr 1 <;> omega, below_n HB4.out _⟩
                    case measure => simp [intOf]; omega
            · obtain rfl : q = 16 := by omega
              have RC : Hid (∀ W', Below we.heap.size we W' → Calls Try.prog 25 #[DV A5 n5 k5 B5 m5 l5 (-1)] W' fun e w' => e = .returned (.int .i64 0) ∧ Below W'.heap.size W' w') := fun W' hb => by
                have h1 := check_any A5 n5 k5 B5 m5 l5 (-1) Z [] W' (HN5.out.dev.below hb)
                rwa [HFN.out.ok] at h1
              obtain ⟨x0, x1, x2, y0, y1, y2⟩ := (HN5.out.st.call HBw.out).box
              go_wp2_with fail
              refine (RC.out _ HBw.out).mono ?_
              rintro r w21 ⟨rfl, hb⟩
              have HB1 := Lib.hid (HBw.out.call hb)
              clear hb x0 x1 x2 y0 y1 y2
              go_wp2_with fail
              refine (awake_any _).mono ?_
              rintro r w22 ⟨rfl, hb⟩
              have HB2 := Lib.hid (HB1.out.call hb)
              clear hb
              go_wp2
              go_ret
              exact ⟨rfl, HK5.out.run.bel.call HB2.out⟩

end Go.Proofs.Ytgjhiekcdcicgaa
