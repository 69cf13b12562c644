/- The walk of DiskFuse. -/
import Derived.Test.YtgjhiekcdcicgaaActs
namespace Go.Proofs.Ytgjhiekcdcicgaa
open Go.RowKit

theorem eq_false {a b : Int} (h : ¬ a = b) : (a == b) = false := by simpa using h

/-- The fuse behind k acts. -/
def fuseAt (n k : Nat) : Int := if k < n then (n : Int) - k else 0
theorem fuse_burnt (n k : Nat) (h : k < n) : burnt (fuseAt n k) = fuseAt n (k + 1) ∧ fuseAt n (k + 1) = (n : Int) - k - 1 ∧ ¬ fuseAt n k = 0 := by
  unfold fuseAt burnt
  rw [if_pos h]
  rw [if_pos (by omega)]
  split <;> omega
theorem fuse_gone (n k : Nat) (h : ¬ k < n) : fuseAt n k = 0 ∧ fuseAt n (k + 1) = 0 := by
  unfold fuseAt
  rw [if_neg h, if_neg (by omega)]
  exact ⟨rfl, rfl⟩

set_option maxRecDepth 100000 in
set_option maxHeartbeats 4000000 in
theorem walk_fuse (a : Option Addr) (len cap : Nat) (acts : List Act) (n : Nat) (w : World) (hR : RV w a len 3 (TV acts)) (ha : ∀ x ∈ acts, x.a ≤ 255) (hn : n ≤ 255) :
    Calls Try.prog 7 #[.slice a len cap, .int .u8 n] w fun e w' => e = .returned (.bool true) ∧ Below w.heap.size w w' := by
  by_cases hg : (60 : Int) < len
  · clear hR ha
    go_enter Try.func7, Try.ntmps7
    go_wp2_with (go_at_call 9; refine (awake_any _).mono ?_; rintro e w' ⟨rfl, hb⟩)
    go_ret
    exact ⟨rfl, hb⟩
  have HR := Lib.hid hR
  have HA := Lib.hid ha
  have HLn := Lib.hid hR.acts
  have hlen : (len : Int) ≤ 60 := by omega
  clear hR ha
  have HN := Lib.hid (fun w => new_yes 16 w (by omega) (by omega))
  go_enter Try.func7, Try.ntmps7
  go_wp2_with fail
  refine (HN.out _).mono ?_
  rintro r w1 ⟨A1, n1, k1, B1, m1, l1, rfl, hD1, hb1⟩
  go_wp2_with fail
  have hN1 := NewD.fresh hb1 hD1 33
  have HD1 := Lib.hid (hD1.new (.cells #[.slice A1 n1 k1, .slice B1 m1 l1, .int .i64 (-1)] 33))
  clear hD1 hb1
  refine (arm_in A1 n1 k1 B1 m1 l1 (-1) (newS 16) [] n _ HD1.out (by decide +kernel) (by omega) (by omega)).mono ?_
  rintro r w2 ⟨A2, n2, k2, B2, m2, l2, rfl, hD2, hb2⟩
  have hS2 := hN1.st.call hb2
  have HRun : Hid (Run w (set3 w2 w1.heap.size (.slice A2 n2 k2) (.slice B2 m2 l2) (.int .i64 n)) w1.heap.size A2 n2 k2 B2 m2 l2 (fuseAt n 0) (newS 16) [] 0) := by
    have e : fuseAt n 0 = (n : Int) := by unfold fuseAt; split <;> omega
    rw [e]
    exact (Run.set ⟨hN1.bel.call hb2, hS2, hN1.dev.below hb2, fine_new, hN1.new⟩ hD2 (fine_new.fuse _ (by omega)))
  obtain ⟨z0, z1, z2, v0, v1, v2⟩ := hS2.box
  clear hN1 HD1 hS2 hD2 hb2
  go_wp2_with fail
  clear z0 z1 z2 v0 v1 v2
  unfold set3 at HRun
  generalize ((w2.setCell ⟨w1.heap.size, 0, none⟩ (Value.slice A2 n2 k2)).setCell ⟨w1.heap.size, 1, none⟩ (.slice B2 m2 l2)).setCell ⟨w1.heap.size, 2, none⟩ (.int .i64 n) = w3 at *
  generalize w1.heap.size = b5 at *
  go_loopw [7] (fun i wr => ∃ (k : Nat) (A : Option Addr) (p c : Nat) (B : Option Addr) (m d : Nat) (f : Int) (S : List ByteArray) (W : List Wr), k ≤ len ∧ i = .int .i64 k ∧ Hid (f = fuseAt n k) ∧ Hid (Run w wr b5 A p c B m d f S W k)) (fun i _ => len - (intOf i).toNat)
  case atStart => exact ⟨0, _, _, _, _, _, _, _, _, _, Nat.zero_le _, rfl, rfl, HRun.out⟩
  case round =>
    obtain ⟨k, A, p, c, B, m, d, f, S, W, hk, rfl, HFu, HR2⟩ := hrel
    clear HRun
    by_cases hlt : k < len
    · have hl : k < acts.length := by have := HLn.out; omega
      obtain ⟨ba, off, rfl, hla, t0, t1, t2⟩ := (HR.out.below HR2.out.bel).actAt hlt hl
      have hax := HA.out _ (List.getElem_mem hl)
      obtain ⟨x, HX⟩ : ∃ x, x = acts[k] := ⟨_, rfl⟩
      rw [← HX] at t0 t1 t2 hax
      clear HX hl
      by_cases hkn : k < n
      · obtain ⟨e1, e2, e3⟩ := fuse_burnt n k hkn
        have HC : Hid (∀ W', Below wr.heap.size wr W' → Calls Try.prog 28 #[DV A p c B m d f, AV x.a x.b.toNat x.fl] W' (RetDE W' (dS S W x) (dW W x) ((n : Int) - k - 1) 0)) := fun W' hb => by
          have := done_ok HR2.out.fine (by omega) (by rw [HFu.out]; exact e3) x hax (HR2.out.dev.below hb)
          rwa [HFu.out, e1, e2, ← HFu.out] at this
        have HFN : Hid (Fine (dS S W x) (dW W x) ((n : Int) - k - 1) (k + 1)) := by
          have := HR2.out.fine.act (by omega) x
          rwa [HFu.out, e1, e2] at this
        have HFE : Hid ((n : Int) - k - 1 = fuseAt n (k + 1)) := e2.symm
        clear e1 e2 e3 HFu
        generalize dS S W x = S' at *
        generalize dW W x = W' at *
        generalize x.a = xa at *
        generalize x.b.toNat = xb at *
        generalize x.fl = xf at *
        have hi : (k : Int) < n := by omega
        generalize hfz : (n : Int) - k - 1 = z at *
        have HZ := Lib.hid hfz
        clear hfz
        go_upto_region 10 with fail
        go_cut [8, 9] (fun s8 s9 wx => ∃ b A n c A' m c', s8 = .pointer (some ⟨b, 0, none⟩) ∧ s9 = .int .i64 0 ∧ Hid (NewD wr wx b A n c A' m c' z S' W'))
        case first =>
          obtain ⟨x0, x1, x2, y0, y1, y2⟩ := HR2.out.st.box
          have hl1 := HR2.out.st.lt
          have ne1 : ¬ wr.heap.size = b5 := by omega
          have ne2 : ¬ wr.heap.size = ba := by omega
          go_region_held3 (fun W => W.cell? ⟨b5, 0, none⟩ = some (.slice A p c) ∧ W.cell? ⟨b5, 1, none⟩ = some (.slice B m d) ∧ W.cell? ⟨b5, 2, none⟩ = some (.int .i64 f) ∧ W.cell? ⟨ba, off + k * 3, none⟩ = some (.int .u8 xa) ∧ W.cell? ⟨ba, off + k * 3 + 1, none⟩ = some (.int .u8 xb) ∧ W.cell? ⟨ba, off + k * 3 + 2, none⟩ = some (.bool xf)) (go_keep)
            (first
              | (go_at_call 28; ((with_reducible refine (HC.out _ (by repeat (first | exact Below.refl _ _ | refine Below.push ?_ _ | refine Below.drew ?_))).mono ?_)); rintro r w4 ⟨A9, n9, k9, B9, m9, l9, rfl, hD4, hb4⟩; obtain ⟨hc, hf⟩ := bcell hb4; have hlt4 := blt hb4; have hbw : Below wr.heap.size wr w4 := (Below.call (by repeat (first | exact Below.refl _ _ | refine Below.push ?_ _ | refine Below.drew ?_)) hb4); have q0 : w4.cell? ⟨b5, 0, none⟩ = some (.slice A p c) := (by rw [hbw.cell (p := ⟨b5, 0, none⟩) hl1]; exact x0); have q1 : w4.cell? ⟨b5, 1, none⟩ = some (.slice B m d) := (by rw [hbw.cell (p := ⟨b5, 1, none⟩) hl1]; exact x1); have q2 : w4.cell? ⟨b5, 2, none⟩ = some (.int .i64 f) := (by rw [hbw.cell (p := ⟨b5, 2, none⟩) hl1]; exact x2); have q3 : w4.cell? ⟨ba, off + k * 3, none⟩ = some (.int .u8 xa) := (by rw [hbw.cell (p := ⟨ba, off + k * 3, none⟩) hla]; exact t0); have q4 : w4.cell? ⟨ba, off + k * 3 + 1, none⟩ = some (.int .u8 xb) := (by rw [hbw.cell (p := ⟨ba, off + k * 3 + 1, none⟩) hla]; exact t1); have q5 : w4.cell? ⟨ba, off + k * 3 + 2, none⟩ = some (.bool xf) := (by rw [hbw.cell (p := ⟨ba, off + k * 3 + 2, none⟩) hla]; exact t2); have ne4 : ¬ w4.heap.size = b5 := (by have := hbw.size; omega); have ne5 : ¬ w4.heap.size = ba := (by have := hbw.size; omega); have HD4 := Lib.hid hD4; clear hD4))
          · go_wp2_with fail
            go_meet
            exact ⟨_, _, _, _, _, _, _, rfl, rfl, NewD.fresh hbw HD4.out 33⟩
          · go_wp2_with fail
            go_meet
            exact ⟨_, _, _, _, _, _, _, rfl, rfl, NewD.put hbw HD4.out ((St.new wr none 0 0 none 0 0 0 33).call (undrew hb4)) (Nat.le_refl _)⟩
        case rest =>
          obtain ⟨b8, A8, n8, k8, B8, m8, l8, rfl, rfl, HN8⟩ := hcut
          have HR3 := Lib.hid (HR2.out.call HN8.out.bel)
          have hzz : z = (n : Int) - k - 1 := HZ.out.symm
          have hqz : ((z : Int) != (n : Int) - k - 1) = false := by simpa using hzz
          have hgz : decide ((n : Int) ≤ k) = false := by simp; omega
          clear hzz
          obtain ⟨x0, x1, x2, y0, y1, y2⟩ := HN8.out.st.box
          obtain ⟨z0, z1, z2, v0, v1, v2⟩ := HR3.out.st.box
          have HR4 := Lib.hid (HR3.out.set HN8.out.dev HFN.out)
          clear t0 t1 t2
          go_wp2
          go_roundw
          case rel => exact ⟨k + 1, _, _, _, _, _, _, _, _, _, by omega, by go_num, HFE.out, HR4.out⟩
          case measure => simp [intOf]; omega
      · obtain ⟨e1, e2⟩ := fuse_gone n k hkn
        obtain rfl : f = 0 := HFu.out.trans e1
        have HC : Hid (∀ W', Below wr.heap.size wr W' → Calls Try.prog 28 #[DV A p c B m d 0, AV x.a x.b.toNat x.fl] W' (RetDE W' S W 0 21)) := fun W' hb => done_down HR2.out.fine (by omega) x hax (HR2.out.dev.below hb)
        have HFE := Lib.hid e2.symm
        clear e1 e2 HFu
        generalize x.a = xa at *
        generalize x.b.toNat = xb at *
        generalize x.fl = xf at *
        go_upto_region 10 with fail
        go_cut [8, 9] (fun s8 s9 wx => ∃ b A n c A' m c', s8 = .pointer (some ⟨b, 0, none⟩) ∧ s9 = .int .i64 21 ∧ Hid (NewD wr wx b A n c A' m c' 0 S W))
        case first =>
          obtain ⟨x0, x1, x2, y0, y1, y2⟩ := HR2.out.st.box
          have hl1 := HR2.out.st.lt
          have ne1 : ¬ wr.heap.size = b5 := by omega
          have ne2 : ¬ wr.heap.size = ba := by omega
          go_region_held3 (fun W => W.cell? ⟨b5, 0, none⟩ = some (.slice A p c) ∧ W.cell? ⟨b5, 1, none⟩ = some (.slice B m d) ∧ W.cell? ⟨b5, 2, none⟩ = some (.int .i64 0) ∧ W.cell? ⟨ba, off + k * 3, none⟩ = some (.int .u8 xa) ∧ W.cell? ⟨ba, off + k * 3 + 1, none⟩ = some (.int .u8 xb) ∧ W.cell? ⟨ba, off + k * 3 + 2, none⟩ = some (.bool xf)) (go_keep)
            (first
              | (go_at_call 28; ((with_reducible refine (HC.out _ (by repeat (first | exact Below.refl _ _ | refine Below.push ?_ _ | refine Below.drew ?_))).mono ?_)); rintro r w4 ⟨A9, n9, k9, B9, m9, l9, rfl, hD4, hb4⟩; obtain ⟨hc, hf⟩ := bcell hb4; have hlt4 := blt hb4; have hbw : Below wr.heap.size wr w4 := (Below.call (by repeat (first | exact Below.refl _ _ | refine Below.push ?_ _ | refine Below.drew ?_)) hb4); have q0 : w4.cell? ⟨b5, 0, none⟩ = some (.slice A p c) := (by rw [hbw.cell (p := ⟨b5, 0, none⟩) hl1]; exact x0); have q1 : w4.cell? ⟨b5, 1, none⟩ = some (.slice B m d) := (by rw [hbw.cell (p := ⟨b5, 1, none⟩) hl1]; exact x1); have q2 : w4.cell? ⟨b5, 2, none⟩ = some (.int .i64 0) := (by rw [hbw.cell (p := ⟨b5, 2, none⟩) hl1]; exact x2); have q3 : w4.cell? ⟨ba, off + k * 3, none⟩ = some (.int .u8 xa) := (by rw [hbw.cell (p := ⟨ba, off + k * 3, none⟩) hla]; exact t0); have q4 : w4.cell? ⟨ba, off + k * 3 + 1, none⟩ = some (.int .u8 xb) := (by rw [hbw.cell (p := ⟨ba, off + k * 3 + 1, none⟩) hla]; exact t1); have q5 : w4.cell? ⟨ba, off + k * 3 + 2, none⟩ = some (.bool xf) := (by rw [hbw.cell (p := ⟨ba, off + k * 3 + 2, none⟩) hla]; exact t2); have ne4 : ¬ w4.heap.size = b5 := (by have := hbw.size; omega); have ne5 : ¬ w4.heap.size = ba := (by have := hbw.size; omega); have HD4 := Lib.hid hD4; clear hD4))
          · go_wp2_with fail
            go_meet
            exact ⟨_, _, _, _, _, _, _, rfl, rfl, NewD.fresh hbw HD4.out 33⟩
          · go_wp2_with fail
            go_meet
            exact ⟨_, _, _, _, _, _, _, rfl, rfl, NewD.put hbw HD4.out ((St.new wr none 0 0 none 0 0 0 33).call (undrew hb4)) (Nat.le_refl _)⟩
        case rest =>
          obtain ⟨b8, A8, n8, k8, B8, m8, l8, rfl, rfl, HN8⟩ := hcut
          have HR3 := Lib.hid (HR2.out.call HN8.out.bel)
          have hd1 : decide ((k : Int) < n) = false := by simp; omega
          have hd2 : (n : Int) ≤ k := by omega
          have HSa := Lib.hid (same_any A8 n8 k8 B8 m8 l8 0 S W A p c B m d 0 S W wc HN8.out.dev HR3.out.dev)
          rw [show sameD S W 0 S W 0 = true by simp [sameD]] at HSa
          obtain ⟨x0, x1, x2, y0, y1, y2⟩ := HN8.out.st.box
          obtain ⟨z0, z1, z2, v0, v1, v2⟩ := HR3.out.st.box
          clear t0 t1 t2
          go_wp2_with fail
          refine HSa.out.mono ?_
          rintro r w5 ⟨rfl, hb5⟩
          have HN9 := Lib.hid (HN8.out.dev.below hb5)
          have HS9 := Lib.hid (HN8.out.st.call hb5)
          have HR5 := Lib.hid (HR3.out.call hb5)
          have HR4 := Lib.hid (HR5.out.set HN9.out (HR5.out.fine.more (show k ≤ k + 1 by omega)))
          clear x0 x1 x2 y0 y1 y2 z0 z1 z2 v0 v1 v2 hb5
          obtain ⟨x0, x1, x2, y0, y1, y2⟩ := HS9.out.box
          obtain ⟨z0, z1, z2, v0, v1, v2⟩ := HR5.out.st.box
          go_wp2
          go_roundw
          case rel => exact ⟨k + 1, _, _, _, _, _, _, _, _, _, by omega, by go_num, HFE.out, HR4.out⟩
          case measure => simp [intOf]; omega
    · have HB := Lib.hid HR2.out.bel
      clear HR2 HFu
      go_wp2_with (go_at_call 9; refine (awake_any _).mono ?_; rintro e w' ⟨rfl, hb⟩)
      go_ret
      exact ⟨rfl, HB.out.call hb⟩

end Go.Proofs.Ytgjhiekcdcicgaa
