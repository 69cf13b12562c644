import Derived.Test.YtkglolnghihegaaGreatDoorSltA
import Derived.Test.YtkglolnghihegaaGreatDoorSltP
import Derived.Test.YtkglolnghihegaaGreatDoorSheafRJoin

/- Contract of the document's Load of package slots. -/
namespace Go.Proofs.YtkglolnghihegaaGreatDoor.Slt
open Go.RowKit Go.Proofs.YtkglolnghihegaaGreatDoor.Dsk Go.Proofs.YtkglolnghihegaaGreatDoor.Sht Go.Proofs.YtkglolnghihegaaGreatDoor.Shf

set_option maxHeartbeats 1000000 in
theorem rload_no (A : Option Addr) (n c : Nat) (A' : Option Addr) (m c' : Nat) (f : Int) (S : List ByteArray) (V : List Wr) (z : Int) (w : World) (hD : Dev w A n c A' m c' f S V) (h : mayL S V f z = false) :
    Calls Tryz.prog 72 #[DV A n c A' m c' f, .int .i64 z] w (RetN w 0 ⟨#[]⟩ 2) := by
  have HC := Lib.hid (rcheck_any A n c A' m c' f S V _ ((hD.new (D25 A n c A' m c' f)).new (.cells #[.int .i64 0, .string ⟨#[]⟩] 87)))
  unfold mayL at h
  by_cases hc : chk S V f = 0
  · have hz : isS z = false := by simpa [hc] using h
    have hz0 : ¬ z = 0 := by intro e; subst e; simp [isS] at hz
    have hz1 : ¬ z = 1 := by intro e; subst e; simp [isS] at hz
    have hzb0 : (z == 0) = false := by simpa using hz0
    have hzb1 : (z == 1) = false := by simpa using hz1
    have hzn0 : (z != 0) = true := by simpa using hz0
    have hzn1 : (z != 1) = true := by simpa using hz1
    rw [hc] at HC
    clear hD h hc hz
    go_enter Tryz.func72, Tryz.ntmps72
    go_wp2_with (go_at_call 37; (with_reducible refine HC.out.mono ?_); rintro e w1 ⟨rfl, hb1⟩; have HB1 := Lib.hid (((new1 w (D25 A n c A' m c' f)).push _).call hb1); have X1 := (by have := (Bx2.new (w.alloc (D25 A n c A' m c' f)) (.int .i64 0) (.string ⟨#[]⟩) 87).call hb1; rwa [World.size_alloc] at this : Bx2 w1 (w.heap.size + 1) (.int .i64 0) (.string ⟨#[]⟩)); have HX := Lib.hid X1; obtain ⟨r0, r1, g0, g1⟩ := X1; obtain ⟨c0, c1_, c2, -, -, -⟩ := ((Box.new w (.slice A n c) (.slice A' m c') (.int .i64 f) 25).call (new1 _ (.cells #[.int .i64 0, .string ⟨#[]⟩] 87))).call hb1; clear hb1)
    have hr4 := HX.out.set2 (.int .i64 0) (.string ⟨#[]⟩)
    have hb4 := set2_below HB1.out (show w.heap.size ≤ w.heap.size + 1 by omega) (.int .i64 0) (.string ⟨#[]⟩)
    generalize ((w1.setCell ⟨w.heap.size + 1, 0, none⟩ (.int .i64 0)).setCell ⟨w.heap.size + 1, 1, none⟩ (.string ⟨#[]⟩)) = wf at *
    obtain ⟨k0, k1, -, -⟩ := hr4
    refine bodyPost_ret (v := .tuple #[SNV 0 ⟨#[]⟩, .int .i64 2]) (by simp [results, Tryz.results72, go_sem, k0, k1]) rfl ?_
    exact ⟨rfl, hb4⟩
  · have hne := neq0 hc
    generalize chk S V f = e0 at *
    clear hD h hc
    go_enter Tryz.func72, Tryz.ntmps72
    go_wp2_with (go_at_call 37; (with_reducible refine HC.out.mono ?_); rintro e w1 ⟨rfl, hb1⟩; have HB1 := Lib.hid (((new1 w (D25 A n c A' m c' f)).push _).call hb1); have X1 := (by have := (Bx2.new (w.alloc (D25 A n c A' m c' f)) (.int .i64 0) (.string ⟨#[]⟩) 87).call hb1; rwa [World.size_alloc] at this : Bx2 w1 (w.heap.size + 1) (.int .i64 0) (.string ⟨#[]⟩)); have HX := Lib.hid X1; obtain ⟨r0, r1, g0, g1⟩ := X1; obtain ⟨c0, c1_, c2, -, -, -⟩ := ((Box.new w (.slice A n c) (.slice A' m c') (.int .i64 f) 25).call (new1 _ (.cells #[.int .i64 0, .string ⟨#[]⟩] 87))).call hb1; clear hb1)
    have hr4 := HX.out.set2 (.int .i64 0) (.string ⟨#[]⟩)
    have hb4 := set2_below HB1.out (show w.heap.size ≤ w.heap.size + 1 by omega) (.int .i64 0) (.string ⟨#[]⟩)
    generalize ((w1.setCell ⟨w.heap.size + 1, 0, none⟩ (.int .i64 0)).setCell ⟨w.heap.size + 1, 1, none⟩ (.string ⟨#[]⟩)) = wf at *
    obtain ⟨k0, k1, -, -⟩ := hr4
    refine bodyPost_ret (v := .tuple #[SNV 0 ⟨#[]⟩, .int .i64 2]) (by simp [results, Tryz.results72, go_sem, k0, k1]) rfl ?_
    exact ⟨rfl, hb4⟩

section
variable (A : Option Addr) (n c : Nat) (A' : Option Addr) (m c' : Nat) (f : Int) (S : List ByteArray) (V : List Wr) (z : Int) (w : World) (hD : Dev w A n c A' m c' f S V) (h : mayL S V f z = true)
include hD h

set_option maxHeartbeats 1000000 in
theorem rload_none (hB : slotB S V f z = []) : Calls Tryz.prog 72 #[DV A n c A' m c' f, .int .i64 z] w (RetN w 0 ⟨#[]⟩ 6) := by
  have HC := Lib.hid (rcheck_any A n c A' m c' f S V _ ((hD.new (D25 A n c A' m c' f)).new (.cells #[.int .i64 0, .string ⟨#[]⟩] 87)))
  have hmay := h
  unfold mayL at hmay
  obtain ⟨hc, hz⟩ : chk S V f = 0 ∧ isS z = true := by simpa using hmay
  have hz := isS_yes hz
  rw [hc] at HC
  have HZ := Lib.hid (fun W => rsize_any n W)
  have hn := hD.sec.sec
  have HD := Lib.hid (fun W p q (hb : Below w.heap.size w W) (hp : p = z * sizR n) (hq : q = (z + 1) * sizR n) => (by
    subst hp hq
    have := rdrain_any A n c A' m c' f S V (z * sizR n) ((z + 1) * sizR n) W (hD.below hb)
    rw [← hn] at this ⊢
    rwa [show drainD S V f (z * sizR S.length) ((z + 1) * sizR S.length) = ([] : List ByteArray) from hB] at this : Calls Tryz.prog 75 #[DV A n c A' m c' f, .int .i64 p, .int .i64 q] W (RetT W (([] : List ByteArray)))))
  have hy1 := sizR_nonneg n
  have hy2 := sizR_le n
  generalize sizR n = y at *
  obtain ⟨N, hN⟩ : ∃ N, N = 0 := ⟨_, rfl⟩
  have HN : Hid (([] : List ByteArray).length = N) := Lib.hid hN.symm
  clear hD h hc hmay hB hn
  rcases hz with rfl | rfl
  all_goals (
    go_enter Tryz.func72, Tryz.ntmps72
    go_wp2_with (first | (go_at_call 37; (with_reducible refine HC.out.mono ?_); rintro e w1 ⟨rfl, hb1⟩; have HB1 := Lib.hid (((new1 w (D25 A n c A' m c' f)).push _).call hb1); have X1 := (by have := (Bx2.new (w.alloc (D25 A n c A' m c' f)) (.int .i64 0) (.string ⟨#[]⟩) 87).call hb1; rwa [World.size_alloc] at this : Bx2 w1 (w.heap.size + 1) (.int .i64 0) (.string ⟨#[]⟩)); have HX := Lib.hid X1; obtain ⟨r0, r1, g0, g1⟩ := X1; obtain ⟨c0, c1_, c2, -, -, -⟩ := ((Box.new w (.slice A n c) (.slice A' m c') (.int .i64 f) 25).call (new1 _ (.cells #[.int .i64 0, .string ⟨#[]⟩] 87))).call hb1; clear hb1) | (go_at_call 73; (with_reducible refine (HZ.out _).mono ?_); rintro r w2 ⟨rfl, rfl⟩))
    with_reducible refine (HD.out _ _ _ HB1.out (by omega) (by omega)).mono ?_
    rintro r w2 ⟨B1, m1, cc1, rfl, hr1, b2⟩
    have HB2 := Lib.hid (HB1.out.call b2)
    have HX2 := Lib.hid (HX.out.call b2)
    obtain rfl : N = m1 := by rw [← HN.out]; exact hr1.sec
    have HR := Lib.hid hr1
    clear b2 hr1 HD HX HB1 HC HZ r0 r1 g0 g1 c0 c1_ c2
    obtain ⟨r0, r1, g0, g1⟩ := HX2.out
    have hlx := HX2.out.lt
    subst hN
    go_wp2_with fail
    have hr4 := HX2.out.set2 (.int .i64 0) (.string ⟨#[]⟩)
    have hb4 := set2_below HB2.out (show w.heap.size ≤ w.heap.size + 1 by omega) (.int .i64 0) (.string ⟨#[]⟩)
    generalize ((w2.setCell ⟨w.heap.size + 1, 0, none⟩ (.int .i64 0)).setCell ⟨w.heap.size + 1, 1, none⟩ (.string ⟨#[]⟩)) = wf at *
    obtain ⟨k0, k1, -, -⟩ := hr4
    refine bodyPost_ret (v := .tuple #[SNV 0 ⟨#[]⟩, .int .i64 6]) (by simp [results, Tryz.results72, go_sem, k0, k1]) rfl ?_
    exact ⟨rfl, hb4⟩)

set_option maxHeartbeats 4000000 in
theorem rload_some (s : ByteArray) (B : List ByteArray) (hB : slotB S V f z = s :: B) (G : Int) (T : ByteArray) (E : Int)
    (hG : loadG (s :: B) = G) (hTx : loadT' (s :: B) = T) (hE : loadE (s :: B) = E) :
    Calls Tryz.prog 72 #[DV A n c A' m c' f, .int .i64 z] w (RetN w G T E) := by
  have HC := Lib.hid (rcheck_any A n c A' m c' f S V _ ((hD.new (D25 A n c A' m c' f)).new (.cells #[.int .i64 0, .string ⟨#[]⟩] 87)))
  have hmay := h
  unfold mayL at hmay
  obtain ⟨hc, hz⟩ : chk S V f = 0 ∧ isS z = true := by simpa using hmay
  have hz := isS_yes hz
  rw [hc] at HC
  have HZ := Lib.hid (fun W => rsize_any n W)
  have hn := hD.sec.sec
  have HD := Lib.hid (fun W p q (hb : Below w.heap.size w W) (hp : p = z * sizR n) (hq : q = (z + 1) * sizR n) => (by
    subst hp hq
    have := rdrain_any A n c A' m c' f S V (z * sizR n) ((z + 1) * sizR n) W (hD.below hb)
    rw [← hn] at this ⊢
    rwa [show drainD S V f (z * sizR S.length) ((z + 1) * sizR S.length) = s :: B from hB] at this : Calls Tryz.prog 75 #[DV A n c A' m c' f, .int .i64 p, .int .i64 q] W (RetT W (s :: B))))
  have hy1 := sizR_nonneg n
  have hy2 := sizR_le n
  generalize sizR n = y at *
  have hlen : ((s :: B).length : Int) ≤ 1000 := by
    have h1 := drainL_len (part (secsD S V) (z * sizR S.length).toNat ((z + 1) * sizR S.length).toNat)
    have h2 : (part (secsD S V) (z * sizR S.length).toNat ((z + 1) * sizR S.length).toNat).length ≤ S.length := by
      unfold part; simp [secsD]; omega
    have h3 : slotB S V f z = drainD S V f (z * sizR S.length) ((z + 1) * sizR S.length) := rfl
    rw [hB] at h3
    unfold drainD at h3
    obtain ⟨⟨-, h4, -⟩, -⟩ := chk_ok hc
    split at h3
    · rw [← h3] at h1; omega
    · cases h3
  unfold loadG at hG
  unfold loadT' at hTx
  rw [hE] at hG hTx
  dsimp only at hG
  unfold loadE at hE
  obtain ⟨N, hN⟩ : ∃ N, (s :: B).length = N := ⟨_, rfl⟩
  rw [hN] at hlen
  have hN1 : 0 < N := by simp at hN; omega
  have hN0 : ((N : Int) == 0) = false := by simp; omega
  have HN := Lib.hid hN
  have HRd := Lib.hid (fun W => rread_any s W)
  unfold RetR partV at HRd
  have hget : ∀ w' A', RV w' A' N 1 (SV (s :: B)) → ∃ b off, A' = some ⟨b, off, none⟩ ∧ b < w'.heap.size ∧ w'.cell? ⟨b, off, none⟩ = some (.string s) := fun w' A' hr => by
    obtain ⟨b, off, h1, h2, h3⟩ := hr.secAt (k := 0) hN1 (by simp)
    exact ⟨b, off, h1, h2, h3⟩
  have HG := Lib.hid hget
  clear hD h hc hmay hB hN hget hn
  dsimp only at hE
  by_cases h1 : errR s = 0
  · rw [if_pos h1] at hE
    rw [if_pos h1, h1] at HRd
    have HJ := Lib.hid (fun W A' cc hr => rjoin_any 1 (gA s) 0 A' N cc (s :: B) W hr hlen)
    unfold RetJ at HJ
    generalize errJ 1 (gA s) 0 (s :: B) = ej at *
    generalize kA s = ks at *
    generalize gA s = gs at *
    generalize nA s = ns at *
    generalize aA s = ap at *
    generalize oA s = os at *
    generalize dA s = ds at *
    by_cases hks : ks = 1
    · subst hks
      by_cases hns : ns = 0
      · subst hns
        rw [if_pos ⟨rfl, rfl⟩] at hE
        rcases hz with rfl | rfl
        all_goals (
          go_enter Tryz.func72, Tryz.ntmps72
          go_wp2_with (first | (go_at_call 37; (with_reducible refine HC.out.mono ?_); rintro e w1 ⟨rfl, hb1⟩; have HB1 := Lib.hid (((new1 w (D25 A n c A' m c' f)).push _).call hb1); have X1 := (by have := (Bx2.new (w.alloc (D25 A n c A' m c' f)) (.int .i64 0) (.string ⟨#[]⟩) 87).call hb1; rwa [World.size_alloc] at this : Bx2 w1 (w.heap.size + 1) (.int .i64 0) (.string ⟨#[]⟩)); have HX := Lib.hid X1; obtain ⟨r0, r1, g0, g1⟩ := X1; obtain ⟨c0, c1_, c2, -, -, -⟩ := ((Box.new w (.slice A n c) (.slice A' m c') (.int .i64 f) 25).call (new1 _ (.cells #[.int .i64 0, .string ⟨#[]⟩] 87))).call hb1; clear hb1) | (go_at_call 73; (with_reducible refine (HZ.out _).mono ?_); rintro r w2 ⟨rfl, rfl⟩))
          with_reducible refine (HD.out _ _ _ HB1.out (by omega) (by omega)).mono ?_
          rintro r w2 ⟨B1, m1, cc1, rfl, hr1, b2⟩
          have HB2 := Lib.hid (HB1.out.call b2)
          have HX2 := Lib.hid (HX.out.call b2)
          obtain rfl : N = m1 := by rw [← HN.out]; exact hr1.sec
          have HR := Lib.hid hr1
          clear b2 hr1 HD HX HB1 HC HZ r0 r1 g0 g1 c0 c1_ c2
          obtain ⟨r0, r1, g0, g1⟩ := HX2.out
          have hlx := HX2.out.lt
          obtain ⟨b, off, rfl, hb, hcell⟩ := HG.out _ _ HR.out
          go_wp2_with fail
          with_reducible refine (HRd.out _).mono ?_
          rintro r w3 ⟨rfl, b3⟩
          have HB3 := Lib.hid ((HB2.out.call b3).push (.cells #[.int .u8 1, .int .i64 gs, .int .i64 0, .int .i64 ap, .int .i64 os, .string ds] 183))
          have HX3 := Lib.hid ((HX2.out.call b3).alloc (.cells #[.int .u8 1, .int .i64 gs, .int .i64 0, .int .i64 ap, .int .i64 os, .string ds] 183))
          have HR3 := Lib.hid ((HR.out.below b3).below (new1 _ (.cells #[.int .u8 1, .int .i64 gs, .int .i64 0, .int .i64 ap, .int .i64 os, .string ds] 183)))
          have HQ3 := Lib.hid (Box6.new w3 (.int .u8 1) (.int .i64 gs) (.int .i64 0) (.int .i64 ap) (.int .i64 os) (.string ds) 183)
          have hlq0 : w3.heap.size < (w3.alloc (.cells #[.int .u8 1, .int .i64 gs, .int .i64 0, .int .i64 ap, .int .i64 os, .string ds] 183)).heap.size := by simp
          clear b3 HB2 HX2 HR HRd r0 r1 g0 g1 hlx
          go_upto_if 51 with fail
          generalize hW4 : (w3.alloc (.cells #[.int .u8 1, .int .i64 gs, .int .i64 0, .int .i64 ap, .int .i64 os, .string ds] 183)) = W4 at *
          clear hW4
          have hlq := hlq0
          clear hlq0
          obtain ⟨q0, q1, q2, q3, q4, q5⟩ := HQ3.out
          obtain ⟨r0, r1, g0, g1⟩ := HX3.out
          have hlw := HX3.out.lt
          go_wp2_with fail
          refine (HJ.out _ _ cc1 HR3.out).mono ?_
          rintro r w6 ⟨rfl, hb6⟩
          have HB6 := Lib.hid (HB3.out.call hb6)
          have HX6 := Lib.hid (HX3.out.call hb6)
          clear q0 q1 q2 q3 q4 q5 r0 r1 g0 g1 hlw
          obtain ⟨q0, q1, q2, q3, q4, q5⟩ := HQ3.out.below hb6 hlq
          obtain ⟨r0, r1, g0, g1⟩ := HX6.out
          have hlw := HX6.out.lt
          have hlq6 := Nat.lt_of_lt_of_le hlq hb6.size
          clear hb6 HX3 HR3
          by_cases hej : ej = 0
          · subst hej
            subst hE
            simp only [if_pos] at hG hTx ⊢
            subst hG hTx
            go_wp2_with fail
            have hr4 := HX6.out.set2 (.int .i64 gs) (.string (textU (loadS (s :: B))))
            have hb4 := set2_below HB6.out (show w.heap.size ≤ w.heap.size + 1 by omega) (.int .i64 gs) (.string (textU (loadS (s :: B))))
            generalize ((w6.setCell ⟨w.heap.size + 1, 0, none⟩ (.int .i64 gs)).setCell ⟨w.heap.size + 1, 1, none⟩ (.string (textU (loadS (s :: B))))) = wf at *
            obtain ⟨k0, k1, -, -⟩ := hr4
            refine bodyPost_ret (v := .tuple #[SNV gs (textU (loadS (s :: B))), .int .i64 0]) (by simp [results, Tryz.results72, go_sem, k0, k1]) rfl ?_
            exact ⟨rfl, hb4⟩
          · have hne := neq0 hej
            subst hE
            rw [if_neg hej] at hG hTx
            rw [if_neg hej, if_neg hej]
            subst hG hTx
            go_wp2_with fail
            have hr4 := HX6.out.set2 (.int .i64 0) (.string ⟨#[]⟩)
            have hb4 := set2_below HB6.out (show w.heap.size ≤ w.heap.size + 1 by omega) (.int .i64 0) (.string ⟨#[]⟩)
            generalize ((w6.setCell ⟨w.heap.size + 1, 0, none⟩ (.int .i64 0)).setCell ⟨w.heap.size + 1, 1, none⟩ (.string ⟨#[]⟩)) = wf at *
            obtain ⟨k0, k1, -, -⟩ := hr4
            refine bodyPost_ret (v := .tuple #[SNV 0 ⟨#[]⟩, .int .i64 ej]) (by simp [results, Tryz.results72, go_sem, k0, k1]) rfl ?_
            exact ⟨rfl, hb4⟩)
      · have hnb : (ns == 0) = false := by simpa using hns
        rw [if_neg (fun x => hns x.2)] at hE
        subst hE
        rw [if_neg (by decide)] at hG hTx
        subst hG hTx
        rcases hz with rfl | rfl
        all_goals (
          go_enter Tryz.func72, Tryz.ntmps72
          go_wp2_with (first | (go_at_call 37; (with_reducible refine HC.out.mono ?_); rintro e w1 ⟨rfl, hb1⟩; have HB1 := Lib.hid (((new1 w (D25 A n c A' m c' f)).push _).call hb1); have X1 := (by have := (Bx2.new (w.alloc (D25 A n c A' m c' f)) (.int .i64 0) (.string ⟨#[]⟩) 87).call hb1; rwa [World.size_alloc] at this : Bx2 w1 (w.heap.size + 1) (.int .i64 0) (.string ⟨#[]⟩)); have HX := Lib.hid X1; obtain ⟨r0, r1, g0, g1⟩ := X1; obtain ⟨c0, c1_, c2, -, -, -⟩ := ((Box.new w (.slice A n c) (.slice A' m c') (.int .i64 f) 25).call (new1 _ (.cells #[.int .i64 0, .string ⟨#[]⟩] 87))).call hb1; clear hb1) | (go_at_call 73; (with_reducible refine (HZ.out _).mono ?_); rintro r w2 ⟨rfl, rfl⟩))
          with_reducible refine (HD.out _ _ _ HB1.out (by omega) (by omega)).mono ?_
          rintro r w2 ⟨B1, m1, cc1, rfl, hr1, b2⟩
          have HB2 := Lib.hid (HB1.out.call b2)
          have HX2 := Lib.hid (HX.out.call b2)
          obtain rfl : N = m1 := by rw [← HN.out]; exact hr1.sec
          have HR := Lib.hid hr1
          clear b2 hr1 HD HX HB1 HC HZ r0 r1 g0 g1 c0 c1_ c2
          obtain ⟨r0, r1, g0, g1⟩ := HX2.out
          have hlx := HX2.out.lt
          obtain ⟨b, off, rfl, hb, hcell⟩ := HG.out _ _ HR.out
          go_wp2_with fail
          with_reducible refine (HRd.out _).mono ?_
          rintro r w3 ⟨rfl, b3⟩
          have HB3 := Lib.hid ((HB2.out.call b3).push (.cells #[.int .u8 1, .int .i64 gs, .int .i64 ns, .int .i64 ap, .int .i64 os, .string ds] 183))
          have HX3 := Lib.hid ((HX2.out.call b3).alloc (.cells #[.int .u8 1, .int .i64 gs, .int .i64 ns, .int .i64 ap, .int .i64 os, .string ds] 183))
          have HR3 := Lib.hid ((HR.out.below b3).below (new1 _ (.cells #[.int .u8 1, .int .i64 gs, .int .i64 ns, .int .i64 ap, .int .i64 os, .string ds] 183)))
          have HQ3 := Lib.hid (Box6.new w3 (.int .u8 1) (.int .i64 gs) (.int .i64 ns) (.int .i64 ap) (.int .i64 os) (.string ds) 183)
          have hlq0 : w3.heap.size < (w3.alloc (.cells #[.int .u8 1, .int .i64 gs, .int .i64 ns, .int .i64 ap, .int .i64 os, .string ds] 183)).heap.size := by simp
          clear b3 HB2 HX2 HR HRd r0 r1 g0 g1 hlx
          go_upto_if 51 with fail
          generalize hW4 : (w3.alloc (.cells #[.int .u8 1, .int .i64 gs, .int .i64 ns, .int .i64 ap, .int .i64 os, .string ds] 183)) = W4 at *
          clear hW4
          have hlq := hlq0
          clear hlq0
          obtain ⟨q0, q1, q2, q3, q4, q5⟩ := HQ3.out
          obtain ⟨r0, r1, g0, g1⟩ := HX3.out
          have hlw := HX3.out.lt
          go_wp2_with fail
          have hr4 := HX3.out.set2 (.int .i64 0) (.string ⟨#[]⟩)
          have hb4 := set2_below HB3.out (show w.heap.size ≤ w.heap.size + 1 by omega) (.int .i64 0) (.string ⟨#[]⟩)
          generalize ((W4.setCell ⟨w.heap.size + 1, 0, none⟩ (.int .i64 0)).setCell ⟨w.heap.size + 1, 1, none⟩ (.string ⟨#[]⟩)) = wf at *
          obtain ⟨k0, k1, -, -⟩ := hr4
          refine bodyPost_ret (v := .tuple #[SNV 0 ⟨#[]⟩, .int .i64 11]) (by simp [results, Tryz.results72, go_sem, k0, k1]) rfl ?_
          exact ⟨rfl, hb4⟩)
    · have hkb : ((ks : Int) == 1) = false := by simp; omega
      rw [if_neg (fun x => hks x.1)] at hE
      subst hE
      rw [if_neg (by decide)] at hG hTx
      subst hG hTx
      rcases hz with rfl | rfl
      all_goals (
        go_enter Tryz.func72, Tryz.ntmps72
        go_wp2_with (first | (go_at_call 37; (with_reducible refine HC.out.mono ?_); rintro e w1 ⟨rfl, hb1⟩; have HB1 := Lib.hid (((new1 w (D25 A n c A' m c' f)).push _).call hb1); have X1 := (by have := (Bx2.new (w.alloc (D25 A n c A' m c' f)) (.int .i64 0) (.string ⟨#[]⟩) 87).call hb1; rwa [World.size_alloc] at this : Bx2 w1 (w.heap.size + 1) (.int .i64 0) (.string ⟨#[]⟩)); have HX := Lib.hid X1; obtain ⟨r0, r1, g0, g1⟩ := X1; obtain ⟨c0, c1_, c2, -, -, -⟩ := ((Box.new w (.slice A n c) (.slice A' m c') (.int .i64 f) 25).call (new1 _ (.cells #[.int .i64 0, .string ⟨#[]⟩] 87))).call hb1; clear hb1) | (go_at_call 73; (with_reducible refine (HZ.out _).mono ?_); rintro r w2 ⟨rfl, rfl⟩))
        with_reducible refine (HD.out _ _ _ HB1.out (by omega) (by omega)).mono ?_
        rintro r w2 ⟨B1, m1, cc1, rfl, hr1, b2⟩
        have HB2 := Lib.hid (HB1.out.call b2)
        have HX2 := Lib.hid (HX.out.call b2)
        obtain rfl : N = m1 := by rw [← HN.out]; exact hr1.sec
        have HR := Lib.hid hr1
        clear b2 hr1 HD HX HB1 HC HZ r0 r1 g0 g1 c0 c1_ c2
        obtain ⟨r0, r1, g0, g1⟩ := HX2.out
        have hlx := HX2.out.lt
        obtain ⟨b, off, rfl, hb, hcell⟩ := HG.out _ _ HR.out
        go_wp2_with fail
        with_reducible refine (HRd.out _).mono ?_
        rintro r w3 ⟨rfl, b3⟩
        have HB3 := Lib.hid ((HB2.out.call b3).push (.cells #[.int .u8 ks, .int .i64 gs, .int .i64 ns, .int .i64 ap, .int .i64 os, .string ds] 183))
        have HX3 := Lib.hid ((HX2.out.call b3).alloc (.cells #[.int .u8 ks, .int .i64 gs, .int .i64 ns, .int .i64 ap, .int .i64 os, .string ds] 183))
        have HR3 := Lib.hid ((HR.out.below b3).below (new1 _ (.cells #[.int .u8 ks, .int .i64 gs, .int .i64 ns, .int .i64 ap, .int .i64 os, .string ds] 183)))
        have HQ3 := Lib.hid (Box6.new w3 (.int .u8 ks) (.int .i64 gs) (.int .i64 ns) (.int .i64 ap) (.int .i64 os) (.string ds) 183)
        have hlq0 : w3.heap.size < (w3.alloc (.cells #[.int .u8 ks, .int .i64 gs, .int .i64 ns, .int .i64 ap, .int .i64 os, .string ds] 183)).heap.size := by simp
        clear b3 HB2 HX2 HR HRd r0 r1 g0 g1 hlx
        go_upto_if 51 with fail
        generalize hW4 : (w3.alloc (.cells #[.int .u8 ks, .int .i64 gs, .int .i64 ns, .int .i64 ap, .int .i64 os, .string ds] 183)) = W4 at *
        clear hW4
        have hlq := hlq0
        clear hlq0
        obtain ⟨q0, q1, q2, q3, q4, q5⟩ := HQ3.out
        obtain ⟨r0, r1, g0, g1⟩ := HX3.out
        have hlw := HX3.out.lt
        go_wp2_with fail
        have hr4 := HX3.out.set2 (.int .i64 0) (.string ⟨#[]⟩)
        have hb4 := set2_below HB3.out (show w.heap.size ≤ w.heap.size + 1 by omega) (.int .i64 0) (.string ⟨#[]⟩)
        generalize ((W4.setCell ⟨w.heap.size + 1, 0, none⟩ (.int .i64 0)).setCell ⟨w.heap.size + 1, 1, none⟩ (.string ⟨#[]⟩)) = wf at *
        obtain ⟨k0, k1, -, -⟩ := hr4
        refine bodyPost_ret (v := .tuple #[SNV 0 ⟨#[]⟩, .int .i64 11]) (by simp [results, Tryz.results72, go_sem, k0, k1]) rfl ?_
        exact ⟨rfl, hb4⟩)
  · rw [if_neg h1] at hE
    rw [if_neg h1] at HRd
    have hne := neq0 h1
    subst hE
    rw [if_neg h1] at hG hTx
    subst hG hTx
    clear h1
    rcases hz with rfl | rfl
    all_goals (
      go_enter Tryz.func72, Tryz.ntmps72
      go_wp2_with (first | (go_at_call 37; (with_reducible refine HC.out.mono ?_); rintro e w1 ⟨rfl, hb1⟩; have HB1 := Lib.hid (((new1 w (D25 A n c A' m c' f)).push _).call hb1); have X1 := (by have := (Bx2.new (w.alloc (D25 A n c A' m c' f)) (.int .i64 0) (.string ⟨#[]⟩) 87).call hb1; rwa [World.size_alloc] at this : Bx2 w1 (w.heap.size + 1) (.int .i64 0) (.string ⟨#[]⟩)); have HX := Lib.hid X1; obtain ⟨r0, r1, g0, g1⟩ := X1; obtain ⟨c0, c1_, c2, -, -, -⟩ := ((Box.new w (.slice A n c) (.slice A' m c') (.int .i64 f) 25).call (new1 _ (.cells #[.int .i64 0, .string ⟨#[]⟩] 87))).call hb1; clear hb1) | (go_at_call 73; (with_reducible refine (HZ.out _).mono ?_); rintro r w2 ⟨rfl, rfl⟩))
      with_reducible refine (HD.out _ _ _ HB1.out (by omega) (by omega)).mono ?_
      rintro r w2 ⟨B1, m1, cc1, rfl, hr1, b2⟩
      have HB2 := Lib.hid (HB1.out.call b2)
      have HX2 := Lib.hid (HX.out.call b2)
      obtain rfl : N = m1 := by rw [← HN.out]; exact hr1.sec
      have HR := Lib.hid hr1
      clear b2 hr1 HD HX HB1 HC HZ r0 r1 g0 g1 c0 c1_ c2
      obtain ⟨r0, r1, g0, g1⟩ := HX2.out
      have hlx := HX2.out.lt
      obtain ⟨b, off, rfl, hb, hcell⟩ := HG.out _ _ HR.out
      go_wp2_with fail
      with_reducible refine (HRd.out _).mono ?_
      rintro r w3 ⟨rfl, b3⟩
      have HB3 := Lib.hid ((HB2.out.call b3).push (.cells #[.int .u8 0, .int .i64 0, .int .i64 0, .int .i64 0, .int .i64 0, .string ⟨#[]⟩] 183))
      have HX3 := Lib.hid ((HX2.out.call b3).alloc (.cells #[.int .u8 0, .int .i64 0, .int .i64 0, .int .i64 0, .int .i64 0, .string ⟨#[]⟩] 183))
      clear b3 HB2 HX2 HR HRd r0 r1 g0 g1 hlx
      go_upto_if 51 with fail
      generalize (w3.alloc (.cells #[.int .u8 0, .int .i64 0, .int .i64 0, .int .i64 0, .int .i64 0, .string ⟨#[]⟩] 183)) = W4 at *
      obtain ⟨r0, r1, g0, g1⟩ := HX3.out
      have hlw := HX3.out.lt
      go_wp2_with fail
      have hr4 := HX3.out.set2 (.int .i64 0) (.string ⟨#[]⟩)
      have hb4 := set2_below HB3.out (show w.heap.size ≤ w.heap.size + 1 by omega) (.int .i64 0) (.string ⟨#[]⟩)
      generalize ((W4.setCell ⟨w.heap.size + 1, 0, none⟩ (.int .i64 0)).setCell ⟨w.heap.size + 1, 1, none⟩ (.string ⟨#[]⟩)) = wf at *
      obtain ⟨k0, k1, -, -⟩ := hr4
      refine bodyPost_ret (v := .tuple #[SNV 0 ⟨#[]⟩, .int .i64 (errR s)]) (by simp [results, Tryz.results72, go_sem, k0, k1]) rfl ?_
      exact ⟨rfl, hb4⟩)
end

theorem rload_any (A : Option Addr) (n c : Nat) (A' : Option Addr) (m c' : Nat) (f : Int) (S : List ByteArray) (V : List Wr) (z : Int) (w : World) (hD : Dev w A n c A' m c' f S V) :
    Calls Tryz.prog 72 #[DV A n c A' m c' f, .int .i64 z] w (RetN w (loadDG S V f z) (loadDT S V f z) (loadDE S V f z)) := by
  unfold loadDG loadDT loadDE
  by_cases h : mayL S V f z = true
  · rw [if_pos h, if_pos h, if_pos h]
    cases hB : slotB S V f z with
    | nil => exact rload_none A n c A' m c' f S V z w hD h hB
    | cons s B => exact rload_some A n c A' m c' f S V z w hD h s B hB _ _ _ rfl rfl rfl
  · rw [if_neg h, if_neg h, if_neg h]
    exact rload_no A n c A' m c' f S V z w hD (by simpa using h)

end Go.Proofs.YtkglolnghihegaaGreatDoor.Slt

/- Contracts of the document's Best of package slots, and of SameTexts. -/
namespace Go.Proofs.YtkglolnghihegaaGreatDoor.Slt
open Go.RowKit Go.Proofs.YtkglolnghihegaaGreatDoor.Dsk Go.Proofs.YtkglolnghihegaaGreatDoor.Sht Go.Proofs.YtkglolnghihegaaGreatDoor.Shf

theorem errR_vals (s : ByteArray) : errR s = 0 ∨ errR s = 8 ∨ errR s = 4 := by
  unfold errR; split <;> (try split) <;> simp
theorem errR_gen {s : ByteArray} (h : errR s = 0) : 1 ≤ gA s := by
  unfold errR at h
  split at h
  · split at h
    · rename_i h2
      have := h2.1
      unfold fineH at this
      simp at this
      exact this.1
    · omega
  · omega
theorem errB_ne (k : Nat) (g n : Int) (s : ByteArray) (i : Int) : errB k g n s i ≠ 2 := by
  unfold errB
  rcases errR_vals s with h | h | h <;> rw [h] <;> (repeat' split) <;> omega
theorem errP_ne (k : Nat) (g n : Int) (S : List ByteArray) (i : Nat) : errP k g n S i ≠ 2 := by
  unfold errP; split
  · exact errB_ne _ _ _ _ _
  · omega
theorem errG_ne (k : Nat) (g n : Int) (S : List ByteArray) (of : Int) (i : Nat) : errG k g n S of i ≠ 2 := by
  unfold errG; split
  · have := errB_ne k g n ‹_› i
    split
    · split <;> omega
    · exact this
  · omega
theorem scanG_ne (k : Nat) (g n : Int) (S : List ByteArray) (of : Int) : ∀ r i, scanG k g n S of r i ≠ 2
  | 0, _ => by unfold scanG; omega
  | r + 1, i => by
    unfold scanG
    split
    · exact scanG_ne k g n S of r (i + 1)
    · exact errG_ne _ _ _ _ _ _
theorem errS_ne (k : Nat) (g n : Int) (S : List ByteArray) : errS k g n S ≠ 2 := by
  unfold errS; split
  · exact scanG_ne _ _ _ _ _ _ _
  · exact errP_ne _ _ _ _ _
theorem errJ_ne (k : Nat) (g n : Int) (S : List ByteArray) : errJ k g n S ≠ 2 := by
  unfold errJ errU
  split
  · (repeat' split) <;> omega
  · exact errS_ne _ _ _ _
theorem loadE_ne (B : List ByteArray) : loadE B ≠ 2 := by
  unfold loadE
  cases B with
  | nil => simp
  | cons s B =>
    dsimp only
    split
    · split
      · exact errJ_ne _ _ _ _
      · omega
    · rcases errR_vals s with h | h | h <;> omega
theorem loadE_gen {B : List ByteArray} (h : loadE B = 0) : 0 < loadG B := by
  have h' := h
  unfold loadG
  rw [if_pos h]
  unfold loadE at h'
  cases B with
  | nil => simp at h'
  | cons s B =>
    dsimp only at h' ⊢
    split at h'
    · rename_i h1
      have := errR_gen h1
      omega
    · contradiction
theorem loadD_gen {S : List ByteArray} {V : List Wr} {f z : Int} (h : loadDE S V f z = 0) : 0 < loadDG S V f z := by
  unfold loadDE at h
  unfold loadDG
  split at h
  · rename_i h1
    rw [if_pos h1]; exact loadE_gen h
  · omega
theorem loadD_ne {S : List ByteArray} {V : List Wr} {f z : Int} (h : mayL S V f z = true) : loadDE S V f z ≠ 2 := by
  unfold loadDE; rw [if_pos h]; exact loadE_ne _

set_option maxHeartbeats 1000000 in
theorem rbest_2 (A : Option Addr) (n c : Nat) (A' : Option Addr) (m c' : Nat) (f : Int) (w : World) (G0 G1 E0 E1 : Int) (T0 T1 : ByteArray)
    (HL0 : Hid (∀ W, Below w.heap.size w W → Calls Tryz.prog 72 #[DV A n c A' m c' f, .int .i64 0] W fun r w' => r = .returned (.tuple #[SNV G0 T0, .int .i64 E0]) ∧ Below W.heap.size W w'))
    (HL1 : Hid (∀ W, Below w.heap.size w W → Calls Tryz.prog 72 #[DV A n c A' m c' f, .int .i64 1] W fun r w' => r = .returned (.tuple #[SNV G1 T1, .int .i64 E1]) ∧ Below W.heap.size W w'))
    (h0 : E0 = 2) :
    Calls Tryz.prog 39 #[DV A n c A' m c' f] w fun r w' => r = .returned (.tuple #[.int .i64 0, SNV 0 ⟨#[]⟩, .int .i64 2]) ∧ Below w.heap.size w w' := by
  subst h0
  go_enter Tryz.func39, Tryz.ntmps39
  go_wp2_with fail
  with_reducible refine (HL0.out _ (((new1 w (D25 A n c A' m c' f)).push (.cells #[.int .i64 0, .string ⟨#[]⟩] 87)))).mono ?_
  rintro r w1 ⟨rfl, b1⟩
  have HB1 := Lib.hid ((((new1 w (D25 A n c A' m c' f)).push (.cells #[.int .i64 0, .string ⟨#[]⟩] 87)).call b1).push (.cells #[.int .i64 G0, .string T0] 87))
  have HY1 := Lib.hid ((((St.new w A n c A' m c' f 25).alloc (.cells #[.int .i64 0, .string ⟨#[]⟩] 87)).call b1).alloc (.cells #[.int .i64 G0, .string T0] 87))
  have HX1 := Lib.hid ((by have := (Bx2.new (w.alloc (D25 A n c A' m c' f)) (.int .i64 0) (.string ⟨#[]⟩) 87).call b1; rwa [World.size_alloc] at this : Bx2 w1 (w.heap.size + 1) (.int .i64 0) (.string ⟨#[]⟩)).alloc (.cells #[.int .i64 G0, .string T0] 87))
  have HA1 := Lib.hid (Bx2.new w1 (.int .i64 G0) (.string T0) 87)
  have hs1 : w.heap.size + 1 < w1.heap.size := by have := b1.size; simp at this; omega
  clear b1 HL0
  obtain ⟨c0, c1_, c2, -, -, -⟩ := HY1.out.box
  have hly := HY1.out.lt
  go_wp2_with fail
  with_reducible refine (HL1.out _ HB1.out).mono ?_
  rintro r w2 ⟨rfl, b2⟩
  have HB2 := Lib.hid ((HB1.out.call b2).push (.cells #[.int .i64 G1, .string T1] 87))
  have HX2 := Lib.hid ((HX1.out.call b2).alloc (.cells #[.int .i64 G1, .string T1] 87))
  have HA2 := Lib.hid ((HA1.out.call b2).alloc (.cells #[.int .i64 G1, .string T1] 87))
  have HC2 := Lib.hid (Bx2.new w2 (.int .i64 G1) (.string T1) 87)
  clear b2 HL1 c0 c1_ c2 hly HB1 HX1 HA1 HY1
  go_upto_if 20 with fail
  generalize hW3 : (w2.alloc (.cells #[.int .i64 G1, .string T1] 87)) = W3 at *
  clear hW3
  generalize w2.heap.size = vb at *
  generalize w1.heap.size = va at *
  obtain ⟨r0, r1, g0, g1⟩ := HX2.out
  obtain ⟨a0, a1, -, -⟩ := HA2.out
  obtain ⟨e0, e1, -, -⟩ := HC2.out
  have hlx := HX2.out.lt
  have hla := HA2.out.lt
  have hlc := HC2.out.lt
  go_wp2_with fail
  have hr4 := HX2.out.set2 (.int .i64 0) (.string ⟨#[]⟩)
  have hb4 := set2_below HB2.out (show w.heap.size ≤ w.heap.size + 1 by omega) (.int .i64 0) (.string ⟨#[]⟩)
  generalize ((W3.setCell ⟨w.heap.size + 1, 0, none⟩ (.int .i64 0)).setCell ⟨w.heap.size + 1, 1, none⟩ (.string ⟨#[]⟩)) = wf at *
  obtain ⟨k0, k1, -, -⟩ := hr4
  refine bodyPost_ret (v := .tuple #[.int .i64 0, SNV 0 ⟨#[]⟩, .int .i64 2]) (by simp [results, Tryz.results39, go_sem, k0, k1]) rfl ?_
  exact ⟨rfl, hb4⟩

set_option maxHeartbeats 1000000 in
theorem rbest_6 (A : Option Addr) (n c : Nat) (A' : Option Addr) (m c' : Nat) (f : Int) (w : World) (G0 G1 E0 E1 : Int) (T0 T1 : ByteArray)
    (HL0 : Hid (∀ W, Below w.heap.size w W → Calls Tryz.prog 72 #[DV A n c A' m c' f, .int .i64 0] W fun r w' => r = .returned (.tuple #[SNV G0 T0, .int .i64 E0]) ∧ Below W.heap.size W w'))
    (HL1 : Hid (∀ W, Below w.heap.size w W → Calls Tryz.prog 72 #[DV A n c A' m c' f, .int .i64 1] W fun r w' => r = .returned (.tuple #[SNV G1 T1, .int .i64 E1]) ∧ Below W.heap.size W w'))
    (h0 : ¬ E0 = 0) (h2 : ¬ E0 = 2) (h1 : ¬ E1 = 0) :
    Calls Tryz.prog 39 #[DV A n c A' m c' f] w fun r w' => r = .returned (.tuple #[.int .i64 0, SNV 0 ⟨#[]⟩, .int .i64 6]) ∧ Below w.heap.size w w' := by
  have n0 := neq0 h0
  have n1 := neq0 h1
  have n2 : (E0 == 2) = false := by simpa using h2
  go_enter Tryz.func39, Tryz.ntmps39
  go_wp2_with fail
  with_reducible refine (HL0.out _ (((new1 w (D25 A n c A' m c' f)).push (.cells #[.int .i64 0, .string ⟨#[]⟩] 87)))).mono ?_
  rintro r w1 ⟨rfl, b1⟩
  have HB1 := Lib.hid ((((new1 w (D25 A n c A' m c' f)).push (.cells #[.int .i64 0, .string ⟨#[]⟩] 87)).call b1).push (.cells #[.int .i64 G0, .string T0] 87))
  have HY1 := Lib.hid ((((St.new w A n c A' m c' f 25).alloc (.cells #[.int .i64 0, .string ⟨#[]⟩] 87)).call b1).alloc (.cells #[.int .i64 G0, .string T0] 87))
  have HX1 := Lib.hid ((by have := (Bx2.new (w.alloc (D25 A n c A' m c' f)) (.int .i64 0) (.string ⟨#[]⟩) 87).call b1; rwa [World.size_alloc] at this : Bx2 w1 (w.heap.size + 1) (.int .i64 0) (.string ⟨#[]⟩)).alloc (.cells #[.int .i64 G0, .string T0] 87))
  have HA1 := Lib.hid (Bx2.new w1 (.int .i64 G0) (.string T0) 87)
  have hs1 : w.heap.size + 1 < w1.heap.size := by have := b1.size; simp at this; omega
  clear b1 HL0
  obtain ⟨c0, c1_, c2, -, -, -⟩ := HY1.out.box
  have hly := HY1.out.lt
  go_wp2_with fail
  with_reducible refine (HL1.out _ HB1.out).mono ?_
  rintro r w2 ⟨rfl, b2⟩
  have HB2 := Lib.hid ((HB1.out.call b2).push (.cells #[.int .i64 G1, .string T1] 87))
  have HX2 := Lib.hid ((HX1.out.call b2).alloc (.cells #[.int .i64 G1, .string T1] 87))
  have HA2 := Lib.hid ((HA1.out.call b2).alloc (.cells #[.int .i64 G1, .string T1] 87))
  have HC2 := Lib.hid (Bx2.new w2 (.int .i64 G1) (.string T1) 87)
  clear b2 HL1 c0 c1_ c2 hly HB1 HX1 HA1 HY1
  go_upto_if 20 with fail
  generalize hW3 : (w2.alloc (.cells #[.int .i64 G1, .string T1] 87)) = W3 at *
  clear hW3
  generalize w2.heap.size = vb at *
  generalize w1.heap.size = va at *
  obtain ⟨r0, r1, g0, g1⟩ := HX2.out
  obtain ⟨a0, a1, -, -⟩ := HA2.out
  obtain ⟨e0, e1, -, -⟩ := HC2.out
  have hlx := HX2.out.lt
  have hla := HA2.out.lt
  have hlc := HC2.out.lt
  go_wp2_with fail
  have hr4 := HX2.out.set2 (.int .i64 0) (.string ⟨#[]⟩)
  have hb4 := set2_below HB2.out (show w.heap.size ≤ w.heap.size + 1 by omega) (.int .i64 0) (.string ⟨#[]⟩)
  generalize ((W3.setCell ⟨w.heap.size + 1, 0, none⟩ (.int .i64 0)).setCell ⟨w.heap.size + 1, 1, none⟩ (.string ⟨#[]⟩)) = wf at *
  obtain ⟨k0, k1, -, -⟩ := hr4
  refine bodyPost_ret (v := .tuple #[.int .i64 0, SNV 0 ⟨#[]⟩, .int .i64 6]) (by simp [results, Tryz.results39, go_sem, k0, k1]) rfl ?_
  exact ⟨rfl, hb4⟩

set_option maxHeartbeats 1000000 in
theorem rbest_0a (A : Option Addr) (n c : Nat) (A' : Option Addr) (m c' : Nat) (f : Int) (w : World) (G0 G1 E0 E1 : Int) (T0 T1 : ByteArray)
    (HL0 : Hid (∀ W, Below w.heap.size w W → Calls Tryz.prog 72 #[DV A n c A' m c' f, .int .i64 0] W fun r w' => r = .returned (.tuple #[SNV G0 T0, .int .i64 E0]) ∧ Below W.heap.size W w'))
    (HL1 : Hid (∀ W, Below w.heap.size w W → Calls Tryz.prog 72 #[DV A n c A' m c' f, .int .i64 1] W fun r w' => r = .returned (.tuple #[SNV G1 T1, .int .i64 E1]) ∧ Below W.heap.size W w'))
    (h0 : E0 = 0) (h1 : ¬ E1 = 0) :
    Calls Tryz.prog 39 #[DV A n c A' m c' f] w fun r w' => r = .returned (.tuple #[.int .i64 0, SNV G0 T0, .int .i64 0]) ∧ Below w.heap.size w w' := by
  subst h0
  have n1 := neq0 h1
  go_enter Tryz.func39, Tryz.ntmps39
  go_wp2_with fail
  with_reducible refine (HL0.out _ (((new1 w (D25 A n c A' m c' f)).push (.cells #[.int .i64 0, .string ⟨#[]⟩] 87)))).mono ?_
  rintro r w1 ⟨rfl, b1⟩
  have HB1 := Lib.hid ((((new1 w (D25 A n c A' m c' f)).push (.cells #[.int .i64 0, .string ⟨#[]⟩] 87)).call b1).push (.cells #[.int .i64 G0, .string T0] 87))
  have HY1 := Lib.hid ((((St.new w A n c A' m c' f 25).alloc (.cells #[.int .i64 0, .string ⟨#[]⟩] 87)).call b1).alloc (.cells #[.int .i64 G0, .string T0] 87))
  have HX1 := Lib.hid ((by have := (Bx2.new (w.alloc (D25 A n c A' m c' f)) (.int .i64 0) (.string ⟨#[]⟩) 87).call b1; rwa [World.size_alloc] at this : Bx2 w1 (w.heap.size + 1) (.int .i64 0) (.string ⟨#[]⟩)).alloc (.cells #[.int .i64 G0, .string T0] 87))
  have HA1 := Lib.hid (Bx2.new w1 (.int .i64 G0) (.string T0) 87)
  have hs1 : w.heap.size + 1 < w1.heap.size := by have := b1.size; simp at this; omega
  clear b1 HL0
  obtain ⟨c0, c1_, c2, -, -, -⟩ := HY1.out.box
  have hly := HY1.out.lt
  go_wp2_with fail
  with_reducible refine (HL1.out _ HB1.out).mono ?_
  rintro r w2 ⟨rfl, b2⟩
  have HB2 := Lib.hid ((HB1.out.call b2).push (.cells #[.int .i64 G1, .string T1] 87))
  have HX2 := Lib.hid ((HX1.out.call b2).alloc (.cells #[.int .i64 G1, .string T1] 87))
  have HA2 := Lib.hid ((HA1.out.call b2).alloc (.cells #[.int .i64 G1, .string T1] 87))
  have HC2 := Lib.hid (Bx2.new w2 (.int .i64 G1) (.string T1) 87)
  clear b2 HL1 c0 c1_ c2 hly HB1 HX1 HA1 HY1
  go_upto_if 20 with fail
  generalize hW3 : (w2.alloc (.cells #[.int .i64 G1, .string T1] 87)) = W3 at *
  clear hW3
  generalize w2.heap.size = vb at *
  generalize w1.heap.size = va at *
  obtain ⟨r0, r1, g0, g1⟩ := HX2.out
  obtain ⟨a0, a1, -, -⟩ := HA2.out
  obtain ⟨e0, e1, -, -⟩ := HC2.out
  have hlx := HX2.out.lt
  have hla := HA2.out.lt
  have hlc := HC2.out.lt
  go_wp2_with fail
  go_region
  all_goals (
    go_wp2_with fail
    have hr4 := HX2.out.set2 (.int .i64 G0) (.string T0)
    have hb4 := set2_below HB2.out (show w.heap.size ≤ w.heap.size + 1 by omega) (.int .i64 G0) (.string T0)
    generalize ((W3.setCell ⟨w.heap.size + 1, 0, none⟩ (.int .i64 G0)).setCell ⟨w.heap.size + 1, 1, none⟩ (.string T0)) = wf at *
    obtain ⟨k0, k1, -, -⟩ := hr4
    refine bodyPost_ret (v := .tuple #[.int .i64 0, SNV G0 T0, .int .i64 0]) (by simp [results, Tryz.results39, go_sem, k0, k1]) rfl ?_
    exact ⟨rfl, hb4.drew⟩)

set_option maxHeartbeats 1000000 in
theorem rbest_0b (A : Option Addr) (n c : Nat) (A' : Option Addr) (m c' : Nat) (f : Int) (w : World) (G0 G1 E0 E1 : Int) (T0 T1 : ByteArray)
    (HL0 : Hid (∀ W, Below w.heap.size w W → Calls Tryz.prog 72 #[DV A n c A' m c' f, .int .i64 0] W fun r w' => r = .returned (.tuple #[SNV G0 T0, .int .i64 E0]) ∧ Below W.heap.size W w'))
    (HL1 : Hid (∀ W, Below w.heap.size w W → Calls Tryz.prog 72 #[DV A n c A' m c' f, .int .i64 1] W fun r w' => r = .returned (.tuple #[SNV G1 T1, .int .i64 E1]) ∧ Below W.heap.size W w'))
    (h0 : E0 = 0) (h1 : E1 = 0) (hg : G1 ≤ G0) :
    Calls Tryz.prog 39 #[DV A n c A' m c' f] w fun r w' => r = .returned (.tuple #[.int .i64 0, SNV G0 T0, .int .i64 0]) ∧ Below w.heap.size w w' := by
  subst h0 h1
  have d1 : decide (G1 ≤ G0) = true := by simpa using hg
  go_enter Tryz.func39, Tryz.ntmps39
  go_wp2_with fail
  with_reducible refine (HL0.out _ (((new1 w (D25 A n c A' m c' f)).push (.cells #[.int .i64 0, .string ⟨#[]⟩] 87)))).mono ?_
  rintro r w1 ⟨rfl, b1⟩
  have HB1 := Lib.hid ((((new1 w (D25 A n c A' m c' f)).push (.cells #[.int .i64 0, .string ⟨#[]⟩] 87)).call b1).push (.cells #[.int .i64 G0, .string T0] 87))
  have HY1 := Lib.hid ((((St.new w A n c A' m c' f 25).alloc (.cells #[.int .i64 0, .string ⟨#[]⟩] 87)).call b1).alloc (.cells #[.int .i64 G0, .string T0] 87))
  have HX1 := Lib.hid ((by have := (Bx2.new (w.alloc (D25 A n c A' m c' f)) (.int .i64 0) (.string ⟨#[]⟩) 87).call b1; rwa [World.size_alloc] at this : Bx2 w1 (w.heap.size + 1) (.int .i64 0) (.string ⟨#[]⟩)).alloc (.cells #[.int .i64 G0, .string T0] 87))
  have HA1 := Lib.hid (Bx2.new w1 (.int .i64 G0) (.string T0) 87)
  have hs1 : w.heap.size + 1 < w1.heap.size := by have := b1.size; simp at this; omega
  clear b1 HL0
  obtain ⟨c0, c1_, c2, -, -, -⟩ := HY1.out.box
  have hly := HY1.out.lt
  go_wp2_with fail
  with_reducible refine (HL1.out _ HB1.out).mono ?_
  rintro r w2 ⟨rfl, b2⟩
  have HB2 := Lib.hid ((HB1.out.call b2).push (.cells #[.int .i64 G1, .string T1] 87))
  have HX2 := Lib.hid ((HX1.out.call b2).alloc (.cells #[.int .i64 G1, .string T1] 87))
  have HA2 := Lib.hid ((HA1.out.call b2).alloc (.cells #[.int .i64 G1, .string T1] 87))
  have HC2 := Lib.hid (Bx2.new w2 (.int .i64 G1) (.string T1) 87)
  clear b2 HL1 c0 c1_ c2 hly HB1 HX1 HA1 HY1
  go_upto_if 20 with fail
  generalize hW3 : (w2.alloc (.cells #[.int .i64 G1, .string T1] 87)) = W3 at *
  clear hW3
  generalize w2.heap.size = vb at *
  generalize w1.heap.size = va at *
  obtain ⟨r0, r1, g0, g1⟩ := HX2.out
  obtain ⟨a0, a1, -, -⟩ := HA2.out
  obtain ⟨e0, e1, -, -⟩ := HC2.out
  have hlx := HX2.out.lt
  have hla := HA2.out.lt
  have hlc := HC2.out.lt
  go_wp2_with fail
  go_region
  all_goals (
    go_wp2_with fail
    have hr4 := HX2.out.set2 (.int .i64 G0) (.string T0)
    have hb4 := set2_below HB2.out (show w.heap.size ≤ w.heap.size + 1 by omega) (.int .i64 G0) (.string T0)
    generalize ((W3.setCell ⟨w.heap.size + 1, 0, none⟩ (.int .i64 G0)).setCell ⟨w.heap.size + 1, 1, none⟩ (.string T0)) = wf at *
    obtain ⟨k0, k1, -, -⟩ := hr4
    refine bodyPost_ret (v := .tuple #[.int .i64 0, SNV G0 T0, .int .i64 0]) (by simp [results, Tryz.results39, go_sem, k0, k1]) rfl ?_
    exact ⟨rfl, hb4.drew⟩)

set_option maxHeartbeats 1000000 in
theorem rbest_1a (A : Option Addr) (n c : Nat) (A' : Option Addr) (m c' : Nat) (f : Int) (w : World) (G0 G1 E0 E1 : Int) (T0 T1 : ByteArray)
    (HL0 : Hid (∀ W, Below w.heap.size w W → Calls Tryz.prog 72 #[DV A n c A' m c' f, .int .i64 0] W fun r w' => r = .returned (.tuple #[SNV G0 T0, .int .i64 E0]) ∧ Below W.heap.size W w'))
    (HL1 : Hid (∀ W, Below w.heap.size w W → Calls Tryz.prog 72 #[DV A n c A' m c' f, .int .i64 1] W fun r w' => r = .returned (.tuple #[SNV G1 T1, .int .i64 E1]) ∧ Below W.heap.size W w'))
    (h0 : E0 = 0) (h1 : E1 = 0) (hg : G0 < G1) :
    Calls Tryz.prog 39 #[DV A n c A' m c' f] w fun r w' => r = .returned (.tuple #[.int .i64 1, SNV G1 T1, .int .i64 0]) ∧ Below w.heap.size w w' := by
  subst h0 h1
  have d1 : decide (G1 ≤ G0) = false := by simp; omega
  go_enter Tryz.func39, Tryz.ntmps39
  go_wp2_with fail
  with_reducible refine (HL0.out _ (((new1 w (D25 A n c A' m c' f)).push (.cells #[.int .i64 0, .string ⟨#[]⟩] 87)))).mono ?_
  rintro r w1 ⟨rfl, b1⟩
  have HB1 := Lib.hid ((((new1 w (D25 A n c A' m c' f)).push (.cells #[.int .i64 0, .string ⟨#[]⟩] 87)).call b1).push (.cells #[.int .i64 G0, .string T0] 87))
  have HY1 := Lib.hid ((((St.new w A n c A' m c' f 25).alloc (.cells #[.int .i64 0, .string ⟨#[]⟩] 87)).call b1).alloc (.cells #[.int .i64 G0, .string T0] 87))
  have HX1 := Lib.hid ((by have := (Bx2.new (w.alloc (D25 A n c A' m c' f)) (.int .i64 0) (.string ⟨#[]⟩) 87).call b1; rwa [World.size_alloc] at this : Bx2 w1 (w.heap.size + 1) (.int .i64 0) (.string ⟨#[]⟩)).alloc (.cells #[.int .i64 G0, .string T0] 87))
  have HA1 := Lib.hid (Bx2.new w1 (.int .i64 G0) (.string T0) 87)
  have hs1 : w.heap.size + 1 < w1.heap.size := by have := b1.size; simp at this; omega
  clear b1 HL0
  obtain ⟨c0, c1_, c2, -, -, -⟩ := HY1.out.box
  have hly := HY1.out.lt
  go_wp2_with fail
  with_reducible refine (HL1.out _ HB1.out).mono ?_
  rintro r w2 ⟨rfl, b2⟩
  have HB2 := Lib.hid ((HB1.out.call b2).push (.cells #[.int .i64 G1, .string T1] 87))
  have HX2 := Lib.hid ((HX1.out.call b2).alloc (.cells #[.int .i64 G1, .string T1] 87))
  have HA2 := Lib.hid ((HA1.out.call b2).alloc (.cells #[.int .i64 G1, .string T1] 87))
  have HC2 := Lib.hid (Bx2.new w2 (.int .i64 G1) (.string T1) 87)
  clear b2 HL1 c0 c1_ c2 hly HB1 HX1 HA1 HY1
  go_upto_if 20 with fail
  generalize hW3 : (w2.alloc (.cells #[.int .i64 G1, .string T1] 87)) = W3 at *
  clear hW3
  generalize w2.heap.size = vb at *
  generalize w1.heap.size = va at *
  obtain ⟨r0, r1, g0, g1⟩ := HX2.out
  obtain ⟨a0, a1, -, -⟩ := HA2.out
  obtain ⟨e0, e1, -, -⟩ := HC2.out
  have hlx := HX2.out.lt
  have hla := HA2.out.lt
  have hlc := HC2.out.lt
  go_wp2_with fail
  go_region
  all_goals (
    go_wp2_with fail
    have hr4 := HX2.out.set2 (.int .i64 G1) (.string T1)
    have hb4 := set2_below HB2.out (show w.heap.size ≤ w.heap.size + 1 by omega) (.int .i64 G1) (.string T1)
    generalize ((W3.setCell ⟨w.heap.size + 1, 0, none⟩ (.int .i64 G1)).setCell ⟨w.heap.size + 1, 1, none⟩ (.string T1)) = wf at *
    obtain ⟨k0, k1, -, -⟩ := hr4
    refine bodyPost_ret (v := .tuple #[.int .i64 1, SNV G1 T1, .int .i64 0]) (by simp [results, Tryz.results39, go_sem, k0, k1]) rfl ?_
    exact ⟨rfl, hb4.drew⟩)

set_option maxHeartbeats 1000000 in
theorem rbest_1b (A : Option Addr) (n c : Nat) (A' : Option Addr) (m c' : Nat) (f : Int) (w : World) (G0 G1 E0 E1 : Int) (T0 T1 : ByteArray)
    (HL0 : Hid (∀ W, Below w.heap.size w W → Calls Tryz.prog 72 #[DV A n c A' m c' f, .int .i64 0] W fun r w' => r = .returned (.tuple #[SNV G0 T0, .int .i64 E0]) ∧ Below W.heap.size W w'))
    (HL1 : Hid (∀ W, Below w.heap.size w W → Calls Tryz.prog 72 #[DV A n c A' m c' f, .int .i64 1] W fun r w' => r = .returned (.tuple #[SNV G1 T1, .int .i64 E1]) ∧ Below W.heap.size W w'))
    (h0 : ¬ E0 = 0) (h2 : ¬ E0 = 2) (h1 : E1 = 0) :
    Calls Tryz.prog 39 #[DV A n c A' m c' f] w fun r w' => r = .returned (.tuple #[.int .i64 1, SNV G1 T1, .int .i64 0]) ∧ Below w.heap.size w w' := by
  subst h1
  have n0 := neq0 h0
  have n2 : (E0 == 2) = false := by simpa using h2
  have n3 : (E0 == 0) = false := by simpa using h0
  go_enter Tryz.func39, Tryz.ntmps39
  go_wp2_with fail
  with_reducible refine (HL0.out _ (((new1 w (D25 A n c A' m c' f)).push (.cells #[.int .i64 0, .string ⟨#[]⟩] 87)))).mono ?_
  rintro r w1 ⟨rfl, b1⟩
  have HB1 := Lib.hid ((((new1 w (D25 A n c A' m c' f)).push (.cells #[.int .i64 0, .string ⟨#[]⟩] 87)).call b1).push (.cells #[.int .i64 G0, .string T0] 87))
  have HY1 := Lib.hid ((((St.new w A n c A' m c' f 25).alloc (.cells #[.int .i64 0, .string ⟨#[]⟩] 87)).call b1).alloc (.cells #[.int .i64 G0, .string T0] 87))
  have HX1 := Lib.hid ((by have := (Bx2.new (w.alloc (D25 A n c A' m c' f)) (.int .i64 0) (.string ⟨#[]⟩) 87).call b1; rwa [World.size_alloc] at this : Bx2 w1 (w.heap.size + 1) (.int .i64 0) (.string ⟨#[]⟩)).alloc (.cells #[.int .i64 G0, .string T0] 87))
  have HA1 := Lib.hid (Bx2.new w1 (.int .i64 G0) (.string T0) 87)
  have hs1 : w.heap.size + 1 < w1.heap.size := by have := b1.size; simp at this; omega
  clear b1 HL0
  obtain ⟨c0, c1_, c2, -, -, -⟩ := HY1.out.box
  have hly := HY1.out.lt
  go_wp2_with fail
  with_reducible refine (HL1.out _ HB1.out).mono ?_
  rintro r w2 ⟨rfl, b2⟩
  have HB2 := Lib.hid ((HB1.out.call b2).push (.cells #[.int .i64 G1, .string T1] 87))
  have HX2 := Lib.hid ((HX1.out.call b2).alloc (.cells #[.int .i64 G1, .string T1] 87))
  have HA2 := Lib.hid ((HA1.out.call b2).alloc (.cells #[.int .i64 G1, .string T1] 87))
  have HC2 := Lib.hid (Bx2.new w2 (.int .i64 G1) (.string T1) 87)
  clear b2 HL1 c0 c1_ c2 hly HB1 HX1 HA1 HY1
  go_upto_if 20 with fail
  generalize hW3 : (w2.alloc (.cells #[.int .i64 G1, .string T1] 87)) = W3 at *
  clear hW3
  generalize w2.heap.size = vb at *
  generalize w1.heap.size = va at *
  obtain ⟨r0, r1, g0, g1⟩ := HX2.out
  obtain ⟨a0, a1, -, -⟩ := HA2.out
  obtain ⟨e0, e1, -, -⟩ := HC2.out
  have hlx := HX2.out.lt
  have hla := HA2.out.lt
  have hlc := HC2.out.lt
  go_wp2_with fail
  go_region
  all_goals (
    go_wp2_with fail
    have hr4 := HX2.out.set2 (.int .i64 G1) (.string T1)
    have hb4 := set2_below HB2.out (show w.heap.size ≤ w.heap.size + 1 by omega) (.int .i64 G1) (.string T1)
    generalize ((W3.setCell ⟨w.heap.size + 1, 0, none⟩ (.int .i64 G1)).setCell ⟨w.heap.size + 1, 1, none⟩ (.string T1)) = wf at *
    obtain ⟨k0, k1, -, -⟩ := hr4
    refine bodyPost_ret (v := .tuple #[.int .i64 1, SNV G1 T1, .int .i64 0]) (by simp [results, Tryz.results39, go_sem, k0, k1]) rfl ?_
    exact ⟨rfl, hb4.drew⟩)

def bsel (E0 G0 : Int) (T0 : ByteArray) (E1 G1 : Int) (T1 : ByteArray) : Bst :=
  if E1 = 0 ∧ (if E0 = 0 ∧ (0 : Int) < G0 then (⟨0, G0, T0, 0⟩ : Bst) else ⟨0, 0, ⟨#[]⟩, 6⟩).g < G1 then ⟨1, G1, T1, 0⟩ else (if E0 = 0 ∧ (0 : Int) < G0 then (⟨0, G0, T0, 0⟩ : Bst) else ⟨0, 0, ⟨#[]⟩, 6⟩)

theorem rbest_any (A : Option Addr) (n c : Nat) (A' : Option Addr) (m c' : Nat) (f : Int) (S : List ByteArray) (V : List Wr) (w : World) (hD : Dev w A n c A' m c' f S V) :
    Calls Tryz.prog 39 #[DV A n c A' m c' f] w (RetB w (bestR S V f)) := by
  have HL0 := Lib.hid (fun W (hb : Below w.heap.size w W) => rload_any A n c A' m c' f S V 0 W (hD.below hb))
  have HL1 := Lib.hid (fun W (hb : Below w.heap.size w W) => rload_any A n c A' m c' f S V 1 W (hD.below hb))
  unfold RetN at HL0 HL1
  have hg0 := loadD_gen (S := S) (V := V) (f := f) (z := 0)
  have hg1 := loadD_gen (S := S) (V := V) (f := f) (z := 1)
  unfold RetB bestR
  by_cases hc : chk S V f = 0
  · rw [if_pos hc]
    have m0 : loadDE S V f 0 ≠ 2 := loadD_ne (by unfold mayL; rw [hc]; rfl)
    have e2 : bst S V f 2 = bsel (loadDE S V f 0) (loadDG S V f 0) (loadDT S V f 0) (loadDE S V f 1) (loadDG S V f 1) (loadDT S V f 1) := rfl
    rw [e2]
    clear e2 hD
    generalize loadDE S V f 0 = E0 at *
    generalize loadDG S V f 0 = G0 at *
    generalize loadDT S V f 0 = T0 at *
    generalize loadDE S V f 1 = E1 at *
    generalize loadDG S V f 1 = G1 at *
    generalize loadDT S V f 1 = T1 at *
    by_cases h0 : E0 = 0
    · have z0 := hg0 h0
      by_cases h1 : E1 = 0
      · by_cases hg : G0 < G1
        · rw [show bsel E0 G0 T0 E1 G1 T1 = ⟨1, G1, T1, 0⟩ from by unfold bsel; simp [h0, h1, z0, hg]]; exact rbest_1a A n c A' m c' f w G0 G1 E0 E1 T0 T1 HL0 HL1 h0 h1 hg
        · rw [show bsel E0 G0 T0 E1 G1 T1 = ⟨0, G0, T0, 0⟩ from by unfold bsel; simp [h0, h1, z0, hg]]; exact rbest_0b A n c A' m c' f w G0 G1 E0 E1 T0 T1 HL0 HL1 h0 h1 (by omega)
      · rw [show bsel E0 G0 T0 E1 G1 T1 = ⟨0, G0, T0, 0⟩ from by unfold bsel; simp [h0, h1, z0]]; exact rbest_0a A n c A' m c' f w G0 G1 E0 E1 T0 T1 HL0 HL1 h0 h1
    · by_cases h1 : E1 = 0
      · rw [show bsel E0 G0 T0 E1 G1 T1 = ⟨1, G1, T1, 0⟩ from by unfold bsel; simp [h0, h1, hg1 h1]]; exact rbest_1b A n c A' m c' f w G0 G1 E0 E1 T0 T1 HL0 HL1 h0 m0 h1
      · rw [show bsel E0 G0 T0 E1 G1 T1 = ⟨0, 0, ⟨#[]⟩, 6⟩ from by unfold bsel; simp [h0, h1]]; exact rbest_6 A n c A' m c' f w G0 G1 E0 E1 T0 T1 HL0 HL1 h0 m0 h1
  · rw [if_neg hc]
    have m0 : loadDE S V f 0 = 2 := by unfold loadDE mayL; rw [if_neg (by simp [hc])]
    exact rbest_2 A n c A' m c' f w _ _ _ _ _ _ HL0 HL1 m0

set_option maxHeartbeats 1000000 in
theorem same_any (A : Option Addr) (m c : Nat) (B : Option Addr) (m' c' : Nat) (L : List ByteArray) (w : World) (h1 : RV w A m 1 (SV L)) (h2 : RV w B m' 1 (SV L)) (hm : (m : Int) ≤ 2000) :
    Calls Tryz.prog 13 #[.slice A m c, .slice B m' c'] w fun r w' => r = .returned (.bool true) ∧ Below w.heap.size w w' := by
  have HL := Lib.hid h1.sec
  obtain rfl : m = m' := by rw [← h1.sec, ← h2.sec]
  have H1 := Lib.hid h1
  have H2 := Lib.hid h2
  clear h1 h2
  go_enter Tryz.func13, Tryz.ntmps13
  go_wp2_with fail
  go_loopw [5] (fun s5 wr => ∃ i : Nat, i ≤ m ∧ s5 = .int .i64 i ∧ Hid (Below w.heap.size w wr)) (fun s5 _ => m - (intOf s5).toNat)
  case atStart => exact ⟨0, Nat.zero_le _, rfl, Lib.hid (Below.refl _ _)⟩
  case round =>
    obtain ⟨i, hi, rfl, HI⟩ := hrel
    by_cases hlt : i < m
    · have hil : i < L.length := by have := HL.out; omega
      obtain ⟨b, off, rfl, hb, ha⟩ := (H1.out.below HI.out).2 (by omega)
      obtain ⟨b', off', rfl, hb', ha'⟩ := (H2.out.below HI.out).2 (by omega)
      have t0 := ha i (by rw [SV_length]; exact hil)
      have t1 := ha' i (by rw [SV_length]; exact hil)
      rw [show (SV L)[i]'(by rw [SV_length]; exact hil) = .string L[i] from by simp [SV]] at t0 t1
      clear ha ha'
      have HId := Lib.hid HI.out.drew
      generalize L[i] = x at *
      go_wp2_with fail
      go_region
      all_goals (
        go_wp2_with fail
        go_roundw
        case rel => exact ⟨i + 1, by omega, by go_num, HId⟩
        case measure => simp [intOf]; omega)
    · obtain rfl : i = m := by omega
      go_wp2_with fail
      go_ret
      exact ⟨rfl, HI.out⟩

end Go.Proofs.YtkglolnghihegaaGreatDoor.Slt
