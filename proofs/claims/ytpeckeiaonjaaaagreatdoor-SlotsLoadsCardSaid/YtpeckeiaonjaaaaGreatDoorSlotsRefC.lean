/- Contract of the document's Load of package slots. -/
import Derived.Test.YtpeckeiaonjaaaaGreatDoorSlotsRefB
import Derived.Test.YtpeckeiaonjaaaaGreatDoorSlotsLoad
import Derived.Test.YtpeckeiaonjaaaaGreatDoorSheafRJoin
namespace Go.Proofs.YtpeckeiaonjaaaaGreatDoor.Slt
open Go.RowKit Go.Proofs.YtpeckeiaonjaaaaGreatDoor.Dsk Go.Proofs.YtpeckeiaonjaaaaGreatDoor.Sht Go.Proofs.YtpeckeiaonjaaaaGreatDoor.Shf

set_option maxHeartbeats 1000000 in
theorem rload_no (A : Option Addr) (n c : Nat) (A' : Option Addr) (m c' : Nat) (f : Int) (S : List ByteArray) (V : List Wr) (z : Int) (w : World) (hD : Dev w A n c A' m c' f S V) (h : mayL S V f z = false) :
    Calls Tryz.prog 15 #[DV A n c A' m c' f, .int .i64 z] w (RetN w 0 ⟨#[]⟩ 2) := by
  have HC := Lib.hid (rcheck_any A n c A' m c' f S V _ ((hD.new (D25 A n c A' m c' f)).new (.cells #[.int .i64 0, .string ⟨#[]⟩] 53)))
  unfold mayL at h
  by_cases hc : chk S V f = 0
  · have hz : isS z = false := by simpa [hc] using h
    have hz0 : ¬ z = 0 := by intro e; subst e; simp [isS] at hz
    have hz1 : ¬ z = 1 := by intro e; subst e; simp [isS] at hz
    have hzb0 : (z == 0) = false := by simpa using hz0
    have hzb1 : (z == 1) = false := by simpa using hz1
    have hzn0 : (z != 0) = true := by simpa using hz0
    have hzn1 : (z != 1) = true := by simpa using hz1
    rw [hc] at HC
    clear hD h hc hz
    go_enter Tryz.func15, Tryz.ntmps15
    go_wp2_with (go_at_call 46; (with_reducible refine HC.out.mono ?_); rintro e w1 ⟨rfl, hb1⟩; have HB1 := Lib.hid (((new1 w (D25 A n c A' m c' f)).push _).call hb1); have X1 := (by have := (Bx2.new (w.alloc (D25 A n c A' m c' f)) (.int .i64 0) (.string ⟨#[]⟩) 53).call hb1; rwa [World.size_alloc] at this : Bx2 w1 (w.heap.size + 1) (.int .i64 0) (.string ⟨#[]⟩)); have HX := Lib.hid X1; obtain ⟨r0, r1, g0, g1⟩ := X1; obtain ⟨c0, c1_, c2, -, -, -⟩ := ((Box.new w (.slice A n c) (.slice A' m c') (.int .i64 f) 25).call (new1 _ (.cells #[.int .i64 0, .string ⟨#[]⟩] 53))).call hb1; clear hb1)
    have hr4 := HX.out.set2 (.int .i64 0) (.string ⟨#[]⟩)
    have hb4 := set2_below HB1.out (show w.heap.size ≤ w.heap.size + 1 by omega) (.int .i64 0) (.string ⟨#[]⟩)
    generalize ((w1.setCell ⟨w.heap.size + 1, 0, none⟩ (.int .i64 0)).setCell ⟨w.heap.size + 1, 1, none⟩ (.string ⟨#[]⟩)) = wf at *
    obtain ⟨k0, k1, -, -⟩ := hr4
    refine bodyPost_ret (v := .tuple #[SNV 0 ⟨#[]⟩, .int .i64 2]) (by simp [results, Tryz.results15, go_sem, k0, k1]) rfl ?_
    exact ⟨rfl, hb4⟩
  · have hne := neq0 hc
    generalize chk S V f = e0 at *
    clear hD h hc
    go_enter Tryz.func15, Tryz.ntmps15
    go_wp2_with (go_at_call 46; (with_reducible refine HC.out.mono ?_); rintro e w1 ⟨rfl, hb1⟩; have HB1 := Lib.hid (((new1 w (D25 A n c A' m c' f)).push _).call hb1); have X1 := (by have := (Bx2.new (w.alloc (D25 A n c A' m c' f)) (.int .i64 0) (.string ⟨#[]⟩) 53).call hb1; rwa [World.size_alloc] at this : Bx2 w1 (w.heap.size + 1) (.int .i64 0) (.string ⟨#[]⟩)); have HX := Lib.hid X1; obtain ⟨r0, r1, g0, g1⟩ := X1; obtain ⟨c0, c1_, c2, -, -, -⟩ := ((Box.new w (.slice A n c) (.slice A' m c') (.int .i64 f) 25).call (new1 _ (.cells #[.int .i64 0, .string ⟨#[]⟩] 53))).call hb1; clear hb1)
    have hr4 := HX.out.set2 (.int .i64 0) (.string ⟨#[]⟩)
    have hb4 := set2_below HB1.out (show w.heap.size ≤ w.heap.size + 1 by omega) (.int .i64 0) (.string ⟨#[]⟩)
    generalize ((w1.setCell ⟨w.heap.size + 1, 0, none⟩ (.int .i64 0)).setCell ⟨w.heap.size + 1, 1, none⟩ (.string ⟨#[]⟩)) = wf at *
    obtain ⟨k0, k1, -, -⟩ := hr4
    refine bodyPost_ret (v := .tuple #[SNV 0 ⟨#[]⟩, .int .i64 2]) (by simp [results, Tryz.results15, go_sem, k0, k1]) rfl ?_
    exact ⟨rfl, hb4⟩

section
variable (A : Option Addr) (n c : Nat) (A' : Option Addr) (m c' : Nat) (f : Int) (S : List ByteArray) (V : List Wr) (z : Int) (w : World) (hD : Dev w A n c A' m c' f S V) (h : mayL S V f z = true)
include hD h

set_option maxHeartbeats 1000000 in
theorem rload_none (hB : slotB S V f z = []) : Calls Tryz.prog 15 #[DV A n c A' m c' f, .int .i64 z] w (RetN w 0 ⟨#[]⟩ 6) := by
  have HC := Lib.hid (rcheck_any A n c A' m c' f S V _ ((hD.new (D25 A n c A' m c' f)).new (.cells #[.int .i64 0, .string ⟨#[]⟩] 53)))
  have hmay := h
  unfold mayL at hmay
  obtain ⟨hc, hz⟩ : chk S V f = 0 ∧ isS z = true := by simpa using hmay
  have hz := isS_yes hz
  rw [hc] at HC
  have HZ := Lib.hid (fun W => rsize_any n W)
  have hn := hD.sec.sec
  have HD := Lib.hid (fun W p q (hb : Below w.heap.size w W) (hp : p = z * sizR n) (hq : q = (z + 1) * sizR n) => (by
    subst hp hq
    have := rdrain_any A n c A' m c' f S V (z * sizR n) ((z + 1) * sizR n) W (hD.below hb)
    rw [← hn] at this ⊢
    rwa [show drainD S V f (z * sizR S.length) ((z + 1) * sizR S.length) = ([] : List ByteArray) from hB] at this : Calls Tryz.prog 20 #[DV A n c A' m c' f, .int .i64 p, .int .i64 q] W (RetT W (([] : List ByteArray)))))
  have hy1 := sizR_nonneg n
  have hy2 := sizR_le n
  generalize sizR n = y at *
  obtain ⟨N, hN⟩ : ∃ N, N = 0 := ⟨_, rfl⟩
  have HN : Hid (([] : List ByteArray).length = N) := Lib.hid hN.symm
  clear hD h hc hmay hB hn
  rcases hz with rfl | rfl
  all_goals (
    go_enter Tryz.func15, Tryz.ntmps15
    go_wp2_with (first | (go_at_call 46; (with_reducible refine HC.out.mono ?_); rintro e w1 ⟨rfl, hb1⟩; have HB1 := Lib.hid (((new1 w (D25 A n c A' m c' f)).push _).call hb1); have X1 := (by have := (Bx2.new (w.alloc (D25 A n c A' m c' f)) (.int .i64 0) (.string ⟨#[]⟩) 53).call hb1; rwa [World.size_alloc] at this : Bx2 w1 (w.heap.size + 1) (.int .i64 0) (.string ⟨#[]⟩)); have HX := Lib.hid X1; obtain ⟨r0, r1, g0, g1⟩ := X1; obtain ⟨c0, c1_, c2, -, -, -⟩ := ((Box.new w (.slice A n c) (.slice A' m c') (.int .i64 f) 25).call (new1 _ (.cells #[.int .i64 0, .string ⟨#[]⟩] 53))).call hb1; clear hb1) | (go_at_call 24; (with_reducible refine (HZ.out _).mono ?_); rintro r w2 ⟨rfl, rfl⟩))
    with_reducible refine (HD.out _ _ _ HB1.out (by omega) (by omega)).mono ?_
    rintro r w2 ⟨B1, m1, cc1, rfl, hr1, b2⟩
    have HB2 := Lib.hid (HB1.out.call b2)
    have HX2 := Lib.hid (HX.out.call b2)
    obtain rfl : N = m1 := by rw [← HN.out]; exact hr1.sec
    have HR := Lib.hid hr1
    clear b2 hr1 HD HX HB1 HC HZ r0 r1 g0 g1 c0 c1_ c2
    obtain ⟨r0, r1, g0, g1⟩ := HX2.out
    have hlx := HX2.out.lt
    subst hN
    go_wp2_with fail
    have hr4 := HX2.out.set2 (.int .i64 0) (.string ⟨#[]⟩)
    have hb4 := set2_below HB2.out (show w.heap.size ≤ w.heap.size + 1 by omega) (.int .i64 0) (.string ⟨#[]⟩)
    generalize ((w2.setCell ⟨w.heap.size + 1, 0, none⟩ (.int .i64 0)).setCell ⟨w.heap.size + 1, 1, none⟩ (.string ⟨#[]⟩)) = wf at *
    obtain ⟨k0, k1, -, -⟩ := hr4
    refine bodyPost_ret (v := .tuple #[SNV 0 ⟨#[]⟩, .int .i64 6]) (by simp [results, Tryz.results15, go_sem, k0, k1]) rfl ?_
    exact ⟨rfl, hb4⟩)

set_option maxHeartbeats 4000000 in
theorem rload_some (s : ByteArray) (B : List ByteArray) (hB : slotB S V f z = s :: B) (G : Int) (T : ByteArray) (E : Int)
    (hG : loadG (s :: B) = G) (hTx : loadT' (s :: B) = T) (hE : loadE (s :: B) = E) :
    Calls Tryz.prog 15 #[DV A n c A' m c' f, .int .i64 z] w (RetN w G T E) := by
  have HC := Lib.hid (rcheck_any A n c A' m c' f S V _ ((hD.new (D25 A n c A' m c' f)).new (.cells #[.int .i64 0, .string ⟨#[]⟩] 53)))
  have hmay := h
  unfold mayL at hmay
  obtain ⟨hc, hz⟩ : chk S V f = 0 ∧ isS z = true := by simpa using hmay
  have hz := isS_yes hz
  rw [hc] at HC
  have HZ := Lib.hid (fun W => rsize_any n W)
  have hn := hD.sec.sec
  have HD := Lib.hid (fun W p q (hb : Below w.heap.size w W) (hp : p = z * sizR n) (hq : q = (z + 1) * sizR n) => (by
    subst hp hq
    have := rdrain_any A n c A' m c' f S V (z * sizR n) ((z + 1) * sizR n) W (hD.below hb)
    rw [← hn] at this ⊢
    rwa [show drainD S V f (z * sizR S.length) ((z + 1) * sizR S.length) = s :: B from hB] at this : Calls Tryz.prog 20 #[DV A n c A' m c' f, .int .i64 p, .int .i64 q] W (RetT W (s :: B))))
  have hy1 := sizR_nonneg n
  have hy2 := sizR_le n
  generalize sizR n = y at *
  have hlen : ((s :: B).length : Int) ≤ 1000 := by
    have h1 := drainL_len (part (secsD S V) (z * sizR S.length).toNat ((z + 1) * sizR S.length).toNat)
    have h2 : (part (secsD S V) (z * sizR S.length).toNat ((z + 1) * sizR S.length).toNat).length ≤ S.length := by
      unfold part; simp [secsD]; omega
    have h3 : slotB S V f z = drainD S V f (z * sizR S.length) ((z + 1) * sizR S.length) := rfl
    rw [hB] at h3
    unfold drainD at h3
    obtain ⟨⟨-, h4, -⟩, -⟩ := chk_ok hc
    split at h3
    · rw [← h3] at h1; omega
    · cases h3
  unfold loadG at hG
  unfold loadT' at hTx
  rw [hE] at hG hTx
  dsimp only at hG
  unfold loadE at hE
  obtain ⟨N, hN⟩ : ∃ N, (s :: B).length = N := ⟨_, rfl⟩
  rw [hN] at hlen
  have hN1 : 0 < N := by simp at hN; omega
  have hN0 : ((N : Int) == 0) = false := by simp; omega
  have HN := Lib.hid hN
  have HRd := Lib.hid (fun W => rread_any s W)
  unfold RetR partV at HRd
  have hget : ∀ w' A', RV w' A' N 1 (SV (s :: B)) → ∃ b off, A' = some ⟨b, off, none⟩ ∧ b < w'.heap.size ∧ w'.cell? ⟨b, off, none⟩ = some (.string s) := fun w' A' hr => by
    obtain ⟨b, off, h1, h2, h3⟩ := hr.secAt (k := 0) hN1 (by simp)
    exact ⟨b, off, h1, h2, h3⟩
  have HG := Lib.hid hget
  clear hD h hc hmay hB hN hget hn
  dsimp only at hE
  by_cases h1 : errR s = 0
  · rw [if_pos h1] at hE
    rw [if_pos h1, h1] at HRd
    have HJ := Lib.hid (fun W A' cc hr => rjoin_any 1 (gA s) 0 A' N cc (s :: B) W hr hlen)
    unfold RetJ at HJ
    generalize errJ 1 (gA s) 0 (s :: B) = ej at *
    generalize kA s = ks at *
    generalize gA s = gs at *
    generalize nA s = ns at *
    generalize aA s = ap at *
    generalize oA s = os at *
    generalize dA s = ds at *
    by_cases hks : ks = 1
    · subst hks
      by_cases hns : ns = 0
      · subst hns
        rw [if_pos ⟨rfl, rfl⟩] at hE
        rcases hz with rfl | rfl
        all_goals (
          go_enter Tryz.func15, Tryz.ntmps15
          go_wp2_with (first | (go_at_call 46; (with_reducible refine HC.out.mono ?_); rintro e w1 ⟨rfl, hb1⟩; have HB1 := Lib.hid (((new1 w (D25 A n c A' m c' f)).push _).call hb1); have X1 := (by have := (Bx2.new (w.alloc (D25 A n c A' m c' f)) (.int .i64 0) (.string ⟨#[]⟩) 53).call hb1; rwa [World.size_alloc] at this : Bx2 w1 (w.heap.size + 1) (.int .i64 0) (.string ⟨#[]⟩)); have HX := Lib.hid X1; obtain ⟨r0, r1, g0, g1⟩ := X1; obtain ⟨c0, c1_, c2, -, -, -⟩ := ((Box.new w (.slice A n c) (.slice A' m c') (.int .i64 f) 25).call (new1 _ (.cells #[.int .i64 0, .string ⟨#[]⟩] 53))).call hb1; clear hb1) | (go_at_call 24; (with_reducible refine (HZ.out _).mono ?_); rintro r w2 ⟨rfl, rfl⟩))
          with_reducible refine (HD.out _ _ _ HB1.out (by omega) (by omega)).mono ?_
          rintro r w2 ⟨B1, m1, cc1, rfl, hr1, b2⟩
          have HB2 := Lib.hid (HB1.out.call b2)
          have HX2 := Lib.hid (HX.out.call b2)
          obtain rfl : N = m1 := by rw [← HN.out]; exact hr1.sec
          have HR := Lib.hid hr1
          clear b2 hr1 HD HX HB1 HC HZ r0 r1 g0 g1 c0 c1_ c2
          obtain ⟨r0, r1, g0, g1⟩ := HX2.out
          have hlx := HX2.out.lt
          obtain ⟨b, off, rfl, hb, hcell⟩ := HG.out _ _ HR.out
          go_wp2_with fail
          with_reducible refine (HRd.out _).mono ?_
          rintro r w3 ⟨rfl, b3⟩
          have HB3 := Lib.hid ((HB2.out.call b3).push (.cells #[.int .u8 1, .int .i64 gs, .int .i64 0, .int .i64 ap, .int .i64 os, .string ds] 105))
          have HX3 := Lib.hid ((HX2.out.call b3).alloc (.cells #[.int .u8 1, .int .i64 gs, .int .i64 0, .int .i64 ap, .int .i64 os, .string ds] 105))
          have HR3 := Lib.hid ((HR.out.below b3).below (new1 _ (.cells #[.int .u8 1, .int .i64 gs, .int .i64 0, .int .i64 ap, .int .i64 os, .string ds] 105)))
          have HQ3 := Lib.hid (Box6.new w3 (.int .u8 1) (.int .i64 gs) (.int .i64 0) (.int .i64 ap) (.int .i64 os) (.string ds) 105)
          have hlq0 : w3.heap.size < (w3.alloc (.cells #[.int .u8 1, .int .i64 gs, .int .i64 0, .int .i64 ap, .int .i64 os, .string ds] 105)).heap.size := by simp
          clear b3 HB2 HX2 HR HRd r0 r1 g0 g1 hlx
          go_upto_if 51 with fail
          generalize hW4 : (w3.alloc (.cells #[.int .u8 1, .int .i64 gs, .int .i64 0, .int .i64 ap, .int .i64 os, .string ds] 105)) = W4 at *
          clear hW4
          have hlq := hlq0
          clear hlq0
          obtain ⟨q0, q1, q2, q3, q4, q5⟩ := HQ3.out
          obtain ⟨r0, r1, g0, g1⟩ := HX3.out
          have hlw := HX3.out.lt
          go_wp2_with fail
          refine (HJ.out _ _ cc1 HR3.out).mono ?_
          rintro r w6 ⟨rfl, hb6⟩
          have HB6 := Lib.hid (HB3.out.call hb6)
          have HX6 := Lib.hid (HX3.out.call hb6)
          clear q0 q1 q2 q3 q4 q5 r0 r1 g0 g1 hlw
          obtain ⟨q0, q1, q2, q3, q4, q5⟩ := HQ3.out.below hb6 hlq
          obtain ⟨r0, r1, g0, g1⟩ := HX6.out
          have hlw := HX6.out.lt
          have hlq6 := Nat.lt_of_lt_of_le hlq hb6.size
          clear hb6 HX3 HR3
          by_cases hej : ej = 0
          · subst hej
            subst hE
            simp only [if_pos] at hG hTx ⊢
            subst hG hTx
            go_wp2_with fail
            have hr4 := HX6.out.set2 (.int .i64 gs) (.string (textU (loadS (s :: B))))
            have hb4 := set2_below HB6.out (show w.heap.size ≤ w.heap.size + 1 by omega) (.int .i64 gs) (.string (textU (loadS (s :: B))))
            generalize ((w6.setCell ⟨w.heap.size + 1, 0, none⟩ (.int .i64 gs)).setCell ⟨w.heap.size + 1, 1, none⟩ (.string (textU (loadS (s :: B))))) = wf at *
            obtain ⟨k0, k1, -, -⟩ := hr4
            refine bodyPost_ret (v := .tuple #[SNV gs (textU (loadS (s :: B))), .int .i64 0]) (by simp [results, Tryz.results15, go_sem, k0, k1]) rfl ?_
            exact ⟨rfl, hb4⟩
          · have hne := neq0 hej
            subst hE
            rw [if_neg hej] at hG hTx
            rw [if_neg hej, if_neg hej]
            subst hG hTx
            go_wp2_with fail
            have hr4 := HX6.out.set2 (.int .i64 0) (.string ⟨#[]⟩)
            have hb4 := set2_below HB6.out (show w.heap.size ≤ w.heap.size + 1 by omega) (.int .i64 0) (.string ⟨#[]⟩)
            generalize ((w6.setCell ⟨w.heap.size + 1, 0, none⟩ (.int .i64 0)).setCell ⟨w.heap.size + 1, 1, none⟩ (.string ⟨#[]⟩)) = wf at *
            obtain ⟨k0, k1, -, -⟩ := hr4
            refine bodyPost_ret (v := .tuple #[SNV 0 ⟨#[]⟩, .int .i64 ej]) (by simp [results, Tryz.results15, go_sem, k0, k1]) rfl ?_
            exact ⟨rfl, hb4⟩)
      · have hnb : (ns == 0) = false := by simpa using hns
        rw [if_neg (fun x => hns x.2)] at hE
        subst hE
        rw [if_neg (by decide)] at hG hTx
        subst hG hTx
        rcases hz with rfl | rfl
        all_goals (
          go_enter Tryz.func15, Tryz.ntmps15
          go_wp2_with (first | (go_at_call 46; (with_reducible refine HC.out.mono ?_); rintro e w1 ⟨rfl, hb1⟩; have HB1 := Lib.hid (((new1 w (D25 A n c A' m c' f)).push _).call hb1); have X1 := (by have := (Bx2.new (w.alloc (D25 A n c A' m c' f)) (.int .i64 0) (.string ⟨#[]⟩) 53).call hb1; rwa [World.size_alloc] at this : Bx2 w1 (w.heap.size + 1) (.int .i64 0) (.string ⟨#[]⟩)); have HX := Lib.hid X1; obtain ⟨r0, r1, g0, g1⟩ := X1; obtain ⟨c0, c1_, c2, -, -, -⟩ := ((Box.new w (.slice A n c) (.slice A' m c') (.int .i64 f) 25).call (new1 _ (.cells #[.int .i64 0, .string ⟨#[]⟩] 53))).call hb1; clear hb1) | (go_at_call 24; (with_reducible refine (HZ.out _).mono ?_); rintro r w2 ⟨rfl, rfl⟩))
          with_reducible refine (HD.out _ _ _ HB1.out (by omega) (by omega)).mono ?_
          rintro r w2 ⟨B1, m1, cc1, rfl, hr1, b2⟩
          have HB2 := Lib.hid (HB1.out.call b2)
          have HX2 := Lib.hid (HX.out.call b2)
          obtain rfl : N = m1 := by rw [← HN.out]; exact hr1.sec
          have HR := Lib.hid hr1
          clear b2 hr1 HD HX HB1 HC HZ r0 r1 g0 g1 c0 c1_ c2
          obtain ⟨r0, r1, g0, g1⟩ := HX2.out
          have hlx := HX2.out.lt
          obtain ⟨b, off, rfl, hb, hcell⟩ := HG.out _ _ HR.out
          go_wp2_with fail
          with_reducible refine (HRd.out _).mono ?_
          rintro r w3 ⟨rfl, b3⟩
          have HB3 := Lib.hid ((HB2.out.call b3).push (.cells #[.int .u8 1, .int .i64 gs, .int .i64 ns, .int .i64 ap, .int .i64 os, .string ds] 105))
          have HX3 := Lib.hid ((HX2.out.call b3).alloc (.cells #[.int .u8 1, .int .i64 gs, .int .i64 ns, .int .i64 ap, .int .i64 os, .string ds] 105))
          have HR3 := Lib.hid ((HR.out.below b3).below (new1 _ (.cells #[.int .u8 1, .int .i64 gs, .int .i64 ns, .int .i64 ap, .int .i64 os, .string ds] 105)))
          have HQ3 := Lib.hid (Box6.new w3 (.int .u8 1) (.int .i64 gs) (.int .i64 ns) (.int .i64 ap) (.int .i64 os) (.string ds) 105)
          have hlq0 : w3.heap.size < (w3.alloc (.cells #[.int .u8 1, .int .i64 gs, .int .i64 ns, .int .i64 ap, .int .i64 os, .string ds] 105)).heap.size := by simp
          clear b3 HB2 HX2 HR HRd r0 r1 g0 g1 hlx
          go_upto_if 51 with fail
          generalize hW4 : (w3.alloc (.cells #[.int .u8 1, .int .i64 gs, .int .i64 ns, .int .i64 ap, .int .i64 os, .string ds] 105)) = W4 at *
          clear hW4
          have hlq := hlq0
          clear hlq0
          obtain ⟨q0, q1, q2, q3, q4, q5⟩ := HQ3.out
          obtain ⟨r0, r1, g0, g1⟩ := HX3.out
          have hlw := HX3.out.lt
          go_wp2_with fail
          have hr4 := HX3.out.set2 (.int .i64 0) (.string ⟨#[]⟩)
          have hb4 := set2_below HB3.out (show w.heap.size ≤ w.heap.size + 1 by omega) (.int .i64 0) (.string ⟨#[]⟩)
          generalize ((W4.setCell ⟨w.heap.size + 1, 0, none⟩ (.int .i64 0)).setCell ⟨w.heap.size + 1, 1, none⟩ (.string ⟨#[]⟩)) = wf at *
          obtain ⟨k0, k1, -, -⟩ := hr4
          refine bodyPost_ret (v := .tuple #[SNV 0 ⟨#[]⟩, .int .i64 11]) (by simp [results, Tryz.results15, go_sem, k0, k1]) rfl ?_
          exact ⟨rfl, hb4⟩)
    · have hkb : ((ks : Int) == 1) = false := by simp; omega
      rw [if_neg (fun x => hks x.1)] at hE
      subst hE
      rw [if_neg (by decide)] at hG hTx
      subst hG hTx
      rcases hz with rfl | rfl
      all_goals (
        go_enter Tryz.func15, Tryz.ntmps15
        go_wp2_with (first | (go_at_call 46; (with_reducible refine HC.out.mono ?_); rintro e w1 ⟨rfl, hb1⟩; have HB1 := Lib.hid (((new1 w (D25 A n c A' m c' f)).push _).call hb1); have X1 := (by have := (Bx2.new (w.alloc (D25 A n c A' m c' f)) (.int .i64 0) (.string ⟨#[]⟩) 53).call hb1; rwa [World.size_alloc] at this : Bx2 w1 (w.heap.size + 1) (.int .i64 0) (.string ⟨#[]⟩)); have HX := Lib.hid X1; obtain ⟨r0, r1, g0, g1⟩ := X1; obtain ⟨c0, c1_, c2, -, -, -⟩ := ((Box.new w (.slice A n c) (.slice A' m c') (.int .i64 f) 25).call (new1 _ (.cells #[.int .i64 0, .string ⟨#[]⟩] 53))).call hb1; clear hb1) | (go_at_call 24; (with_reducible refine (HZ.out _).mono ?_); rintro r w2 ⟨rfl, rfl⟩))
        with_reducible refine (HD.out _ _ _ HB1.out (by omega) (by omega)).mono ?_
        rintro r w2 ⟨B1, m1, cc1, rfl, hr1, b2⟩
        have HB2 := Lib.hid (HB1.out.call b2)
        have HX2 := Lib.hid (HX.out.call b2)
        obtain rfl : N = m1 := by rw [← HN.out]; exact hr1.sec
        have HR := Lib.hid hr1
        clear b2 hr1 HD HX HB1 HC HZ r0 r1 g0 g1 c0 c1_ c2
        obtain ⟨r0, r1, g0, g1⟩ := HX2.out
        have hlx := HX2.out.lt
        obtain ⟨b, off, rfl, hb, hcell⟩ := HG.out _ _ HR.out
        go_wp2_with fail
        with_reducible refine (HRd.out _).mono ?_
        rintro r w3 ⟨rfl, b3⟩
        have HB3 := Lib.hid ((HB2.out.call b3).push (.cells #[.int .u8 ks, .int .i64 gs, .int .i64 ns, .int .i64 ap, .int .i64 os, .string ds] 105))
        have HX3 := Lib.hid ((HX2.out.call b3).alloc (.cells #[.int .u8 ks, .int .i64 gs, .int .i64 ns, .int .i64 ap, .int .i64 os, .string ds] 105))
        have HR3 := Lib.hid ((HR.out.below b3).below (new1 _ (.cells #[.int .u8 ks, .int .i64 gs, .int .i64 ns, .int .i64 ap, .int .i64 os, .string ds] 105)))
        have HQ3 := Lib.hid (Box6.new w3 (.int .u8 ks) (.int .i64 gs) (.int .i64 ns) (.int .i64 ap) (.int .i64 os) (.string ds) 105)
        have hlq0 : w3.heap.size < (w3.alloc (.cells #[.int .u8 ks, .int .i64 gs, .int .i64 ns, .int .i64 ap, .int .i64 os, .string ds] 105)).heap.size := by simp
        clear b3 HB2 HX2 HR HRd r0 r1 g0 g1 hlx
        go_upto_if 51 with fail
        generalize hW4 : (w3.alloc (.cells #[.int .u8 ks, .int .i64 gs, .int .i64 ns, .int .i64 ap, .int .i64 os, .string ds] 105)) = W4 at *
        clear hW4
        have hlq := hlq0
        clear hlq0
        obtain ⟨q0, q1, q2, q3, q4, q5⟩ := HQ3.out
        obtain ⟨r0, r1, g0, g1⟩ := HX3.out
        have hlw := HX3.out.lt
        go_wp2_with fail
        have hr4 := HX3.out.set2 (.int .i64 0) (.string ⟨#[]⟩)
        have hb4 := set2_below HB3.out (show w.heap.size ≤ w.heap.size + 1 by omega) (.int .i64 0) (.string ⟨#[]⟩)
        generalize ((W4.setCell ⟨w.heap.size + 1, 0, none⟩ (.int .i64 0)).setCell ⟨w.heap.size + 1, 1, none⟩ (.string ⟨#[]⟩)) = wf at *
        obtain ⟨k0, k1, -, -⟩ := hr4
        refine bodyPost_ret (v := .tuple #[SNV 0 ⟨#[]⟩, .int .i64 11]) (by simp [results, Tryz.results15, go_sem, k0, k1]) rfl ?_
        exact ⟨rfl, hb4⟩)
  · rw [if_neg h1] at hE
    rw [if_neg h1] at HRd
    have hne := neq0 h1
    subst hE
    rw [if_neg h1] at hG hTx
    subst hG hTx
    clear h1
    rcases hz with rfl | rfl
    all_goals (
      go_enter Tryz.func15, Tryz.ntmps15
      go_wp2_with (first | (go_at_call 46; (with_reducible refine HC.out.mono ?_); rintro e w1 ⟨rfl, hb1⟩; have HB1 := Lib.hid (((new1 w (D25 A n c A' m c' f)).push _).call hb1); have X1 := (by have := (Bx2.new (w.alloc (D25 A n c A' m c' f)) (.int .i64 0) (.string ⟨#[]⟩) 53).call hb1; rwa [World.size_alloc] at this : Bx2 w1 (w.heap.size + 1) (.int .i64 0) (.string ⟨#[]⟩)); have HX := Lib.hid X1; obtain ⟨r0, r1, g0, g1⟩ := X1; obtain ⟨c0, c1_, c2, -, -, -⟩ := ((Box.new w (.slice A n c) (.slice A' m c') (.int .i64 f) 25).call (new1 _ (.cells #[.int .i64 0, .string ⟨#[]⟩] 53))).call hb1; clear hb1) | (go_at_call 24; (with_reducible refine (HZ.out _).mono ?_); rintro r w2 ⟨rfl, rfl⟩))
      with_reducible refine (HD.out _ _ _ HB1.out (by omega) (by omega)).mono ?_
      rintro r w2 ⟨B1, m1, cc1, rfl, hr1, b2⟩
      have HB2 := Lib.hid (HB1.out.call b2)
      have HX2 := Lib.hid (HX.out.call b2)
      obtain rfl : N = m1 := by rw [← HN.out]; exact hr1.sec
      have HR := Lib.hid hr1
      clear b2 hr1 HD HX HB1 HC HZ r0 r1 g0 g1 c0 c1_ c2
      obtain ⟨r0, r1, g0, g1⟩ := HX2.out
      have hlx := HX2.out.lt
      obtain ⟨b, off, rfl, hb, hcell⟩ := HG.out _ _ HR.out
      go_wp2_with fail
      with_reducible refine (HRd.out _).mono ?_
      rintro r w3 ⟨rfl, b3⟩
      have HB3 := Lib.hid ((HB2.out.call b3).push (.cells #[.int .u8 0, .int .i64 0, .int .i64 0, .int .i64 0, .int .i64 0, .string ⟨#[]⟩] 105))
      have HX3 := Lib.hid ((HX2.out.call b3).alloc (.cells #[.int .u8 0, .int .i64 0, .int .i64 0, .int .i64 0, .int .i64 0, .string ⟨#[]⟩] 105))
      clear b3 HB2 HX2 HR HRd r0 r1 g0 g1 hlx
      go_upto_if 51 with fail
      generalize (w3.alloc (.cells #[.int .u8 0, .int .i64 0, .int .i64 0, .int .i64 0, .int .i64 0, .string ⟨#[]⟩] 105)) = W4 at *
      obtain ⟨r0, r1, g0, g1⟩ := HX3.out
      have hlw := HX3.out.lt
      go_wp2_with fail
      have hr4 := HX3.out.set2 (.int .i64 0) (.string ⟨#[]⟩)
      have hb4 := set2_below HB3.out (show w.heap.size ≤ w.heap.size + 1 by omega) (.int .i64 0) (.string ⟨#[]⟩)
      generalize ((W4.setCell ⟨w.heap.size + 1, 0, none⟩ (.int .i64 0)).setCell ⟨w.heap.size + 1, 1, none⟩ (.string ⟨#[]⟩)) = wf at *
      obtain ⟨k0, k1, -, -⟩ := hr4
      refine bodyPost_ret (v := .tuple #[SNV 0 ⟨#[]⟩, .int .i64 (errR s)]) (by simp [results, Tryz.results15, go_sem, k0, k1]) rfl ?_
      exact ⟨rfl, hb4⟩)
end

theorem rload_any (A : Option Addr) (n c : Nat) (A' : Option Addr) (m c' : Nat) (f : Int) (S : List ByteArray) (V : List Wr) (z : Int) (w : World) (hD : Dev w A n c A' m c' f S V) :
    Calls Tryz.prog 15 #[DV A n c A' m c' f, .int .i64 z] w (RetN w (loadDG S V f z) (loadDT S V f z) (loadDE S V f z)) := by
  unfold loadDG loadDT loadDE
  by_cases h : mayL S V f z = true
  · rw [if_pos h, if_pos h, if_pos h]
    cases hB : slotB S V f z with
    | nil => exact rload_none A n c A' m c' f S V z w hD h hB
    | cons s B => exact rload_some A n c A' m c' f S V z w hD h s B hB _ _ _ rfl rfl rfl
  · rw [if_neg h, if_neg h, if_neg h]
    exact rload_no A n c A' m c' f S V z w hD (by simpa using h)

end Go.Proofs.YtpeckeiaonjaaaaGreatDoor.Slt
