/- The walk of WeekGoes. -/
import Derived.Test.YtldpnidegicmeaaDoorWeekLaw
namespace Go.Proofs.YtldpnidegicmeaaDoor.Wk
open Go.RowKit Civ

/-- What is answered of a day whose week is known. -/
theorem Wk.ans {n w y k b : Int} (h : Wk n w y k b) (hd : dayB n = true) (hw : wkB w = true) :
    numY n w = y ∧ numK n w = k ∧ bckA n w = k - wksW y w - 1 ∧ begA n w = b := by
  obtain ⟨n1, n2, n3⟩ := num_of hd hw
  rw [n1, n2, n3, begA_of hd hw, h.yr, h.no, h.bg]
  exact ⟨rfl, rfl, rfl, rfl⟩

set_option maxRecDepth 100000 in
set_option maxHeartbeats 2000000 in
theorem walk_goes (k a : Int) (hk0 : 0 ≤ k) (hk1 : k < 4294967296) (ha0 : 0 ≤ a) (w : World) (hT : CTab w) :
    Calls Tryd.prog 5 #[.int .u32 k, .int .u8 a] w fun r w' => r = .returned (.bool true) ∧ w = w' := by
  have HT := Lib.hid hT
  clear hT
  have et : k.tmod 3652058 = k % 3652058 := Int.tmod_eq_emod_of_nonneg hk0
  have eu : a.tmod 7 = a % 7 := Int.tmod_eq_emod_of_nonneg ha0
  have n0 : 0 ≤ k % 3652058 := by omega
  have n1 : k % 3652058 ≤ 3652057 := by omega
  have x0 : 0 ≤ a % 7 := by omega
  have x1 : a % 7 ≤ 6 := by omega
  generalize hn : k % 3652058 = n at *
  generalize hx : a % 7 = x at *
  have HN := Lib.hid hn
  have HX := Lib.hid hx
  clear hn hx
  have hw : wkB x = true := wkB_of ⟨x0, x1⟩
  have hd : dayB n = true := dayB_of ⟨n0, by omega⟩
  have hd2 : dayB (n + 1) = true := dayB_of ⟨by omega, by omega⟩
  have h := wk_is n x
  obtain ⟨y1, y2⟩ := wyOf_may (n := n) (w := x) n0 (by omega)
  obtain ⟨z1, z2⟩ := wyOf_may (n := n + 1) (w := x) (by omega) (by omega)
  have b1 := begW_le n x
  have b2 := begW_ge n x
  generalize wyOf n x = y at *
  generalize wkOf n x = i at *
  generalize begW n x = b at *
  obtain ⟨e1, e2, e3, e4⟩ := h.ans hd hw
  have H1 := Lib.hid (fun W hW => number_any n x W hW)
  have H2 := Lib.hid (fun W hW => number_any (n + 1) x W hW)
  have H3 := Lib.hid (fun W hW => weeks_any y x W hW)
  have H4 := Lib.hid (fun W hW => back_any n x W hW)
  have H5 := Lib.hid (fun W => beg_any n x W)
  have H6 := Lib.hid (fun W => beg_any (n + 1) x W)
  have H7 := Lib.hid (fun W hW => first_week y x W hW)
  have H8 := Lib.hid (fun W => weekday_any (n + 1) W)
  have H9 := Lib.hid (fun W hW => awake_any W hW)
  rw [e1, e2] at H1
  rw [wksA_of y1 y2 hw] at H3
  rw [e3] at H4
  rw [e4] at H5
  rw [fstA_of y1 (by omega) hw] at H7
  rw [show wkA (n + 1) = (n + 1) % 7 by simp [wkA, hd2]] at H8
  have hnx := h.next
  obtain ⟨-, q1, q2⟩ := wksW_is y x
  have f0 := fstW_lo x y1
  have f1 := fstW_hi x (show y ≤ 10001 by omega)
  have k1 := h.k1; have k2 := h.k2; have kb := h.is
  clear e1 e2 e3 e4 h
  generalize wksW y x = q at *
  generalize fstW y x = f at *
  subst kb
  have r0 : 0 ≤ (n + 1) % 7 := by omega
  have r1 : (n + 1) % 7 ≤ 6 := by omega
  rcases hnx with ⟨g, hN⟩ | ⟨g, g2, g3, hN⟩ | ⟨g, g2, g3, hN⟩
  · obtain ⟨d1, d2, -, d4⟩ := hN.ans hd2 hw
    rw [d1, d2] at H2
    rw [d4] at H6
    have g' : ((n + 1) % 7 != x) = true := by simp; omega
    clear g hN d1 d2 d4 z1 z2 hw hd hd2
    generalize (n + 1) % 7 = r at *
    go_enter Tryd.func5, Tryd.ntmps5
    have en : k % 3652058 = n := HN.out
    have ex : a % 7 = x := HX.out
    go_wp2_with (first | (go_at_call 7; first | (with_reducible refine (H2.out _ HT.out).mono ?_; rintro e w' ⟨rfl, rfl⟩) | (with_reducible refine (H1.out _ HT.out).mono ?_; rintro e w' ⟨rfl, rfl⟩)) | (go_at_call 16; with_reducible refine (H3.out _ HT.out).mono ?_; rintro e w' ⟨rfl, rfl⟩) | (go_at_call 11; with_reducible refine (H4.out _ HT.out).mono ?_; rintro e w' ⟨rfl, rfl⟩) | (go_at_call 9; first | (with_reducible refine (H6.out _).mono ?_; rintro e w' ⟨rfl, rfl⟩) | (with_reducible refine (H5.out _).mono ?_; rintro e w' ⟨rfl, rfl⟩)) | (go_at_call 14; with_reducible refine (H7.out _ HT.out).mono ?_; rintro e w' ⟨rfl, rfl⟩) | (go_at_call 18; with_reducible refine (H8.out _).mono ?_; rintro e w' ⟨rfl, rfl⟩) | (go_at_call 13; with_reducible refine (H9.out _ HT.out).mono ?_; rintro e w' ⟨rfl, rfl⟩))
    go_ret
    exact ⟨rfl, rfl⟩
  · obtain ⟨d1, d2, -, d4⟩ := hN.ans hd2 hw
    rw [d1, d2] at H2
    rw [d4] at H6
    rw [show (n + 1) % 7 = x by omega] at H8
    subst g3
    clear g hN d1 d2 d4 z1 z2 hw hd hd2
    go_enter Tryd.func5, Tryd.ntmps5
    have en : k % 3652058 = n := HN.out
    have ex : a % 7 = x := HX.out
    go_wp2_with (first | (go_at_call 7; first | (with_reducible refine (H2.out _ HT.out).mono ?_; rintro e w' ⟨rfl, rfl⟩) | (with_reducible refine (H1.out _ HT.out).mono ?_; rintro e w' ⟨rfl, rfl⟩)) | (go_at_call 16; with_reducible refine (H3.out _ HT.out).mono ?_; rintro e w' ⟨rfl, rfl⟩) | (go_at_call 11; with_reducible refine (H4.out _ HT.out).mono ?_; rintro e w' ⟨rfl, rfl⟩) | (go_at_call 9; first | (with_reducible refine (H6.out _).mono ?_; rintro e w' ⟨rfl, rfl⟩) | (with_reducible refine (H5.out _).mono ?_; rintro e w' ⟨rfl, rfl⟩)) | (go_at_call 14; with_reducible refine (H7.out _ HT.out).mono ?_; rintro e w' ⟨rfl, rfl⟩) | (go_at_call 18; with_reducible refine (H8.out _).mono ?_; rintro e w' ⟨rfl, rfl⟩) | (go_at_call 13; with_reducible refine (H9.out _ HT.out).mono ?_; rintro e w' ⟨rfl, rfl⟩))
    go_ret
    exact ⟨rfl, rfl⟩
  · obtain ⟨d1, d2, -, d4⟩ := hN.ans hd2 hw
    rw [d1, d2] at H2
    rw [d4] at H6
    rw [show (n + 1) % 7 = x by omega] at H8
    have g4 : (i == q) = false := by simpa using g3
    clear g hN d1 d2 d4 z1 z2 hw hd hd2
    go_enter Tryd.func5, Tryd.ntmps5
    have en : k % 3652058 = n := HN.out
    have ex : a % 7 = x := HX.out
    go_wp2_with (first | (go_at_call 7; first | (with_reducible refine (H2.out _ HT.out).mono ?_; rintro e w' ⟨rfl, rfl⟩) | (with_reducible refine (H1.out _ HT.out).mono ?_; rintro e w' ⟨rfl, rfl⟩)) | (go_at_call 16; with_reducible refine (H3.out _ HT.out).mono ?_; rintro e w' ⟨rfl, rfl⟩) | (go_at_call 11; with_reducible refine (H4.out _ HT.out).mono ?_; rintro e w' ⟨rfl, rfl⟩) | (go_at_call 9; first | (with_reducible refine (H6.out _).mono ?_; rintro e w' ⟨rfl, rfl⟩) | (with_reducible refine (H5.out _).mono ?_; rintro e w' ⟨rfl, rfl⟩)) | (go_at_call 14; with_reducible refine (H7.out _ HT.out).mono ?_; rintro e w' ⟨rfl, rfl⟩) | (go_at_call 18; with_reducible refine (H8.out _).mono ?_; rintro e w' ⟨rfl, rfl⟩) | (go_at_call 13; with_reducible refine (H9.out _ HT.out).mono ?_; rintro e w' ⟨rfl, rfl⟩))
    go_ret
    exact ⟨rfl, rfl⟩
end Go.Proofs.YtldpnidegicmeaaDoor.Wk
