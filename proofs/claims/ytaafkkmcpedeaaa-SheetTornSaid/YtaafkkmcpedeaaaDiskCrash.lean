/- Contracts of cutOf, Crash and Arm of package disk. -/
import Derived.Test.YtaafkkmcpedeaaaDiskFlush
namespace Go.Proofs.Ytaafkkmcpedeaaa.Dsk
open Go.RowKit

theorem clamp_lo {z : Int} (h : z < 0) : (clamp z : Int) = 0 := by unfold clamp; omega
theorem clamp_hi {z : Int} (h : 64 < z) : (clamp z : Int) = 64 := by unfold clamp; omega
theorem clamp_in {z : Int} (h : 0 ≤ z) (h2 : z ≤ 64) : (clamp z : Int) = z := by unfold clamp; omega

theorem cut_any (A : Option Addr) (n c : Nat) (zs : List Int) (k : Nat) (w : World) (hR : RV w A n 1 (IV zs)) :
    Calls Try.prog 36 #[.slice A n c, .int .i64 k] w fun e w' => e = .returned (.int .i64 (cutAt zs k)) ∧ w = w' := by
  have hl := hR.ints
  by_cases hlt : k < n
  · have hz : k < zs.length := by omega
    obtain ⟨b, off, rfl, hb, hc⟩ := hR.intAt hlt hz
    have HE := Lib.hid (show cutAt zs k = clamp zs[k] by unfold cutAt; rw [dif_pos hz])
    generalize zs[k] = z at *
    have i1 : (k : Int) < (n : Int) := by omega
    clear hR hl hz
    by_cases h1 : z < 0
    · have HF := Lib.hid (clamp_lo h1)
      go_enter Try.func36, Try.ntmps36
      go_wp2
      go_ret
      exact ⟨ret_int (by rw [HE.out, HF.out]), rfl⟩
    · by_cases h2 : 64 < z
      · have HF := Lib.hid (clamp_hi h2)
        go_enter Try.func36, Try.ntmps36
        go_wp2
        go_ret
        exact ⟨ret_int (by rw [HE.out, HF.out]), rfl⟩
      · have HF := Lib.hid (clamp_in (show 0 ≤ z by omega) (show z ≤ 64 by omega))
        go_enter Try.func36, Try.ntmps36
        go_wp2
        go_ret
        exact ⟨ret_int (by rw [HE.out, HF.out]), rfl⟩
  · have HE := Lib.hid (show cutAt zs k = 0 by unfold cutAt; rw [dif_neg (by omega)])
    clear hR hl
    go_enter Try.func36, Try.ntmps36
    go_wp2
    go_ret
    exact ⟨ret_int (by rw [HE.out]; rfl), rfl⟩

theorem crash_no (A : Option Addr) (n c : Nat) (A' : Option Addr) (m c' : Nat) (f : Int) (S : List ByteArray) (W : List Wr) (B : Option Addr) (q d : Nat) (w : World) (hD : Dev w A n c A' m c' f S W) (h : ¬ chk S W f = 0) :
    Calls Try.prog 21 #[DV A n c A' m c' f, .slice B q d] w (RetD w S W f) := by
  have HC := Lib.hid (check_any A n c A' m c' f S W _ ((hD.new (D33 A n c A' m c' f)).new (D33 none 0 0 none 0 0 0)))
  have HD := Lib.hid hD
  have hne := neq0 h
  generalize chk S W f = e0 at *
  clear hD h
  go_enter Try.func21, Try.ntmps21
  go_wp2_with fail
  refine HC.out.mono ?_
  rintro e w1 ⟨rfl, hb1⟩
  have HB := Lib.hid (((new1 w _).push _).call hb1)
  obtain ⟨hc, hf⟩ := bcell hb1
  clear hb1
  go_wp2
  have HB3 := ((HB.out.setCell (p := ⟨w.heap.size + 1, 0, none⟩) (by simp) (.slice A n c)).setCell (p := ⟨w.heap.size + 1, 1, none⟩) (by simp) (.slice A' m c')).setCell (p := ⟨w.heap.size + 1, 2, none⟩) (by simp) (.int .i64 f)
  exact bodyPost_ret (v := DV A n c A' m c' f) (by simp [results, Try.results21, go_sem, hc]) rfl ⟨A, n, c, A', m, c', rfl, HD.out.below HB3, HB3⟩

set_option maxRecDepth 100000 in
set_option maxHeartbeats 1000000 in
theorem crash_yes (A : Option Addr) (n c : Nat) (A' : Option Addr) (m c' : Nat) (f : Int) (S : List ByteArray) (W : List Wr) (B : Option Addr) (q d : Nat) (zs : List Int) (w : World) (hD : Dev w A n c A' m c' f S W) (hR : RV w B q 1 (IV zs)) (h : chk S W f = 0) :
    Calls Try.prog 21 #[DV A n c A' m c' f, .slice B q d] w (RetD w (goAll S W (cutAt zs)) [] (-1)) := by
  have hc := check_any A n c A' m c' f S W _ ((hD.new (D33 A n c A' m c' f)).new (D33 none 0 0 none 0 0 0))
  rw [h] at hc
  have HC := Lib.hid hc
  obtain ⟨⟨hn1, hn2, -⟩, hso, hm1, hwo⟩ := chk_ok h
  have HD := Lib.hid hD
  have HR := Lib.hid hR
  have HS := Lib.hid hD.sec.sec
  have HW := Lib.hid hD.wr.wr
  have HOK := Lib.hid (fun k => goAll_ok (c := cutAt zs) hso hwo (cutAt_le zs) k)
  have HWO := Lib.hid hwo
  have hm : (m : Int) ≤ 1024 := by have := hD.wr.wr; omega
  have hn : 16 ≤ n ∧ n ≤ 512 := by have := hD.sec.sec; omega
  have HN := Lib.hid hn
  clear hD h hc hn hn1 hn2 hso hm1 hwo hR
  go_enter Try.func21, Try.ntmps21
  go_wp2_with fail
  refine HC.out.mono ?_
  rintro e w1 ⟨rfl, hb1⟩
  have HB := Lib.hid (((new1 w _).push _).call hb1)
  have HX := Lib.hid (((Box.new w (.slice A n c) (.slice A' m c') (.int .i64 f) 42).alloc (D33 none 0 0 none 0 0 0)).call hb1)
  have HY := Lib.hid (by have := (Box.new (w.alloc (D33 A n c A' m c' f)) (.slice none 0 0) (.slice none 0 0) (.int .i64 0) 42).call hb1; rwa [World.size_alloc] at this)
  have hzz : w.heap.size + 1 < w1.heap.size := HY.out.lt
  obtain ⟨c0, c1, c2, f0, f1, f2⟩ := HX.out
  clear hb1
  go_wp2_with fail
  refine (clone_any A n c S _ (HD.out.sec.below HB.out) (by have := HN.out; omega)).mono ?_
  rintro e w2 ⟨v, rfl, hown, hb2⟩
  obtain ⟨g, cap, rfl⟩ : ∃ g cap, v = .slice (some ⟨g, 0, none⟩) n cap := by
    rcases hown.2 with ⟨rfl, h0⟩ | ⟨g, cap, cur, rfl, _⟩
    · have := HN.out; omega
    · exact ⟨g, cap, rfl⟩
  clear c0 c1 c2 f0 f1 f2
  go_wp2_with fail
  refine (goes_any _ _ _ _).mono ?_
  rintro e w3 ⟨rfl, rfl⟩
  have hK : Kept w (.slice A n c) (.slice A' m c') (.int .i64 f) w2.heap.size g n cap S (w2.alloc (.cells #[.slice (some ⟨g, 0, none⟩) n cap] 39)) :=
    ⟨(HB.out.call hb2).push _, (HX.out.call hb2).alloc _, (HY.out.call hb2).alloc _, by simp [go_sem], (own_base hown (by omega)).alloc _, by have := hb2.size; omega, by have := (hown.lt g rfl).2; omega⟩
  have HK := Lib.hid hK
  obtain ⟨c0, c1, c2, f0, f1, f2⟩ := hK.st
  clear hK hown hb2
  generalize (w2.alloc (.cells #[.slice (some ⟨g, 0, none⟩) n cap] 39)) = w3 at *
  go_wp2_with fail
  clear c0 c1 c2 f0 f1 f2
  go_loopw [21] (fun i wr => ∃ k : Nat, k ≤ m ∧ i = .int .i64 k ∧ Hid (Kept w (.slice A n c) (.slice A' m c') (.int .i64 f) w2.heap.size g n cap (goAll S (W.take k) (cutAt zs)) wr)) (fun i _ => m - (intOf i).toNat)
  case atStart => exact ⟨0, Nat.zero_le _, rfl, HK.out⟩
  case round =>
    obtain ⟨k, hk, rfl, HK2⟩ := hrel
    by_cases hlt : k < m
    · have hl : k < W.length := by have := HW.out; omega
      obtain ⟨b, off, rfl, hb, hc0, hc1⟩ := (HD.out.wr.below HK2.out.bel).wrAt hlt hl
      have HT := Lib.hid (goAll_take S W k hl (cutAt zs))
      have hx := (wrOk_iff _ _).1 (List.all_eq_true.1 HWO.out _ (List.getElem_mem hl))
      generalize W[k] = x at *
      obtain ⟨p, s⟩ := x
      dsimp only at hc0 hc1 hx
      obtain ⟨p, rfl⟩ := Int.eq_ofNat_of_zero_le hx.1
      have HP := Lib.hid (show p < n by have := HS.out; omega)
      have HSZ := Lib.hid hx.2.2
      clear hx hl
      go_wp2_with fail
      have HK3 := Lib.hid (HK2.out.push (.cells #[.int .i64 p, .string s] 65))
      have t0 : (wr.alloc (.cells #[.int .i64 p, .string s] 65)).cell? ⟨wr.heap.size, 0, none⟩ = some (.int .i64 p) := by simp [go_sem]
      have t1 : (wr.alloc (.cells #[.int .i64 p, .string s] 65)).cell? ⟨wr.heap.size, 1, none⟩ = some (.string s) := by simp [go_sem]
      have hzw : wr.heap.size < (wr.alloc (.cells #[.int .i64 p, .string s] 65)).heap.size := by simp
      have hgw : g < wr.heap.size := (HK2.out.own.lt g rfl).2
      generalize (wr.alloc (.cells #[.int .i64 p, .string s] 65)) = w4 at *
      have HCut := Lib.hid (cut_any B q d zs k w4.drew (HR.out.below HK3.out.bel.drew))
      generalize hcv : cutAt zs k = z at *
      have HZ := Lib.hid (show z ≤ 64 by rw [← hcv]; exact cutAt_le zs k)
      clear hcv
      have HLet := Lib.hid (let_any w2.heap.size g n cap _ _ p z s w4.drew HK3.out.drew.bxc HK3.out.drew.own HP.out HSZ.out (HOK.out k).1 HZ.out)
      go_region_held3 (fun W => W.cell? ⟨wr.heap.size, 0, none⟩ = some (.int .i64 p) ∧ W.cell? ⟨wr.heap.size, 1, none⟩ = some (.string s)) (go_keep)
        (first
          | (go_at_call 36; ((with_reducible refine HCut.out.mono ?_)); rintro r w5 ⟨rfl, rfl⟩)
          | (go_at_call 48; ((with_reducible refine HLet.out.mono ?_)); rintro r w5 ⟨rfl, ho5, hg5⟩; have q0 : w5.cell? ⟨wr.heap.size, 0, none⟩ = some (.int .i64 p) := ((World.cell?_of_block (hg5.block wr.heap.size hzw (by simp; omega))).trans t0); have q1 : w5.cell? ⟨wr.heap.size, 1, none⟩ = some (.string s) := ((World.cell?_of_block (hg5.block wr.heap.size hzw (by simp; omega))).trans t1); have HK5 := Lib.hid (HK3.out.drew.goes ho5 hg5); clear ho5 hg5))
      go_wp2
      go_roundw
      case rel => exact ⟨k + 1, by omega, by go_num, by rw [HT.out]; exact HK5.out⟩
      case measure => simp [intOf]; omega
    · have hk2 : W.take k = W := List.take_of_length_le (by have := HW.out; omega)
      rw [hk2] at HK2
      have HE := Lib.hid (by have := HOK.out k; rwa [hk2] at this)
      clear hk2
      obtain ⟨d0, d1, d2, e0, e1, e2⟩ := HK2.out.res
      have hgb := HK2.out.base
      go_wp2
      have HB5 := ((HK2.out.bel.setCell (p := ⟨w.heap.size + 1, 0, none⟩) (by simp) (.slice (some ⟨g, 0, none⟩) n cap)).setCell (p := ⟨w.heap.size + 1, 1, none⟩) (by simp) (.slice none 0 0)).setCell (p := ⟨w.heap.size + 1, 2, none⟩) (by simp) (.int .i64 (-1))
      have O5 := ownsRow_setCell_below (ownsRow_setCell_below (ownsRow_setCell_below HK2.out.own (a := ⟨w.heap.size + 1, 0, none⟩) (by simp) (.slice (some ⟨g, 0, none⟩) n cap)) (a := ⟨w.heap.size + 1, 1, none⟩) (by simp) (.slice none 0 0)) (a := ⟨w.heap.size + 1, 2, none⟩) (by simp) (.int .i64 (-1))
      exact bodyPost_ret (v := DV (some ⟨g, 0, none⟩) n cap none 0 0 (-1)) (by simp [results, Try.results21, go_sem, *]) rfl ⟨_, n, cap, none, 0, 0, rfl, ⟨RV.of_own O5, RV.nil _ _ _, by omega, by omega, by rw [HE.out.2]; exact HD.out.ns, by simp⟩, HB5⟩

/-- What Crash leaves. -/
theorem crash_any (A : Option Addr) (n c : Nat) (A' : Option Addr) (m c' : Nat) (f : Int) (S : List ByteArray) (W : List Wr) (B : Option Addr) (q d : Nat) (zs : List Int) (w : World) (hD : Dev w A n c A' m c' f S W) (hR : RV w B q 1 (IV zs)) :
    Calls Try.prog 21 #[DV A n c A' m c' f, .slice B q d] w (RetD w (if chk S W f = 0 then goAll S W (cutAt zs) else S) (if chk S W f = 0 then [] else W) (if chk S W f = 0 then -1 else f)) := by
  by_cases h : chk S W f = 0
  · rw [if_pos h, if_pos h, if_pos h]; exact crash_yes A n c A' m c' f S W B q d zs w hD hR h
  · rw [if_neg h, if_neg h, if_neg h]; exact crash_no A n c A' m c' f S W B q d w hD h

end Go.Proofs.Ytaafkkmcpedeaaa.Dsk
