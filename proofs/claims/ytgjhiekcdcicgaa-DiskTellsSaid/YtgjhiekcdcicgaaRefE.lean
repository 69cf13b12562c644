/- Contracts of the document's Flush. -/
import Derived.Test.YtgjhiekcdcicgaaRefD
import Derived.Test.YtgjhiekcdcicgaaInts
namespace Go.Proofs.Ytgjhiekcdcicgaa
open Go.RowKit

theorem rflush2 (A : Option Addr) (n c : Nat) (A' : Option Addr) (m c' : Nat) (f : Int) (S : List ByteArray) (W : List Wr) (w : World) (hD : Dev w A n c A' m c' f S W) (h : ¬ chk S W f = 0) :
    Calls Try.prog 14 #[DV A n c A' m c' f] w (RetDE w S W f 2) := by
  have HC := Lib.hid (rcheck_any A n c A' m c' f S W _ ((hD.new (D25 A n c A' m c' f)).new (D25 none 0 0 none 0 0 0)))
  have HD := Lib.hid hD
  have hne := neq0 h
  generalize chk S W f = e0 at *
  clear hD h
  go_enter Try.func14, Try.ntmps14
  go_wp2_with fail
  refine HC.out.mono ?_
  rintro e w1 ⟨rfl, hb1⟩
  have HB := Lib.hid (((new1 w _).push _).call hb1)
  obtain ⟨hc, hf⟩ := bcell hb1
  clear hb1
  go_wp2
  have HB3 := ((HB.out.setCell (p := ⟨w.heap.size + 1, 0, none⟩) (by simp) (.slice A n c)).setCell (p := ⟨w.heap.size + 1, 1, none⟩) (by simp) (.slice A' m c')).setCell (p := ⟨w.heap.size + 1, 2, none⟩) (by simp) (.int .i64 f)
  exact bodyPost_ret (v := .tuple #[DV A n c A' m c' f, .int .i64 2]) (by simp [results, Try.results14, go_sem, hc]) rfl ⟨A, n, c, A', m, c', rfl, HD.out.below HB3, HB3⟩

theorem rflush21 (A : Option Addr) (n c : Nat) (A' : Option Addr) (m c' : Nat) (S : List ByteArray) (W : List Wr) (w : World) (hD : Dev w A n c A' m c' 0 S W) (h : chk S W 0 = 0) :
    Calls Try.prog 14 #[DV A n c A' m c' 0] w (RetDE w S W 0 21) := by
  have hc := rcheck_any A n c A' m c' 0 S W _ ((hD.new (D25 A n c A' m c' 0)).new (D25 none 0 0 none 0 0 0))
  rw [h] at hc
  have HC := Lib.hid hc
  have HD := Lib.hid hD
  clear hD h hc
  go_enter Try.func14, Try.ntmps14
  go_wp2_with fail
  refine HC.out.mono ?_
  rintro e w1 ⟨rfl, hb1⟩
  have HB := Lib.hid (((new1 w _).push _).call hb1)
  obtain ⟨hc, hf⟩ := bcell hb1
  clear hb1
  go_wp2
  have HB3 := ((HB.out.setCell (p := ⟨w.heap.size + 1, 0, none⟩) (by simp) (.slice A n c)).setCell (p := ⟨w.heap.size + 1, 1, none⟩) (by simp) (.slice A' m c')).setCell (p := ⟨w.heap.size + 1, 2, none⟩) (by simp) (.int .i64 0)
  exact bodyPost_ret (v := .tuple #[DV A n c A' m c' 0, .int .i64 21]) (by simp [results, Try.results14, go_sem, hc]) rfl ⟨A, n, c, A', m, c', rfl, HD.out.below HB3, HB3⟩

set_option maxRecDepth 100000 in
set_option maxHeartbeats 1000000 in
theorem rflush0 (A : Option Addr) (n c : Nat) (A' : Option Addr) (m c' : Nat) (f : Int) (S : List ByteArray) (W : List Wr) (w : World) (hD : Dev w A n c A' m c' f S W) (h : chk S W f = 0) (hf0 : ¬ f = 0) :
    Calls Try.prog 14 #[DV A n c A' m c' f] w (RetDE w (goAll S W fun _ => 64) [] (burnt f) 0) := by
  have hc := rcheck_any A n c A' m c' f S W _ ((hD.new (D25 A n c A' m c' f)).new (D25 none 0 0 none 0 0 0))
  rw [h] at hc
  have HC := Lib.hid hc
  obtain ⟨-, hso, hm1, hwo⟩ := chk_ok h
  have HLen := Lib.hid (goAll_all (c := fun _ => 64) hso hwo (fun _ => Nat.le_refl _)).2
  have HCr : Hid (goAll S W (cutAt (List.replicate m 64)) = goAll S W fun _ => 64) := goAll_congr S W _ _ (fun j hj => by
    unfold cutAt; rw [dif_pos (by rw [List.length_replicate]; have := hD.wr.wr; omega), List.getElem_replicate]; rfl)
  have HG := Lib.hid (fun (a : Option Addr) (d : Nat) (w1 : World) hb hR => gone_any A n c A' m c' f S W a m d (List.replicate m 64) w1 (hD.below hb) hR h)
  have HD := Lib.hid hD
  have hm : (m : Int) ≤ 1024 := by have := hD.wr.wr; omega
  have hfb : (f == 0) = false := by simpa using hf0
  clear hD h hc hso hm1 hwo hf0
  go_enter Try.func14, Try.ntmps14
  go_wp2_with fail
  refine HC.out.mono ?_
  rintro e w1 ⟨rfl, hb1⟩
  have HB := Lib.hid (((new1 w _).push _).call hb1)
  have HX := Lib.hid (((Box.new w (.slice A n c) (.slice A' m c') (.int .i64 f) 25).alloc (D25 none 0 0 none 0 0 0)).call hb1)
  have HY := Lib.hid (by have := (Box.new (w.alloc (D25 A n c A' m c' f)) (.slice none 0 0) (.slice none 0 0) (.int .i64 0) 25).call hb1; rwa [World.size_alloc] at this)
  have hzz : w.heap.size + 1 < w1.heap.size := HY.out.lt
  obtain ⟨c0, c1, c2, f0, f1, f2⟩ := HX.out
  clear hb1
  go_wp2_with fail
  clear c0 c1 c2 f0 f1 f2
  go_loopw [4, 5] (fun v i wr => ∃ k : Nat, k ≤ m ∧ i = .int .i64 k ∧ Hid (IRow wr w1.heap.size v (List.replicate k 64) ∧ Below w1.heap.size w1 wr)) (fun _ i _ => m - (intOf i).toNat)
  case atStart => exact ⟨0, Nat.zero_le _, rfl, IRow.nil _ _, Below.refl _ _⟩
  case round =>
    obtain ⟨k, hk, rfl, HK⟩ := hrel
    obtain ⟨av, capv, rfl, hrv⟩ := HK.out.1.val
    rw [List.length_replicate] at HK hrv ⊢
    obtain ⟨c0, c1, c2, f0, f1, f2⟩ := HX.out.call HK.out.2
    by_cases hlt : k < m
    · have hxc : (wr.alloc (.cells #[.int .i64 64] 3)).cell? ⟨wr.heap.size, 0, none⟩ = some (.int .i64 64) := by simp [go_sem]
      obtain ⟨v', w', hap, hI', hgr, -⟩ := (HK.out.1.call (new1 wr (.cells #[.int .i64 64] 3))).append ⟨wr.heap.size, 0, none⟩ 1 64 hxc (by rw [List.length_replicate]; omega) (by have := HK.out.2.size; rw [World.size_alloc]; omega)
      have HAP := Lib.hid hap
      have HI' := Lib.hid (by rw [← List.replicate_succ'] at hI'; exact hI')
      have HB' := Lib.hid ((HK.out.2.push (.cells #[.int .i64 64] 3)).grown hgr (by have := HK.out.2.size; rw [World.size_alloc]; omega) (fun g hg => (HK.out.1.lt g hg).1))
      clear hap hI' hgr hxc hrv
      go_wp2_with (at_builtin; refine wpList_append_run rfl (.tmp 21) (.tmp 22) 28 28 rfl _ _ rfl rfl v' w' HAP.out ?_)
      go_roundw
      case rel => exact ⟨k + 1, by omega, by go_num, HI'.out, HB'.out⟩
      case measure => simp [intOf]; omega
    · obtain rfl : m = k := by omega
      have HRV := Lib.hid hrv
      have HGo := Lib.hid (HG.out av capv wr.drew (HB.out.call HK.out.2).drew (hrv.below (Below.refl _ _).drew))
      rw [HCr.out] at HGo
      have HU := Lib.hid (fun W => rburnt_any f W HD.out.lo HD.out.hi)
      have HB2 := Lib.hid (HB.out.call HK.out.2)
      have HY2 := Lib.hid (HY.out.call HK.out.2)
      have hl0 : w.heap.size < wr.heap.size := by have := HY2.out.lt; omega
      have hl1 := HY2.out.lt
      have n1 : ¬ w.heap.size + 1 = w.heap.size := by omega
      clear hrv HRV HG HC
      go_wp2_with fail
      go_region_held3 (fun W => W.cell? ⟨w.heap.size, 0, none⟩ = some (.slice A n c) ∧ W.cell? ⟨w.heap.size, 1, none⟩ = some (.slice A' m c') ∧ W.cell? ⟨w.heap.size, 2, none⟩ = some (.int .i64 f)) (go_keep)
        (first
          | (go_at_call 35; ((with_reducible refine HGo.out.mono ?_)); rintro r w4 ⟨g, cap4, rfl, hown, hb4⟩; obtain ⟨hc, hf⟩ := bcell hb4; have q0 : w4.cell? ⟨w.heap.size, 0, none⟩ = some (.slice A n c) := (by rw [hc _ _ (by simp; omega)]; simp [*]); have q1 : w4.cell? ⟨w.heap.size, 1, none⟩ = some (.slice A' m c') := (by rw [hc _ _ (by simp; omega)]; simp [*]); have q2 : w4.cell? ⟨w.heap.size, 2, none⟩ = some (.int .i64 f) := (by rw [hc _ _ (by simp; omega)]; simp [*]); have HY4 := Lib.hid (HY2.out.call (undrew hb4)); obtain ⟨z0, z1, z2, v0, v1, v2⟩ := HY4.out; have HO := Lib.hid hown; have HB4 := Lib.hid (HB2.out.call (undrew hb4)); clear hc hf hown hb4)
          | (go_at_call 33; ((with_reducible refine (HU.out _).mono ?_)); rintro r w5 ⟨rfl, rfl⟩))
      go_wp2_with fail
      have HB5 := ((HB4.out.setCell (p := ⟨w.heap.size + 1, 0, none⟩) (by simp) (.slice (some ⟨g, 0, none⟩) n cap4)).setCell (p := ⟨w.heap.size + 1, 1, none⟩) (by simp) (.slice none 0 0)).setCell (p := ⟨w.heap.size + 1, 2, none⟩) (by simp) (.int .i64 (burnt f))
      have O5 := ownsRow_setCell_below (ownsRow_setCell_below (ownsRow_setCell_below HO.out (a := ⟨w.heap.size + 1, 0, none⟩) (by simp; omega) (.slice (some ⟨g, 0, none⟩) n cap4)) (a := ⟨w.heap.size + 1, 1, none⟩) (by simp; omega) (.slice none 0 0)) (a := ⟨w.heap.size + 1, 2, none⟩) (by simp; omega) (.int .i64 (burnt f))
      exact bodyPost_ret (v := .tuple #[DV (some ⟨g, 0, none⟩) n cap4 none 0 0 (burnt f), .int .i64 0]) (by simp [results, Try.results14, go_sem, z0, z1, z2]) rfl ⟨_, n, cap4, none, 0, 0, rfl, ⟨RV.of_own O5, RV.nil _ _ _, burnt_lo HD.out.lo, burnt_hi HD.out.hi, by rw [HLen.out]; exact HD.out.ns, by simp⟩, HB5⟩

theorem rflush_any (A : Option Addr) (n c : Nat) (A' : Option Addr) (m c' : Nat) (f : Int) (S : List ByteArray) (W : List Wr) (w : World) (hD : Dev w A n c A' m c' f S W) :
    Calls Try.prog 14 #[DV A n c A' m c' f] w (RetDE w (if flushE S W f = 0 then goAll S W (fun _ => 64) else S) (if flushE S W f = 0 then [] else W) (if flushE S W f = 0 then burnt f else f) (flushE S W f)) := by
  by_cases h : chk S W f = 0
  · by_cases hf : f = 0
    · have e : flushE S W f = 21 := by unfold flushE; rw [if_pos h, if_pos hf]
      rw [e]
      subst hf
      exact rflush21 A n c A' m c' S W w hD h
    · have e : flushE S W f = 0 := by unfold flushE; rw [if_pos h, if_neg hf]
      rw [e]
      exact rflush0 A n c A' m c' f S W w hD h hf
  · have e : flushE S W f = 2 := by unfold flushE; rw [if_neg h]
    rw [e]
    exact rflush2 A n c A' m c' f S W w hD h

end Go.Proofs.Ytgjhiekcdcicgaa
