/- Contracts of the document's gone and Crash. -/
import Derived.Test.YtgjhiekcdcicgaaRefC
import Derived.Test.YtgjhiekcdcicgaaGoes
import Derived.Test.YtgjhiekcdcicgaaFlush
namespace Go.Proofs.Ytgjhiekcdcicgaa
open Go.RowKit

theorem sec_size_ {S : List ByteArray} (h : secOk S = true) {p : Nat} (hp : p < S.length) : (secAt S p).size = 64 := by
  rw [secAt_eq hp]; exact (secOk_iff S).1 h _ (List.getElem_mem hp)

/-- What is kept while writes go: the device, and the row of sectors. -/
structure KeptG (w : World) (x y z : Value) (g n cap : Nat) (T : List ByteArray) (wr : World) : Prop where
  bel : Below w.heap.size w wr
  st : Box wr w.heap.size x y z
  own : wr.ownsRow (w.heap.size + 1) 9 1 (.slice (some ⟨g, 0, none⟩) n cap) n (SV T)
theorem KeptG.base {w : World} {x y z : Value} {g n cap : Nat} {T : List ByteArray} {wr : World} (h : KeptG w x y z g n cap T wr) : w.heap.size + 1 ≤ g := base_of_own h.own g rfl
/-- One write goes. -/
theorem KeptG.goes {w : World} {x y z : Value} {g n cap : Nat} {T : List ByteArray} {wr : World} (h : KeptG w x y z g n cap T wr) (p k : Nat) (s : ByteArray) (o : Obj) :
    KeptG w x y z g n cap (goOne T ((p : Int), s) k) ((wr.setCell ⟨g, p, none⟩ (.string (s.extract 0 k ++ (secAt T p).extract k (secAt T p).size))).alloc o).drew := by
  have hb := h.base
  obtain ⟨h1, h2⟩ := h.own.stored p (.string (s.extract 0 k ++ (secAt T p).extract k (secAt T p).size))
  have e1 : goOne T ((p : Int), s) k = T.set p (s.extract 0 k ++ (secAt T p).extract k (secAt T p).size) := by
    unfold goOne
    simp only [Int.toNat_natCast]
  rw [sv_set, ← e1] at h1
  have hbel := (h.bel.grown h2 h.bel.size (fun j hj => by injection hj with hj; omega))
  exact ⟨(hbel.push o).drew, ((h.st.of_block (h2.block _ h.st.lt (by simp; omega))).alloc o).drew, h1.alloc o⟩

set_option maxRecDepth 100000 in
set_option maxHeartbeats 1000000 in
theorem gone_any (A : Option Addr) (n c : Nat) (A' : Option Addr) (m c' : Nat) (f : Int) (S : List ByteArray) (W : List Wr) (B : Option Addr) (q d : Nat) (zs : List Int) (w : World) (hD : Dev w A n c A' m c' f S W) (hR : RV w B q 1 (IV zs)) (h : chk S W f = 0) :
    Calls Try.prog 35 #[DV A n c A' m c' f, .slice B q d] w fun e w' => ∃ g cap, e = .returned (.slice (some ⟨g, 0, none⟩) n cap) ∧ w'.ownsRow (w.heap.size + 1) 9 1 (.slice (some ⟨g, 0, none⟩) n cap) n (SV (goAll S W (cutAt zs))) ∧ Below w.heap.size w w' := by
  obtain ⟨⟨hn1, hn2, -⟩, hso, hm1, hwo⟩ := chk_ok h
  have HD := Lib.hid hD
  have HR := Lib.hid hR
  have HS := Lib.hid hD.sec.sec
  have HW := Lib.hid hD.wr.wr
  have HOK := Lib.hid (fun k => goAll_ok (c := cutAt zs) hso hwo (cutAt_le zs) k)
  have HWO := Lib.hid hwo
  have hm : (m : Int) ≤ 1024 := by have := hD.wr.wr; omega
  have hn : 16 ≤ n ∧ n ≤ 512 := by have := hD.sec.sec; omega
  have HN := Lib.hid hn
  have HQ := Lib.hid hR.ints
  obtain ⟨v0, w0, hap, hown, hgr, -⟩ := append_rv (P := Try.prog) (ty := 22) Try.underlying22 info9 rfl (by omega) (World.ownsRow_nil (w.alloc (D25 A n c A' m c' f)) (w.heap.size + 1) 9 1) c (hD.new (D25 A n c A' m c' f)).sec (SV_one S) (by omega) (by omega) (by simp)
  obtain ⟨g, cap, rfl⟩ : ∃ g cap, v0 = .slice (some ⟨g, 0, none⟩) n cap := by
    rcases hown.2 with ⟨rfl, h0⟩ | ⟨g, cap, cur, rfl, _⟩
    · omega
    · exact ⟨g, cap, by simp⟩
  have HAP := Lib.hid hap
  have HK : Hid (KeptG w (.slice A n c) (.slice A' m c') (.int .i64 f) g n cap (goAll S (W.take 0) (cutAt zs)) w0) :=
    ⟨(new1 w _).grown hgr (by simp) (by simp [Value.ownBlock]), (Box.new w _ _ _ _).of_block (hgr.block _ (by simp) (by simp [Value.ownBlock])), by rw [List.take_zero, goAll_nil]; simpa using hown⟩
  clear hap hown hgr hD hR h hn hn1 hn2 hso hm1 hwo
  go_enter Try.func35, Try.ntmps35
  go_wp2_with (at_builtin; refine wpList_append_run rfl (.tmp 9) (.tmp 11) 22 22 rfl _ _ rfl rfl _ w0 HAP.out ?_)
  go_loopw [6] (fun i wr => ∃ k : Nat, k ≤ m ∧ i = .int .i64 k ∧ Hid (KeptG w (.slice A n c) (.slice A' m c') (.int .i64 f) g n cap (goAll S (W.take k) (cutAt zs)) wr)) (fun i _ => m - (intOf i).toNat)
  case atStart => exact ⟨0, Nat.zero_le _, rfl, HK.out⟩
  case round =>
    obtain ⟨k, hk, rfl, HK2⟩ := hrel
    clear HK HAP
    obtain ⟨c0, c1, c2, f0, f1, f2⟩ := HK2.out.st
    by_cases hlt : k < m
    · have hl : k < W.length := by have := HW.out; omega
      obtain ⟨b, off, rfl, hb, hc0, hc1⟩ := (HD.out.wr.below HK2.out.bel).wrAt hlt hl
      have HT := Lib.hid (goAll_take S W k hl (cutAt zs))
      have hx := (wrOk_iff _ _).1 (List.all_eq_true.1 HWO.out _ (List.getElem_mem hl))
      generalize W[k] = x at *
      obtain ⟨p, s⟩ := x
      dsimp only at hc0 hc1 hx
      obtain ⟨p, rfl⟩ := Int.eq_ofNat_of_zero_le hx.1
      have hpn : p < n := by have := HS.out; omega
      have hss : s.size = 64 := hx.2.2
      have hok := HOK.out k
      have hpl : p < (goAll S (W.take k) (cutAt zs)).length := by rw [hok.2, HS.out]; exact hpn
      have hts := sec_size_ hok.1 hpl
      have hcp : wr.cell? ⟨g, p, none⟩ = some (.string (secAt (goAll S (W.take k) (cutAt zs)) p)) := by
        rw [HK2.out.own.cellAt p (by omega), secAt_eq hpl]; simp [SV, hpl]
      have hfp := HK2.out.own.frozenAt p
      have HG := Lib.hid (fun cz => HK2.out.goes p cz s (.cells #[.int .i64 p, .string s] 27))
      have hcle := cutAt_le zs k
      clear hx hl hok hpl
      generalize goAll S (W.take k) (cutAt zs) = Tk at *
      generalize secAt Tk p = t at *
      have hgl : g < wr.heap.size := cell_lt hcp
      have hbl : b < wr.heap.size := hb
      have i1 : (p : Int) < (n : Int) := by omega
      have i2 : (k : Int) < (m : Int) := by omega
      by_cases hcq : k < q
      · have hzl : k < zs.length := by have := HQ.out; omega
        obtain ⟨bz, oz, rfl, hbz, hcz⟩ := (HR.out.below HK2.out.bel).intAt hcq hzl
        have hcl : max 0 (min 64 zs[k]) = ((cutAt zs k : Nat) : Int) := by
          unfold cutAt clamp; rw [dif_pos hzl]; omega
        generalize zs[k] = z at *
        generalize cutAt zs k = cz at *
        clear hzl
        have i3 : (k : Int) < (q : Int) := by omega
        have i4 : (cz : Int) ≤ 64 := by omega
        have j1 : (cz : Int) ≤ (s.size : Int) := by omega
        have j2 : (cz : Int) ≤ (t.size : Int) := by omega
        have hlim : ¬ 9223372036854775807 < min cz s.size + (t.size - cz) := by omega
        have HG2 := Lib.hid (HG.out cz)
        clear hss hts hcle HG
        go_wp2_with fail
        go_region
        go_wp2
        go_roundw
        case rel => exact ⟨k + 1, by omega, by go_num, by rw [HT.out]; exact HG2.out⟩
        case measure => simp [intOf]; omega
      · have hz0 : cutAt zs k = 0 := by unfold cutAt; rw [dif_neg (by have := HQ.out; omega)]
        rw [hz0] at HT
        clear hz0
        have hdk : decide ((k : Int) < (q : Int)) = false := by simp; omega
        have hdk2 : decide (k < q) = false := by simp; omega
        have hlim : ¬ 9223372036854775807 < t.size := by omega
        have hg2 := HG.out 0
        rw [show s.extract 0 0 ++ t.extract 0 t.size = t by simp] at hg2
        have HG2 := Lib.hid hg2
        clear hg2
        have j1 : (0 : Int) ≤ (s.size : Int) := by omega
        have j2 : (0 : Int) ≤ (t.size : Int) := by omega
        clear hss hts hcle HG
        go_wp2_with fail
        go_region
        go_wp2
        go_roundw
        case rel => exact ⟨k + 1, by omega, by go_num, by rw [HT.out]; exact HG2.out⟩
        case measure => simp [intOf]; omega
    · have hk2 : W.take k = W := List.take_of_length_le (by have := HW.out; omega)
      rw [hk2] at HK2
      clear hk2
      go_wp2
      go_ret
      exact ⟨g, cap, rfl, HK2.out.own, HK2.out.bel⟩

theorem rcrash_no (A : Option Addr) (n c : Nat) (A' : Option Addr) (m c' : Nat) (f : Int) (S : List ByteArray) (W : List Wr) (B : Option Addr) (q d : Nat) (w : World) (hD : Dev w A n c A' m c' f S W) (h : ¬ chk S W f = 0) :
    Calls Try.prog 20 #[DV A n c A' m c' f, .slice B q d] w (RetD w S W f) := by
  have HC := Lib.hid (rcheck_any A n c A' m c' f S W _ ((hD.new (D25 A n c A' m c' f)).new (D25 none 0 0 none 0 0 0)))
  have HD := Lib.hid hD
  have hne := neq0 h
  generalize chk S W f = e0 at *
  clear hD h
  go_enter Try.func20, Try.ntmps20
  go_wp2_with fail
  refine HC.out.mono ?_
  rintro e w1 ⟨rfl, hb1⟩
  have HB := Lib.hid (((new1 w _).push _).call hb1)
  obtain ⟨hc, hf⟩ := bcell hb1
  clear hb1
  go_wp2
  have HB3 := ((HB.out.setCell (p := ⟨w.heap.size + 1, 0, none⟩) (by simp) (.slice A n c)).setCell (p := ⟨w.heap.size + 1, 1, none⟩) (by simp) (.slice A' m c')).setCell (p := ⟨w.heap.size + 1, 2, none⟩) (by simp) (.int .i64 f)
  exact bodyPost_ret (v := DV A n c A' m c' f) (by simp [results, Try.results20, go_sem, hc]) rfl ⟨A, n, c, A', m, c', rfl, HD.out.below HB3, HB3⟩

set_option maxRecDepth 100000 in
theorem rcrash_yes (A : Option Addr) (n c : Nat) (A' : Option Addr) (m c' : Nat) (f : Int) (S : List ByteArray) (W : List Wr) (B : Option Addr) (q d : Nat) (zs : List Int) (w : World) (hD : Dev w A n c A' m c' f S W) (hR : RV w B q 1 (IV zs)) (h : chk S W f = 0) :
    Calls Try.prog 20 #[DV A n c A' m c' f, .slice B q d] w (RetD w (goAll S W (cutAt zs)) [] (-1)) := by
  have hc := rcheck_any A n c A' m c' f S W _ ((hD.new (D25 A n c A' m c' f)).new (D25 none 0 0 none 0 0 0))
  rw [h] at hc
  have HC := Lib.hid hc
  obtain ⟨-, hso, -, hwo⟩ := chk_ok h
  have HLen := Lib.hid (goAll_all (c := cutAt zs) hso hwo (cutAt_le zs)).2
  have HG := Lib.hid (fun w1 hb => gone_any A n c A' m c' f S W B q d zs w1 (hD.below hb) (hR.below hb) h)
  have HD := Lib.hid hD
  clear hD h hc hR hso hwo
  go_enter Try.func20, Try.ntmps20
  go_wp2_with fail
  refine HC.out.mono ?_
  rintro e w1 ⟨rfl, hb1⟩
  have HB := Lib.hid (((new1 w _).push _).call hb1)
  have HY := Lib.hid (by have := (Box.new (w.alloc (D25 A n c A' m c' f)) (.slice none 0 0) (.slice none 0 0) (.int .i64 0) 25).call hb1; rwa [World.size_alloc] at this)
  obtain ⟨hc, hf⟩ := bcell hb1
  clear hb1
  go_wp2_with fail
  refine (HG.out _ HB.out).mono ?_
  rintro e w2 ⟨g, cap, rfl, hown, hb2⟩
  have HB2 := Lib.hid (HB.out.call hb2)
  have hz1 := HY.out.lt
  obtain ⟨z0, z1, z2, v0, v1, v2⟩ := HY.out.call hb2
  have HO := Lib.hid hown
  clear hown hb2 hc hf
  go_wp2
  have HB5 := ((HB2.out.setCell (p := ⟨w.heap.size + 1, 0, none⟩) (by simp) (.slice (some ⟨g, 0, none⟩) n cap)).setCell (p := ⟨w.heap.size + 1, 1, none⟩) (by simp) (.slice none 0 0)).setCell (p := ⟨w.heap.size + 1, 2, none⟩) (by simp) (.int .i64 (-1))
  have O5 := ownsRow_setCell_below (ownsRow_setCell_below (ownsRow_setCell_below HO.out (a := ⟨w.heap.size + 1, 0, none⟩) (by simp; omega) (.slice (some ⟨g, 0, none⟩) n cap)) (a := ⟨w.heap.size + 1, 1, none⟩) (by simp; omega) (.slice none 0 0)) (a := ⟨w.heap.size + 1, 2, none⟩) (by simp; omega) (.int .i64 (-1))
  exact bodyPost_ret (v := DV (some ⟨g, 0, none⟩) n cap none 0 0 (-1)) (by simp [results, Try.results20, go_sem, *]) rfl ⟨_, n, cap, none, 0, 0, rfl, ⟨RV.of_own O5, RV.nil _ _ _, by omega, by omega, by rw [HLen.out]; exact HD.out.ns, by simp⟩, HB5⟩

theorem rcrash_any (A : Option Addr) (n c : Nat) (A' : Option Addr) (m c' : Nat) (f : Int) (S : List ByteArray) (W : List Wr) (B : Option Addr) (q d : Nat) (zs : List Int) (w : World) (hD : Dev w A n c A' m c' f S W) (hR : RV w B q 1 (IV zs)) :
    Calls Try.prog 20 #[DV A n c A' m c' f, .slice B q d] w (RetD w (if chk S W f = 0 then goAll S W (cutAt zs) else S) (if chk S W f = 0 then [] else W) (if chk S W f = 0 then -1 else f)) := by
  by_cases h : chk S W f = 0
  · rw [if_pos h, if_pos h, if_pos h]; exact rcrash_yes A n c A' m c' f S W B q d zs w hD hR h
  · rw [if_neg h, if_neg h, if_neg h]; exact rcrash_no A n c A' m c' f S W B q d w hD h

end Go.Proofs.Ytgjhiekcdcicgaa
