/- Contracts of the document's New. -/
import Derived.Test.YtgjhiekcdcicgaaRefF
import Derived.Deep.RegionLaw
namespace Go.Proofs.Ytgjhiekcdcicgaa
open Go.RowKit

theorem rnew_no (n : Int) (w : World) (h : n < 16 ∨ 512 < n) : Calls Try.prog 24 #[.int .i64 n] w (RetDE w [] [] 0 8) := by
  by_cases h1 : n < 16
  all_goals
    have hx : n < 16 ∨ 512 < n := h
    clear h
    first
      | (have h2 : 512 < n := (by omega))
      | skip
    clear hx
    go_enter Try.func24, Try.ntmps24
    go_wp2
    exact bodyPost_ret (v := .tuple #[DV none 0 0 none 0 0 0, .int .i64 8]) (by simp [results, Try.results24, go_sem]) rfl ⟨none, 0, 0, none, 0, 0, rfl, ⟨RV.nil _ _ _, RV.nil _ _ _, by omega, by omega, by simp, by simp⟩, new1 _ _⟩

/-- What is kept from sector to sector. -/
structure NewK (w wr : World) (v : Value) (k : Nat) (z : ByteArray) : Prop where
  bel : Below w.heap.size w wr
  res : Box wr w.heap.size (.slice none 0 0) (.slice none 0 0) (.int .i64 0)
  st : Box wr (w.heap.size + 1) v (.slice none 0 0) (.int .i64 (-1))
  own : wr.ownsRow (w.heap.size + 2) 9 1 v k (SV (List.replicate k z))
theorem NewK.step {w wr w4 w' : World} {v v' : Value} {k : Nat} {z : ByteArray} (h : NewK w wr v k z) (hb : Below wr.heap.size wr w4) (hown : w'.ownsRow (w.heap.size + 2) 9 1 v' (k + 1) (SV (List.replicate k z) ++ SV [z])) (hg : w4.grownBy w' v.ownBlock) :
    NewK w (w'.setCell ⟨w.heap.size + 1, 0, none⟩ v') v' (k + 1) z := by
  have hl : ∀ g, v.ownBlock = some g → w.heap.size + 2 ≤ g := base_of_own h.own
  have b1 := (h.res.call hb).of_block (hg.block _ (h.res.call hb).lt (fun e => by have := hl _ e.symm; omega))
  have b2 := (h.st.call hb).of_block (hg.block _ (h.st.call hb).lt (fun e => by have := hl _ e.symm; omega))
  have bb := (h.bel.call hb).grown hg (h.bel.call hb).size (fun g hg => by have := hl g hg; omega)
  refine ⟨bb.setCell (by simp) _, b1.far (by simp) _, ?_, ?_⟩
  · obtain ⟨c0, c1, c2, f0, f1, f2⟩ := b2
    constructor <;> simp [go_sem, *]
  · rw [← SV_append, ← List.replicate_succ'] at hown
    exact ownsRow_setCell_below hown (by simp) _

set_option maxRecDepth 100000 in
set_option maxHeartbeats 1000000 in
theorem rnew_yes (n : Nat) (w : World) (h1 : 16 ≤ (n : Int)) (h2 : (n : Int) ≤ 512) : Calls Try.prog 24 #[.int .i64 n] w (RetDE w (newS n) [] (-1) 0) := by
  unfold newS
  have HZ := Lib.hid (fun W => zeros_any W)
  generalize fillS 0 = z0 at *
  have HK0 : Hid (NewK w ((w.alloc (D25 none 0 0 none 0 0 0)).alloc (D25 none 0 0 none 0 0 (-1))) (.slice none 0 0) 0 z0) := by
    refine ⟨(new1 w _).push _, (Box.new w _ _ _ _).alloc _, ?_, World.ownsRow_nil _ _ _ _⟩
    have := Box.new (w.alloc (D25 none 0 0 none 0 0 0)) (.slice none 0 0) (.slice none 0 0) (.int .i64 (-1)) 25
    rwa [World.size_alloc] at this
  go_enter Try.func24, Try.ntmps24
  go_wp2_with fail
  generalize (w.alloc (D25 none 0 0 none 0 0 0)).alloc (D25 none 0 0 none 0 0 (-1)) = w0 at *
  go_loopw [5] (fun i wr => ∃ (k : Nat) (v : Value), k ≤ n ∧ i = .int .i64 k ∧ Hid (NewK w wr v k z0)) (fun i _ => n - (intOf i).toNat)
  case atStart => exact ⟨0, _, Nat.zero_le _, rfl, HK0.out⟩
  case round =>
    obtain ⟨k, v, hk, rfl, HK⟩ := hrel
    obtain ⟨av, capv, rfl⟩ := own_val HK.out.own
    obtain ⟨c0, c1, c2, f0, f1, f2⟩ := HK.out.st
    have hzz : w.heap.size + 1 < wr.heap.size := HK.out.st.lt
    by_cases hlt : k < n
    · go_wp2_with fail
      go_region_law
        (first
          | (refine step_append_run rfl (.tmp 20) (.tmp 22) 22 22 rfl _ _ rfl rfl _ w' HAP.out ?_)
          | (go_simp; go_at_call 41; ((with_reducible refine (HZ.out _).mono ?_)); rintro r w4 ⟨rfl, hb4⟩; have hbw : Below wr.heap.size wr w4 := (undrew hb4); have hz4 : w.heap.size + 1 < w4.heap.size := ((HK.out.st.call hbw).lt); obtain ⟨q0, q1, q2, k0, k1, k2⟩ := HK.out.st.call hbw; have hb5 := hbw.push (.cells #[.string z0] 9); obtain ⟨v', w', hap, hown, hgr, -⟩ := append_rv (P := Try.prog) (ty := 22) Try.underlying22 info9 rfl (by omega) (HK.out.own.kept (row := none) (w' := w4.alloc (.cells #[.string z0] 9)) ⟨hb5.os, hb5.tape, hb5.output, hb5.size, fun j hj _ => hb5.block j hj⟩ (by cases av <;> simp [Value.ownBlock])) 1 ((Blk.new w4 9 #[.string z0]).rv (n := 1) (k := 1) (vs := SV [z0]) rfl) (SV_one _) (by omega) (by omega) (by have := hb5.size; have := HK.out.st.lt; omega); obtain ⟨av', capv', rfl⟩ := own_val hown; have HAP := Lib.hid hap; have HST := Lib.hid (HK.out.step hb5 hown hgr); obtain ⟨y0, y1, y2, t0, t1, t2⟩ := ((HK.out.st.call hb5).of_block (hgr.block _ (HK.out.st.call hb5).lt (fun e => (by have := base_of_own HK.out.own _ e.symm; omega)))); clear hap hown hgr hb4))
      all_goals
        go_wp2
        go_roundw
        case rel => exact ⟨k + 1, _, by omega, by go_num, HST.out⟩
        case measure => simp [intOf]; omega
    · obtain rfl : n = k := by omega
      obtain ⟨z0', z1, z2, v0, v1, v2⟩ := HK.out.res
      go_wp2
      have HB5 := ((HK.out.bel.setCell (p := ⟨w.heap.size, 0, none⟩) (by simp) (.slice av n capv)).setCell (p := ⟨w.heap.size, 1, none⟩) (by simp) (.slice none 0 0)).setCell (p := ⟨w.heap.size, 2, none⟩) (by simp) (.int .i64 (-1))
      have O5 := ownsRow_setCell_below (ownsRow_setCell_below (ownsRow_setCell_below HK.out.own (a := ⟨w.heap.size, 0, none⟩) (by simp) (.slice av n capv)) (a := ⟨w.heap.size, 1, none⟩) (by simp) (.slice none 0 0)) (a := ⟨w.heap.size, 2, none⟩) (by simp) (.int .i64 (-1))
      exact bodyPost_ret (v := .tuple #[DV av n capv none 0 0 (-1), .int .i64 0]) (by simp [results, Try.results24, go_sem, *]) rfl ⟨_, n, capv, none, 0, 0, rfl, ⟨RV.of_own O5, RV.nil _ _ _, by omega, by omega, by simp; omega, by simp⟩, HB5⟩

theorem rnew_any (n : Int) (w : World) : Calls Try.prog 24 #[.int .i64 n] w (RetDE w (if 16 ≤ n ∧ n ≤ 512 then newS n.toNat else []) [] (if 16 ≤ n ∧ n ≤ 512 then -1 else 0) (if 16 ≤ n ∧ n ≤ 512 then 0 else 8)) := by
  by_cases h : 16 ≤ n ∧ n ≤ 512
  · rw [if_pos h, if_pos h, if_pos h]
    obtain ⟨k, rfl⟩ := Int.eq_ofNat_of_zero_le (show 0 ≤ n by omega)
    exact rnew_yes k w h.1 h.2
  · rw [if_neg h, if_neg h, if_neg h]
    exact rnew_no n w (by omega)

end Go.Proofs.Ytgjhiekcdcicgaa
