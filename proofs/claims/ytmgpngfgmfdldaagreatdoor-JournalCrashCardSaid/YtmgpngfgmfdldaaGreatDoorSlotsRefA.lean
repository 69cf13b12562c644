/- Contracts of the document's may, sectors and Top of package slots. -/
import Derived.Test.YtmgpngfgmfdldaaGreatDoorDskR
import Derived.Test.YtmgpngfgmfdldaaGreatDoorSlotsTop
import Derived.Test.YtmgpngfgmfdldaaGreatDoorSlotsSmall
import Derived.Test.YtmgpngfgmfdldaaGreatDoorSheetRefS
namespace Go.Proofs.YtmgpngfgmfdldaaGreatDoor.Slt
open Go.RowKit Go.Proofs.YtmgpngfgmfdldaaGreatDoor.Dsk Go.Proofs.YtmgpngfgmfdldaaGreatDoor.Sht

theorem rmay_any (A : Option Addr) (n c : Nat) (A' : Option Addr) (m c' : Nat) (f : Int) (S : List ByteArray) (W : List Wr) (p q : Int) (w : World) (hD : Dev w A n c A' m c' f S W) :
    Calls Tryz.prog 58 #[DV A n c A' m c' f, .int .i64 p, .int .i64 q] w fun r w' => r = .returned (.bool (okS S W f p q)) ∧ Below w.heap.size w w' := by
  have HC := Lib.hid (rcheck_any A n c A' m c' f S W _ (hD.new (D25 A n c A' m c' f)))
  have hn := hD.sec.sec
  unfold okS
  rw [hn]
  rcases hb0 : decide (chk S W f = 0) with _ | _
  · have hne : (chk S W f == 0) = false := by simpa using hb0
    generalize chk S W f = e0 at *
    clear hD hb0
    go_enter Tryz.func58, Tryz.ntmps58
    go_wp2_with (go_at_call 31; ((with_reducible refine HC.out.mono ?_); rintro e w1 ⟨rfl, hb1⟩; have HB := Lib.hid hb1; obtain ⟨c0, c1, c2, -, -, -⟩ := (Box.new w (.slice A n c) (.slice A' m c') (.int .i64 f) 25).call hb1; clear hb1))
    go_ret
    exact ⟨rfl, (new1 _ _).call HB.out⟩
  · have hne : (chk S W f == 0) = true := by simpa using hb0
    generalize chk S W f = e0 at *
    clear hD hb0
    rcases hb1 : decide (0 ≤ p) with _ | _ <;> rcases hb2 : decide (p ≤ q) with _ | _ <;> rcases hb3 : decide (q ≤ n) with _ | _ <;>
    · go_enter Tryz.func58, Tryz.ntmps58
      go_wp2_with (go_at_call 31; ((with_reducible refine HC.out.mono ?_); rintro e w1 ⟨rfl, hb1⟩; have HB := Lib.hid hb1; obtain ⟨c0, c1, c2, -, -, -⟩ := (Box.new w (.slice A n c) (.slice A' m c') (.int .i64 f) 25).call hb1; clear hb1))
      go_ret
      exact ⟨rfl, (new1 _ _).call HB.out⟩

theorem secsD_snoc (S : List ByteArray) (V : List Wr) (p : Nat) (s : ByteArray) : secsD S (V ++ [((p : Int), s)]) = (secsD S V).set p s := by
  apply List.ext_getElem
  · simp [secsD]
  · intro i h1 h2
    rw [secsD_get, lastW_snoc, List.getElem_set, secsD_get]
    by_cases h : p = i
    · subst h; rw [if_pos rfl, if_pos rfl]
    · rw [if_neg (fun e => h (by have e2 : ((p : Nat) : Int) = (i : Nat) := e; omega)), if_neg h]

/-- One sector is stored. -/
theorem kept_store {w : World} {x y z : Value} {g n cap : Nat} {T : List ByteArray} {wr : World} (h : KeptG w x y z g n cap T wr) (p : Nat) (s : ByteArray) :
    KeptG w x y z g n cap (T.set p s) (wr.setCell ⟨g, p, none⟩ (.string s)).drew := by
  have hb := h.base
  obtain ⟨h1, h2⟩ := h.own.stored p (.string s)
  rw [sv_set] at h1
  have hbel := (h.bel.grown h2 h.bel.size (fun j hj => by injection hj with hj; omega))
  exact ⟨hbel.drew, (h.st.of_block (h2.block _ h.st.lt (by simp; omega))).drew, h1⟩

set_option maxRecDepth 100000 in
set_option maxHeartbeats 1000000 in
theorem rsectors_yes (A : Option Addr) (n c : Nat) (A' : Option Addr) (m c' : Nat) (f : Int) (S : List ByteArray) (W : List Wr) (w : World) (hD : Dev w A n c A' m c' f S W) (h : chk S W f = 0) :
    Calls Tryz.prog 71 #[DV A n c A' m c' f] w fun e w' => ∃ g cap, e = .returned (.slice (some ⟨g, 0, none⟩) n cap) ∧ RV w' (some ⟨g, 0, none⟩) n 1 (SV (secsD S W)) ∧ n ≤ cap ∧ Below w.heap.size w w' := by
  obtain ⟨⟨hn1, hn2, -⟩, hso, hm1, hwo⟩ := chk_ok h
  have HD := Lib.hid hD
  have HS := Lib.hid hD.sec.sec
  have HW := Lib.hid hD.wr.wr
  have HWO := Lib.hid hwo
  have hm : (m : Int) ≤ 1024 := by have := hD.wr.wr; omega
  have hn : 16 ≤ n ∧ n ≤ 512 := by have := hD.sec.sec; omega
  obtain ⟨v0, w0, hap, hown, hgr, -⟩ := append_rv (P := Tryz.prog) (ty := 22) Tryz.underlying22 info9 rfl (by omega) (World.ownsRow_nil (w.alloc (D25 A n c A' m c' f)) (w.heap.size + 1) 9 1) c (hD.new (D25 A n c A' m c' f)).sec (SV_one S) (by omega) (by omega) (by simp)
  obtain ⟨g, cap, hcap, rfl⟩ : ∃ g cap, n ≤ cap ∧ v0 = .slice (some ⟨g, 0, none⟩) n cap := by
    rcases hown.2 with ⟨rfl, h0⟩ | ⟨g, cap, cur, rfl, _, _, hc, _⟩
    · omega
    · exact ⟨g, cap, by simpa using hc, by simp⟩
  have HAP := Lib.hid hap
  have HCap := Lib.hid hcap
  have HK : Hid (KeptG w (.slice A n c) (.slice A' m c') (.int .i64 f) g n cap (secsD S (W.take 0)) w0) :=
    ⟨(new1 w _).grown hgr (by simp) (by simp [Value.ownBlock]), (Box.new w _ _ _ _).of_block (hgr.block _ (by simp) (by simp [Value.ownBlock])), by rw [List.take_zero, secsD_nil]; simpa using hown⟩
  clear hap hown hgr hD h hn1 hn2 hso hm1 hwo hcap
  go_enter Tryz.func71, Tryz.ntmps71
  go_wp2_with (at_builtin; refine wpList_append_run rfl (.tmp 5) (.tmp 7) 22 22 rfl _ _ rfl rfl _ w0 HAP.out ?_)
  go_loopw [4] (fun i wr => ∃ k : Nat, k ≤ m ∧ i = .int .i64 k ∧ Hid (KeptG w (.slice A n c) (.slice A' m c') (.int .i64 f) g n cap (secsD S (W.take k)) wr)) (fun i _ => m - (intOf i).toNat)
  case atStart => exact ⟨0, Nat.zero_le _, rfl, HK.out⟩
  case round =>
    obtain ⟨k, hk, rfl, HK2⟩ := hrel
    clear HK HAP
    obtain ⟨c0, c1, c2, f0, f1, f2⟩ := HK2.out.st
    by_cases hlt : k < m
    · have hl : k < W.length := by have := HW.out; omega
      obtain ⟨b, off, rfl, hb, hc0, hc1⟩ := (HD.out.wr.below HK2.out.bel).wrAt hlt hl
      have hx := (wrOk_iff _ _).1 (List.all_eq_true.1 HWO.out _ (List.getElem_mem hl))
      have hT : secsD S (W.take (k + 1)) = (secsD S (W.take k)).set W[k].1.toNat W[k].2 := by
        rw [List.take_succ_eq_append_getElem hl, ← secsD_snoc, show ((W[k].1.toNat : Nat) : Int) = W[k].1 from by omega]
      have HT := Lib.hid hT
      clear hT
      generalize W[k] = x at *
      obtain ⟨p, s⟩ := x
      dsimp only at hc0 hc1 hx HT
      obtain ⟨p, rfl⟩ := Int.eq_ofNat_of_zero_le hx.1
      rw [Int.toNat_natCast] at HT
      have hpn : p < n := by have := HS.out; omega
      have hcp : wr.cell? ⟨g, p, none⟩ = some (.string ((secsD S (W.take k)).getD p ⟨#[]⟩)) := by
        have hpl : p < (secsD S (W.take k)).length := by rw [secsD_length]; have := HS.out; omega
        rw [HK2.out.own.cellAt p (by omega)]; simp [SV, hpl]
      have hfp := HK2.out.own.frozenAt p
      have HG := Lib.hid (kept_store HK2.out p s)
      generalize secsD S (W.take k) = Tk at *
      generalize Tk.getD p ⟨#[]⟩ = t at *
      have hgl : g < wr.heap.size := cell_lt hcp
      have hbl : b < wr.heap.size := hb
      have i1 : (p : Int) < (n : Int) := by omega
      have i2 : (k : Int) < (m : Int) := by omega
      clear hx hl
      go_wp2_with fail
      go_region
      all_goals (
        go_wp2_with fail
        go_roundw
        case rel => exact ⟨k + 1, by omega, by go_num, by rw [HT.out]; exact HG.out⟩
        case measure => simp [intOf]; omega)
    · have hk2 : W.take k = W := List.take_of_length_le (by have := HW.out; omega)
      rw [hk2] at HK2
      clear hk2
      go_wp2
      go_ret
      exact ⟨g, cap, rfl, RV.of_own HK2.out.own, HCap.out, HK2.out.bel⟩

end Go.Proofs.YtmgpngfgmfdldaaGreatDoor.Slt
