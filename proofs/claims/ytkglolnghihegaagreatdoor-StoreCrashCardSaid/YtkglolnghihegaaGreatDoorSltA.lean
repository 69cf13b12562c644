import Derived.Test.YtkglolnghihegaaGreatDoorDskR
import Derived.Test.YtkglolnghihegaaGreatDoorSlotsTop
import Derived.Test.YtkglolnghihegaaGreatDoorSlotsSmall
import Derived.Test.YtkglolnghihegaaGreatDoorSheetRefS
import Derived.Test.YtkglolnghihegaaGreatDoorSlotsDrain
import Derived.Deep.DeepCutAuto

/- Contracts of the document's may, sectors and Top of package slots. -/
namespace Go.Proofs.YtkglolnghihegaaGreatDoor.Slt
open Go.RowKit Go.Proofs.YtkglolnghihegaaGreatDoor.Dsk Go.Proofs.YtkglolnghihegaaGreatDoor.Sht

theorem rmay_any (A : Option Addr) (n c : Nat) (A' : Option Addr) (m c' : Nat) (f : Int) (S : List ByteArray) (W : List Wr) (p q : Int) (w : World) (hD : Dev w A n c A' m c' f S W) :
    Calls Tryz.prog 112 #[DV A n c A' m c' f, .int .i64 p, .int .i64 q] w fun r w' => r = .returned (.bool (okS S W f p q)) ∧ Below w.heap.size w w' := by
  have HC := Lib.hid (rcheck_any A n c A' m c' f S W _ (hD.new (D25 A n c A' m c' f)))
  have hn := hD.sec.sec
  unfold okS
  rw [hn]
  rcases hb0 : decide (chk S W f = 0) with _ | _
  · have hne : (chk S W f == 0) = false := by simpa using hb0
    generalize chk S W f = e0 at *
    clear hD hb0
    go_enter Tryz.func112, Tryz.ntmps112
    go_wp2_with (go_at_call 37; ((with_reducible refine HC.out.mono ?_); rintro e w1 ⟨rfl, hb1⟩; have HB := Lib.hid hb1; obtain ⟨c0, c1, c2, -, -, -⟩ := (Box.new w (.slice A n c) (.slice A' m c') (.int .i64 f) 25).call hb1; clear hb1))
    go_ret
    exact ⟨rfl, (new1 _ _).call HB.out⟩
  · have hne : (chk S W f == 0) = true := by simpa using hb0
    generalize chk S W f = e0 at *
    clear hD hb0
    rcases hb1 : decide (0 ≤ p) with _ | _ <;> rcases hb2 : decide (p ≤ q) with _ | _ <;> rcases hb3 : decide (q ≤ n) with _ | _ <;>
    · go_enter Tryz.func112, Tryz.ntmps112
      go_wp2_with (go_at_call 37; ((with_reducible refine HC.out.mono ?_); rintro e w1 ⟨rfl, hb1⟩; have HB := Lib.hid hb1; obtain ⟨c0, c1, c2, -, -, -⟩ := (Box.new w (.slice A n c) (.slice A' m c') (.int .i64 f) 25).call hb1; clear hb1))
      go_ret
      exact ⟨rfl, (new1 _ _).call HB.out⟩

theorem secsD_snoc (S : List ByteArray) (V : List Wr) (p : Nat) (s : ByteArray) : secsD S (V ++ [((p : Int), s)]) = (secsD S V).set p s := by
  apply List.ext_getElem
  · simp [secsD]
  · intro i h1 h2
    rw [secsD_get, lastW_snoc, List.getElem_set, secsD_get]
    by_cases h : p = i
    · subst h; rw [if_pos rfl, if_pos rfl]
    · rw [if_neg (fun e => h (by have e2 : ((p : Nat) : Int) = (i : Nat) := e; omega)), if_neg h]

/-- One sector is stored. -/
theorem kept_store {w : World} {x y z : Value} {g n cap : Nat} {T : List ByteArray} {wr : World} (h : KeptG w x y z g n cap T wr) (p : Nat) (s : ByteArray) :
    KeptG w x y z g n cap (T.set p s) (wr.setCell ⟨g, p, none⟩ (.string s)).drew := by
  have hb := h.base
  obtain ⟨h1, h2⟩ := h.own.stored p (.string s)
  rw [sv_set] at h1
  have hbel := (h.bel.grown h2 h.bel.size (fun j hj => by injection hj with hj; omega))
  exact ⟨hbel.drew, (h.st.of_block (h2.block _ h.st.lt (by simp; omega))).drew, h1⟩

set_option maxRecDepth 100000 in
set_option maxHeartbeats 1000000 in
theorem rsectors_yes (A : Option Addr) (n c : Nat) (A' : Option Addr) (m c' : Nat) (f : Int) (S : List ByteArray) (W : List Wr) (w : World) (hD : Dev w A n c A' m c' f S W) (h : chk S W f = 0) :
    Calls Tryz.prog 70 #[DV A n c A' m c' f] w fun e w' => ∃ g cap, e = .returned (.slice (some ⟨g, 0, none⟩) n cap) ∧ RV w' (some ⟨g, 0, none⟩) n 1 (SV (secsD S W)) ∧ n ≤ cap ∧ Below w.heap.size w w' := by
  obtain ⟨⟨hn1, hn2, -⟩, hso, hm1, hwo⟩ := chk_ok h
  have HD := Lib.hid hD
  have HS := Lib.hid hD.sec.sec
  have HW := Lib.hid hD.wr.wr
  have HWO := Lib.hid hwo
  have hm : (m : Int) ≤ 1024 := by have := hD.wr.wr; omega
  have hn : 16 ≤ n ∧ n ≤ 512 := by have := hD.sec.sec; omega
  obtain ⟨v0, w0, hap, hown, hgr, -⟩ := append_rv (P := Tryz.prog) (ty := 22) Tryz.underlying22 info9 rfl (by omega) (World.ownsRow_nil (w.alloc (D25 A n c A' m c' f)) (w.heap.size + 1) 9 1) c (hD.new (D25 A n c A' m c' f)).sec (SV_one S) (by omega) (by omega) (by simp)
  obtain ⟨g, cap, hcap, rfl⟩ : ∃ g cap, n ≤ cap ∧ v0 = .slice (some ⟨g, 0, none⟩) n cap := by
    rcases hown.2 with ⟨rfl, h0⟩ | ⟨g, cap, cur, rfl, _, _, hc, _⟩
    · omega
    · exact ⟨g, cap, by simpa using hc, by simp⟩
  have HAP := Lib.hid hap
  have HCap := Lib.hid hcap
  have HK : Hid (KeptG w (.slice A n c) (.slice A' m c') (.int .i64 f) g n cap (secsD S (W.take 0)) w0) :=
    ⟨(new1 w _).grown hgr (by simp) (by simp [Value.ownBlock]), (Box.new w _ _ _ _).of_block (hgr.block _ (by simp) (by simp [Value.ownBlock])), by rw [List.take_zero, secsD_nil]; simpa using hown⟩
  clear hap hown hgr hD h hn1 hn2 hso hm1 hwo hcap
  go_enter Tryz.func70, Tryz.ntmps70
  go_wp2_with (at_builtin; refine wpList_append_run rfl (.tmp 5) (.tmp 7) 22 22 rfl _ _ rfl rfl _ w0 HAP.out ?_)
  go_loopw [4] (fun i wr => ∃ k : Nat, k ≤ m ∧ i = .int .i64 k ∧ Hid (KeptG w (.slice A n c) (.slice A' m c') (.int .i64 f) g n cap (secsD S (W.take k)) wr)) (fun i _ => m - (intOf i).toNat)
  case atStart => exact ⟨0, Nat.zero_le _, rfl, HK.out⟩
  case round =>
    obtain ⟨k, hk, rfl, HK2⟩ := hrel
    clear HK HAP
    obtain ⟨c0, c1, c2, f0, f1, f2⟩ := HK2.out.st
    by_cases hlt : k < m
    · have hl : k < W.length := by have := HW.out; omega
      obtain ⟨b, off, rfl, hb, hc0, hc1⟩ := (HD.out.wr.below HK2.out.bel).wrAt hlt hl
      have hx := (wrOk_iff _ _).1 (List.all_eq_true.1 HWO.out _ (List.getElem_mem hl))
      have hT : secsD S (W.take (k + 1)) = (secsD S (W.take k)).set W[k].1.toNat W[k].2 := by
        rw [List.take_succ_eq_append_getElem hl, ← secsD_snoc, show ((W[k].1.toNat : Nat) : Int) = W[k].1 from by omega]
      have HT := Lib.hid hT
      clear hT
      generalize W[k] = x at *
      obtain ⟨p, s⟩ := x
      dsimp only at hc0 hc1 hx HT
      obtain ⟨p, rfl⟩ := Int.eq_ofNat_of_zero_le hx.1
      rw [Int.toNat_natCast] at HT
      have hpn : p < n := by have := HS.out; omega
      have hcp : wr.cell? ⟨g, p, none⟩ = some (.string ((secsD S (W.take k)).getD p ⟨#[]⟩)) := by
        have hpl : p < (secsD S (W.take k)).length := by rw [secsD_length]; have := HS.out; omega
        rw [HK2.out.own.cellAt p (by omega)]; simp [SV, hpl]
      have hfp := HK2.out.own.frozenAt p
      have HG := Lib.hid (kept_store HK2.out p s)
      generalize secsD S (W.take k) = Tk at *
      generalize Tk.getD p ⟨#[]⟩ = t at *
      have hgl : g < wr.heap.size := cell_lt hcp
      have hbl : b < wr.heap.size := hb
      have i1 : (p : Int) < (n : Int) := by omega
      have i2 : (k : Int) < (m : Int) := by omega
      clear hx hl
      go_wp2_with fail
      go_region
      all_goals (
        go_wp2_with fail
        go_roundw
        case rel => exact ⟨k + 1, by omega, by go_num, by rw [HT.out]; exact HG.out⟩
        case measure => simp [intOf]; omega)
    · have hk2 : W.take k = W := List.take_of_length_le (by have := HW.out; omega)
      rw [hk2] at HK2
      clear hk2
      go_wp2
      go_ret
      exact ⟨g, cap, rfl, RV.of_own HK2.out.own, HCap.out, HK2.out.bel⟩

end Go.Proofs.YtkglolnghihegaaGreatDoor.Slt

/- Contracts of the document's Top and Drain of package slots. -/
namespace Go.Proofs.YtkglolnghihegaaGreatDoor.Slt
open Go.RowKit Go.Proofs.YtkglolnghihegaaGreatDoor.Dsk Go.Proofs.YtkglolnghihegaaGreatDoor.Sht

theorem rtop_no (A : Option Addr) (n c : Nat) (A' : Option Addr) (m c' : Nat) (f : Int) (S : List ByteArray) (V : List Wr) (w : World) (hD : Dev w A n c A' m c' f S V) (h : ¬ chk S V f = 0) :
    Calls Tryz.prog 38 #[DV A n c A' m c' f] w fun r w' => r = .returned (.int .i64 0) ∧ Below w.heap.size w w' := by
  have HC := Lib.hid (rcheck_any A n c A' m c' f S V _ (hD.new (D25 A n c A' m c' f)))
  have hne := neq0 h
  generalize chk S V f = e0 at *
  clear hD h
  go_enter Tryz.func38, Tryz.ntmps38
  go_wp2_with (go_at_call 37; ((with_reducible refine HC.out.mono ?_); rintro e w1 ⟨rfl, hb1⟩; have HB := Lib.hid hb1; clear hb1))
  go_ret
  exact ⟨rfl, (new1 _ _).call HB.out⟩

set_option maxHeartbeats 1000000 in
theorem rtop_yes_ (A : Option Addr) (n c : Nat) (A' : Option Addr) (m c' : Nat) (f : Int) (S : List ByteArray) (V : List Wr) (w : World) (hD : Dev w A n c A' m c' f S V) (h : chk S V f = 0) :
    Calls Tryz.prog 38 #[DV A n c A' m c' f] w fun r w' => r = .returned (.int .i64 (topL (secsD S V))) ∧ Below w.heap.size w w' := by
  have hc := rcheck_any A n c A' m c' f S V _ (hD.new (D25 A n c A' m c' f))
  rw [h] at hc
  have HC := Lib.hid hc
  have HSx := Lib.hid (fun W (hb : Below w.heap.size w W) => rsectors_yes A n c A' m c' f S V W (hD.below hb) h)
  have hn := hD.sec.sec
  have HLn := Lib.hid (secsD_length S V)
  rw [hn] at HLn
  have hn5 : (n : Int) ≤ 512 := by obtain ⟨⟨-, h2, -⟩, -⟩ := chk_ok h; omega
  generalize secsD S V = L at *
  clear hD h hc hn
  go_enter Tryz.func38, Tryz.ntmps38
  go_wp2_with (go_at_call 37; ((with_reducible refine HC.out.mono ?_); rintro e w1 ⟨rfl, hb1⟩; have HB := Lib.hid ((new1 w (D25 A n c A' m c' f)).call hb1); obtain ⟨c0, c1, c2, -, -, -⟩ := (Box.new w (.slice A n c) (.slice A' m c') (.int .i64 f) 25).call hb1; clear hb1))
  with_reducible refine (HSx.out _ HB.out).mono ?_
  rintro r w2 ⟨g, cap, rfl, hr2, hcap, b2⟩
  have HB2 := Lib.hid (HB.out.call b2)
  have HR2 := Lib.hid hr2
  clear b2 hr2 c0 c1 c2 HC HSx HB
  go_wp2_with fail
  go_loopw [3, 5] (fun s3 s5 wr => ∃ i : Nat, i ≤ n ∧ s5 = .int .i64 i ∧ s3 = .int .i64 (topL (L.take i)) ∧ Hid (Below w2.heap.size w2 wr)) (fun _ s5 _ => n - (intOf s5).toNat)
  case atStart => exact ⟨0, Nat.zero_le _, rfl, rfl, Lib.hid (Below.refl _ _)⟩
  case round =>
    obtain ⟨i, hi, rfl, rfl, HI⟩ := hrel
    by_cases hlt : i < n
    · have hil : i < L.length := by have := HLn.out; omega
      obtain ⟨b, off, e, hb, hall⟩ := (HR2.out.below HI.out).2 (by omega)
      have t0 := hall i (by rw [SV_length]; exact hil)
      rw [show (SV L)[i]'(by rw [SV_length]; exact hil) = .string L[i] from by simp [SV]] at t0
      injection e with e
      injection e with e1 e2
      subst e1 e2
      rw [Nat.zero_add] at t0
      clear hall
      have HTk := Lib.hid (show topL (L.take (i + 1)) = max (topL (L.take i)) (topR L[i]) from by rw [List.take_succ_eq_append_getElem hil, topL_snoc])
      have HTP := Lib.hid (fun W => rtop_any L[i] W)
      generalize L[i] = x at *
      generalize topL (L.take i) = z at *
      generalize topR x = y at *
      go_wp2_with (go_at_call 71; ((with_reducible refine (HTP.out _).mono ?_); rintro e w3 ⟨rfl, hb3⟩; have HI3 := Lib.hid (HI.out.call hb3); clear hb3))
      go_roundw
      case rel => exact ⟨i + 1, by omega, by go_num, by rw [HTk.out], HI3⟩
      case measure => simp [intOf]; omega
    · obtain rfl : i = n := by omega
      rw [List.take_of_length_le (by have := HLn.out; omega)]
      go_wp2_with fail
      go_ret
      exact ⟨rfl, HB2.out.call HI.out⟩

theorem rtopD_any (A : Option Addr) (n c : Nat) (A' : Option Addr) (m c' : Nat) (f : Int) (S : List ByteArray) (V : List Wr) (w : World) (hD : Dev w A n c A' m c' f S V) :
    Calls Tryz.prog 38 #[DV A n c A' m c' f] w fun r w' => r = .returned (.int .i64 (topD S V f)) ∧ Below w.heap.size w w' := by
  unfold topD
  by_cases h : chk S V f = 0
  · rw [if_pos h]; exact rtop_yes_ A n c A' m c' f S V w hD h
  · rw [if_neg h]; exact rtop_no A n c A' m c' f S V w hD h

/-- The texts that are collected. -/
structure OutR (a wr : World) (L : List ByteArray) (v : Value) : Prop where
  bel : Below a.heap.size a wr
  own : wr.ownsRow a.heap.size 9 1 v L.length (SV L)
theorem own_below_ {w w' : World} {B : Nat} {e k n : Nat} {v : Value} {xs : List Value} (h : w.ownsRow B e k v n xs) (hb : Below w.heap.size w w') : w'.ownsRow B e k v n xs :=
  h.kept (row := none) ⟨hb.os, hb.tape, hb.output, hb.size, fun j hj _ => hb.block j hj⟩ (by cases v.ownBlock <;> simp)
theorem OutR.call {a wr w' : World} {L : List ByteArray} {v : Value} (h : OutR a wr L v) (hb : Below wr.heap.size wr w') : OutR a w' L v := ⟨h.bel.call hb, own_below_ h.own hb⟩
theorem OutR.val {a wr : World} {L : List ByteArray} {v : Value} (h : OutR a wr L v) : ∃ ad c, v = .slice ad L.length c ∧ L.length ≤ c := by
  rcases h.own.2 with ⟨rfl, h0⟩ | ⟨g, cap, cur, rfl, _⟩
  · exact ⟨none, 0, by rw [h0], by omega⟩
  · rename_i hnc
    exact ⟨_, _, rfl, hnc.2.2.1⟩
theorem OutR.more {a wr : World} {L : List ByteArray} {v : Value} (h : OutR a wr L v) (hj : (L.length : Int) ≤ 1000) (s : ByteArray) :
    ∃ v' w', (Builtin.append_ #[22, 22] 22 #[v, .slice (some ⟨wr.heap.size, 0, none⟩) 1 1]).run Tryz.prog (wr.alloc (.cells #[.string s] 9)) = .ok v' w' ∧ OutR a w' (L ++ [s]) v' := by
  have hb5 : Below wr.heap.size wr (wr.alloc (.cells #[.string s] 9)) := (Below.refl _ _).push _
  obtain ⟨v', w', hap, hown, hgr, -⟩ := append_rv (P := Tryz.prog) (w := (wr.alloc (.cells #[.string s] 9))) (ty := 22) Tryz.underlying22 info9 rfl (by omega) (own_below_ h.own hb5) 1 ((Blk.new wr 9 #[.string s]).rv (n := 1) (k := 1) (vs := SV [s]) rfl) (SV_one _) (by omega) (by omega) (by have h1 := h.bel.size; have h2 := hb5.size; exact Nat.le_trans h1 h2)
  refine ⟨v', w', hap, (h.bel.push (.cells #[.string s] 9)).grown hgr (by have h1 := h.bel.size; have h2 := hb5.size; exact Nat.le_trans h1 h2) (base_of_own h.own), ?_⟩
  rw [SV_append, List.length_append]
  exact hown

theorem rdrain_no (A : Option Addr) (n c : Nat) (A' : Option Addr) (m c' : Nat) (f : Int) (S : List ByteArray) (V : List Wr) (p q : Int) (w : World) (hD : Dev w A n c A' m c' f S V) (h : okS S V f p q = false) :
    Calls Tryz.prog 75 #[DV A n c A' m c' f, .int .i64 p, .int .i64 q] w (RetT w []) := by
  have HC := Lib.hid (rmay_any A n c A' m c' f S V p q _ (hD.new (D25 A n c A' m c' f)))
  rw [h] at HC
  clear hD h
  go_enter Tryz.func75, Tryz.ntmps75
  go_wp2_with (go_at_call 112; ((with_reducible refine HC.out.mono ?_); rintro e w1 ⟨rfl, hb1⟩; have HB := Lib.hid hb1; clear hb1))
  go_ret
  exact ⟨none, 0, 0, rfl, RV.nil _ _ _, (new1 _ _).call HB.out⟩

set_option maxHeartbeats 2000000 in
theorem rdrain_yes (A : Option Addr) (n c : Nat) (A' : Option Addr) (m c' : Nat) (f : Int) (S : List ByteArray) (V : List Wr) (a b : Nat) (w : World) (hD : Dev w A n c A' m c' f S V) (h : okS S V f a b = true) :
    Calls Tryz.prog 75 #[DV A n c A' m c' f, .int .i64 a, .int .i64 b] w (RetT w (drainL (part (secsD S V) a b))) := by
  have hc := rmay_any A n c A' m c' f S V a b _ (hD.new (D25 A n c A' m c' f))
  rw [h] at hc
  have HC := Lib.hid hc
  obtain ⟨hk, k2, k3, k4⟩ := okS_yes h
  have HSx := Lib.hid (fun W (hb : Below w.heap.size w W) => rsectors_yes A n c A' m c' f S V W (hD.below hb) hk)
  have hn := hD.sec.sec
  have HLn := Lib.hid (secsD_length S V)
  rw [hn] at HLn
  have hn5 : (n : Int) ≤ 512 := by obtain ⟨⟨-, h2, -⟩, -⟩ := chk_ok hk; omega
  have hab : a ≤ b := by omega
  have hbn : b ≤ n := by omega
  generalize secsD S V = L at *
  clear hD h hc hn hk k2 k3 k4
  go_enter Tryz.func75, Tryz.ntmps75
  go_wp2_with (go_at_call 112; ((with_reducible refine HC.out.mono ?_); rintro e w1 ⟨rfl, hb1⟩; have HB := Lib.hid ((new1 w (D25 A n c A' m c' f)).call hb1); obtain ⟨c0, c1, c2, -, -, -⟩ := (Box.new w (.slice A n c) (.slice A' m c') (.int .i64 f) 25).call hb1; clear hb1))
  with_reducible refine (HSx.out _ HB.out).mono ?_
  rintro r w2 ⟨g, cap, rfl, hr2, hcap, b2⟩
  have HB2 := Lib.hid (HB.out.call b2)
  have HR2 := Lib.hid hr2
  clear b2 hr2 c0 c1 c2 HC HSx HB
  go_wp2_with fail
  go_loopw [7, 9] (fun s7 s9 wr => ∃ i : Nat, a ≤ i ∧ i ≤ b ∧ s9 = .int .i64 i ∧ Hid (OutR w2 wr (drainL (part L a i)) s7 ∧ ∀ s ∈ part L a i, wholeB s = true)) (fun _ s9 _ => b - (intOf s9).toNat)
  case atStart => exact ⟨a, Nat.le_refl _, hab, rfl, Lib.hid ⟨⟨Below.refl _ _, by rw [part_none]; exact World.ownsRow_nil _ _ _ _⟩, by rw [part_none]; simp⟩⟩
  case round =>
    obtain ⟨i, hai, hi, rfl, HI⟩ := hrel
    obtain ⟨ad, cp, rfl, hlc⟩ := HI.out.1.val
    by_cases hlt : i < b
    · have hil : i < L.length := by have := HLn.out; omega
      have hin : i < n := by omega
      obtain ⟨b', off, e, hb, hall⟩ := (HR2.out.below HI.out.1.bel).2 (by omega)
      have t0 := hall i (by rw [SV_length]; exact hil)
      rw [show (SV L)[i]'(by rw [SV_length]; exact hil) = .string L[i] from by simp [SV]] at t0
      injection e with e
      injection e with e1 e2
      subst e1 e2
      rw [Nat.zero_add] at t0
      clear hall
      have hps := part_succ hai hil
      have HAll := Lib.hid HI.out.2
      have HWh := Lib.hid (fun W => rwhole_any L[i] W)
      have HOp := Lib.hid (fun W => ropen_any L[i] W)
      rcases hw : wholeB L[i] with _ | _
      · -- not whole: it ends here
        have hw2 : ((openR L[i]).2.2 == 0) = false := hw
        rw [hw2] at HWh
        have hend : drainL (part L a b) = drainL (part L a i) := by
          obtain ⟨R, hR⟩ := part_prefix (L := L) (Nat.le_succ_of_le hai) (show i + 1 ≤ b by omega) (by have := HLn.out; omega)
          rw [← hR, hps, List.append_assoc]
          exact drainL_end HAll.out hw
        have HEnd := Lib.hid hend
        clear hend hps hw hw2 HOp
        generalize drainL (part L a i) = O at *
        generalize L[i] = x at *
        go_wp2_with (go_at_call 113; ((with_reducible refine (HWh.out _).mono ?_); rintro e w3 ⟨rfl, hb3⟩; have HI3 := Lib.hid (HI.out.1.call hb3); clear hb3))
        go_ret
        exact ⟨_, _, _, rfl, by rw [HEnd.out]; exact RV.of_own HI3.out.own, HB2.out.call HI3.out.bel⟩
      · have hw2 : ((openR L[i]).2.2 == 0) = true := hw
        rw [hw2] at HWh
        have hmore : drainL (part L a (i + 1)) = drainL (part L a i) ++ [(openR L[i]).2.1] := by
          rw [hps]; exact drainL_more HAll.out hw
        have hall2 : ∀ s ∈ part L a (i + 1), wholeB s = true := by
          rw [hps]; intro s hs
          rcases List.mem_append.1 hs with h | h
          · exact HAll.out s h
          · rw [List.mem_singleton.1 h]; exact hw
        have hlen : (drainL (part L a i)).length ≤ i - a := by
          have := drainL_len (part L a i)
          rw [part_length (by have := HLn.out; omega)] at this
          exact this
        have HMore := Lib.hid hmore
        have HAll2 := Lib.hid hall2
        clear hmore hall2 hps hw hw2
        generalize openR L[i] = o at *
        obtain ⟨o1, o2, o3⟩ := o
        dsimp only at HOp HMore
        generalize drainL (part L a i) = O at *
        generalize L[i] = x at *
        go_wp2_with (go_at_call 113; ((with_reducible refine (HWh.out _).mono ?_); rintro e w3 ⟨rfl, hb3⟩; have HI3 := Lib.hid (HI.out.1.call hb3); have t1 := (hb3.cell (p := ⟨g, i, none⟩) hb).trans t0; have hb' := Nat.lt_of_lt_of_le hb hb3.size; clear hb3 t0))
        with_reducible refine (HOp.out _).mono ?_
        rintro e w4 ⟨rfl, b4⟩
        have HI4 := Lib.hid (HI3.out.call b4)
        obtain ⟨v', w', hap, hO⟩ := HI4.out.more (by omega) o2
        have HAP := Lib.hid hap
        have HO := Lib.hid hO
        clear b4 hap hO
        go_wp2_with (at_builtin; refine wpList_append_run rfl (.tmp 42) (.tmp 44) 22 22 rfl _ _ rfl rfl v' w' HAP.out ?_)
        go_roundw
        case rel => exact ⟨i + 1, by omega, by omega, by go_num, Lib.hid ⟨by rw [HMore.out]; exact HO.out, HAll2.out⟩⟩
        case measure => simp [intOf]; omega
    · obtain rfl : i = b := by omega
      generalize drainL (part L a i) = O at *
      go_wp2_with fail
      go_ret
      exact ⟨_, _, _, rfl, RV.of_own HI.out.1.own, HB2.out.call HI.out.1.bel⟩

theorem rdrain_any (A : Option Addr) (n c : Nat) (A' : Option Addr) (m c' : Nat) (f : Int) (S : List ByteArray) (V : List Wr) (p q : Int) (w : World) (hD : Dev w A n c A' m c' f S V) :
    Calls Tryz.prog 75 #[DV A n c A' m c' f, .int .i64 p, .int .i64 q] w (RetT w (drainD S V f p q)) := by
  unfold drainD
  by_cases h : okS S V f p q = true
  · rw [if_pos h]
    obtain ⟨-, h2, h3, -⟩ := okS_yes h
    obtain ⟨a, rfl⟩ := Int.eq_ofNat_of_zero_le h2
    obtain ⟨b, rfl⟩ := Int.eq_ofNat_of_zero_le (show 0 ≤ q by omega)
    rw [Int.toNat_natCast, Int.toNat_natCast]
    exact rdrain_yes A n c A' m c' f S V a b w hD h
  · rw [if_neg h]
    exact rdrain_no A n c A' m c' f S V p q w hD (by simpa using h)

end Go.Proofs.YtkglolnghihegaaGreatDoor.Slt
