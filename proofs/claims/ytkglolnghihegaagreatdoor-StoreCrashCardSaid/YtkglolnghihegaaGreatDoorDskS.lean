import Derived.Test.YtkglolnghihegaaGreatDoorDskA
import Derived.Deep.QuietTactic
import Derived.BigQuiet
import Derived.Test.YtkglolnghihegaaGreatDoorDskB

/- Contracts of slices.Equal at []string and []Write, and of Same of package disk. -/
namespace Go.Proofs.YtkglolnghihegaaGreatDoor.Dsk
open Go.RowKit

theorem below_n {B : Nat} {a w : World} (h : Below B a w) (n : Nat) : Below B a (w.drewN n) := ⟨h.os, h.tape, h.output, h.size, h.block⟩
theorem str_ne {s t : ByteArray} (h : ¬ s = t) : (s.toList == t.toList) = false := by
  rw [Bool.eq_false_iff]
  intro e
  have e2 := eq_of_beq e
  rw [ByteArray.toList_eq, ByteArray.toList_eq] at e2
  exact h (ByteArray.ext (Array.toList_inj.1 e2))
theorem str_eq (s : ByteArray) : (s.toList == s.toList) = true := by simp
theorem ret_bool {a b : Bool} (h : a = b) : Ending.returned (.bool a) = .returned (.bool b) := by rw [h]

set_option maxHeartbeats 1000000 in
theorem eqS_any (A : Option Addr) (n c : Nat) (S : List ByteArray) (B : Option Addr) (m d : Nat) (T : List ByteArray) (w : World) (h1 : RV w A n 1 (SV S)) (h2 : RV w B m 1 (SV T)) (hn : n ≤ 2000) :
    Calls Tryz.prog 84 #[.slice A n c, .slice B m d] w fun e w' => e = .returned (.bool (decide (S = T))) ∧ Below w.heap.size w w' := by
  have hS := h1.sec
  have hT := h2.sec
  have hn' : (n : Int) ≤ 2000 := by omega
  by_cases hl : n = m
  · obtain rfl : n = m := hl
    have H1 := Lib.hid h1
    have H2 := Lib.hid h2
    have HS := Lib.hid hS
    have HT := Lib.hid hT
    clear h1 h2 hS hT hn
    go_enter Tryz.func84, Tryz.ntmps84
    go_wp2
    go_loopw [13] (fun i wr => ∃ k : Nat, k ≤ n ∧ i = .int .i64 k ∧ Hid (S.take k = T.take k) ∧ Below w.heap.size w wr) (fun i _ => n - (intOf i).toNat)
    case atStart => exact ⟨0, by omega, rfl, rfl, Below.refl _ _⟩
    case round =>
      obtain ⟨k, hk, rfl, HA, hbel⟩ := hrel
      by_cases hlt : k < n
      · have l1 : k < S.length := by have := HS.out; omega
        have l2 : k < T.length := by have := HT.out; omega
        obtain ⟨b, off, rfl, -, c1⟩ := (H1.out.below hbel).secAt hlt l1
        obtain ⟨b', off', rfl, -, c2⟩ := (H2.out.below hbel).secAt hlt l2
        have HB := Lib.hid hbel
        have HN := Lib.hid (fun e => take_step HA.out l1 l2 e)
        have HX := Lib.hid (fun e => ne_at l1 l2 e)
        generalize S[k] = s at *
        generalize T[k] = t at *
        clear hbel l1 l2
        have i1 : (k : Int) < (n : Int) := by omega
        by_cases hst : s = t
        · subst hst
          have HN2 := Lib.hid (HN.out rfl)
          have hq := str_eq s
          clear HN HX
          go_wp2_with fail
          go_quiet (fail)
          go_wp2
          go_roundw
          case rel => exact ⟨k + 1, by omega, by go_num, HN2.out, below_n HB.out _⟩
          case measure => simp [intOf]; omega
        · have hq := str_ne hst
          have HX2 := Lib.hid (HX.out hst)
          clear HN HX hst
          go_wp2_with fail
          go_quiet (fail)
          go_wp2
          go_ret
          exact ⟨ret_bool (by simpa using HX2.out), below_n HB.out _⟩
      · have HE := Lib.hid (take_all HA.out (by have := HS.out; omega) (by have := HT.out; omega))
        have HB := Lib.hid hbel
        clear HA hbel
        go_wp2
        go_ret
        exact ⟨ret_bool (by simpa using HE.out), HB.out⟩
  · have HE := Lib.hid (show decide (S = T) = false from decide_eq_false (fun e => hl (by subst e; omega)))
    have hd : ((n : Int) != (m : Int)) = true := by simp; omega
    clear h1 h2 hS hT hl
    go_enter Tryz.func84, Tryz.ntmps84
    go_wp2
    go_ret
    exact ⟨ret_bool HE.out.symm, Below.refl _ _⟩

theorem wr_eq (x y : Wr) : x = y ↔ x.1 = y.1 ∧ x.2 = y.2 := Prod.ext_iff

set_option maxHeartbeats 1000000 in
theorem eqW_any (A : Option Addr) (n c : Nat) (S : List Wr) (B : Option Addr) (m d : Nat) (T : List Wr) (w : World) (h1 : RV w A n 2 (WV S)) (h2 : RV w B m 2 (WV T)) (hn : n ≤ 2000) :
    Calls Tryz.prog 85 #[.slice A n c, .slice B m d] w fun e w' => e = .returned (.bool (decide (S = T))) ∧ Below w.heap.size w w' := by
  have hS := h1.wr
  have hT := h2.wr
  have hn' : (n : Int) ≤ 2000 := by omega
  by_cases hl : n = m
  · obtain rfl : n = m := hl
    have H1 := Lib.hid h1
    have H2 := Lib.hid h2
    have HS := Lib.hid hS
    have HT := Lib.hid hT
    clear h1 h2 hS hT hn
    go_enter Tryz.func85, Tryz.ntmps85
    go_wp2
    go_loopw [13] (fun i wr => ∃ k : Nat, k ≤ n ∧ i = .int .i64 k ∧ Hid (S.take k = T.take k) ∧ Below w.heap.size w wr) (fun i _ => n - (intOf i).toNat)
    case atStart => exact ⟨0, by omega, rfl, rfl, Below.refl _ _⟩
    case round =>
      obtain ⟨k, hk, rfl, HA, hbel⟩ := hrel
      by_cases hlt : k < n
      · have l1 : k < S.length := by have := HS.out; omega
        have l2 : k < T.length := by have := HT.out; omega
        obtain ⟨b, off, rfl, -, c1, d1⟩ := (H1.out.below hbel).wrAt hlt l1
        obtain ⟨b', off', rfl, -, c2, d2⟩ := (H2.out.below hbel).wrAt hlt l2
        have HB := Lib.hid hbel
        have HN := Lib.hid (fun e => take_step HA.out l1 l2 e)
        have HX := Lib.hid (fun e => ne_at l1 l2 e)
        generalize S[k] = x at *
        generalize T[k] = y at *
        obtain ⟨p, s⟩ := x
        obtain ⟨q, t⟩ := y
        dsimp only at c1 d1 c2 d2
        clear hbel l1 l2
        have i1 : (k : Int) < (n : Int) := by omega
        by_cases hst : s = t ∧ p = q
        · obtain ⟨rfl, rfl⟩ := hst
          have HN2 := Lib.hid (HN.out rfl)
          have hq := str_eq s
          clear HN HX
          go_wp2_with fail
          go_quiet (fail)
          go_wp2
          go_roundw
          case rel => exact ⟨k + 1, by omega, by go_num, HN2.out, below_n HB.out _⟩
          case measure => simp [intOf]; omega
        · have HX2 := Lib.hid (HX.out (fun e => hst (by injection e with e1 e2; exact ⟨e2, e1⟩)))
          by_cases hpq : p = q
          · subst hpq
            have hq := str_ne (fun e => hst ⟨e, rfl⟩)
            clear HN HX hst
            go_wp2_with fail
            go_quiet (fail)
            go_wp2
            go_ret
            exact ⟨ret_bool (by simpa using HX2.out), below_n HB.out _⟩
          · have hq : (p == q) = false := by simpa using hpq
            clear HN HX hst hpq
            go_wp2_with fail
            go_quiet (fail)
            go_wp2
            go_ret
            exact ⟨ret_bool (by simpa using HX2.out), below_n HB.out _⟩
      · have HE := Lib.hid (take_all HA.out (by have := HS.out; omega) (by have := HT.out; omega))
        have HB := Lib.hid hbel
        clear HA hbel
        go_wp2
        go_ret
        exact ⟨ret_bool (by simpa using HE.out), HB.out⟩
  · have HE := Lib.hid (show decide (S = T) = false from decide_eq_false (fun e => hl (by subst e; omega)))
    have hd : ((n : Int) != (m : Int)) = true := by simp; omega
    clear h1 h2 hS hT hl
    go_enter Tryz.func85, Tryz.ntmps85
    go_wp2
    go_ret
    exact ⟨ret_bool HE.out.symm, Below.refl _ _⟩

theorem same_any (A : Option Addr) (n c : Nat) (A' : Option Addr) (m c' : Nat) (f : Int) (S : List ByteArray) (W : List Wr) (B : Option Addr) (p d : Nat) (B' : Option Addr) (q d' : Nat) (g : Int) (T : List ByteArray) (V : List Wr) (w : World)
    (h1 : Dev w A n c A' m c' f S W) (h2 : Dev w B p d B' q d' g T V) :
    Calls Tryz.prog 50 #[DV A n c A' m c' f, DV B p d B' q d' g] w fun e w' => e = .returned (.bool (sameD S W f T V g)) ∧ Below w.heap.size w w' := by
  have hn : n ≤ 2000 := by have := h1.sec.sec; have := h1.ns; omega
  have hm : m ≤ 2000 := by have := h1.wr.wr; have := h1.nw; omega
  have hb2 := (new1 w (D33 A n c A' m c' f)).push (D33 B p d B' q d' g)
  have c1 := eqS_any A n c S B p d T _ (h1.sec.below hb2) (h2.sec.below hb2) hn
  have c2 : ∀ w', Below w.heap.size w w' → _ := fun w' hb => eqW_any A' m c' W B' q d' V w' (h1.wr.below hb) (h2.wr.below hb) hm
  by_cases hf : f = g
  · subst hf
    have hfb : (f == f) = true := by simp
    have HF := Lib.hid (show decide (f = f) = true by simp)
    by_cases hS : S = T
    · rw [decide_eq_true hS] at c1
      have HS := Lib.hid (decide_eq_true hS)
      have HC1 := Lib.hid c1
      have HC2 := Lib.hid c2
      have HB2 := Lib.hid hb2
      clear c1 c2 h1 h2 hn hm hS hb2
      go_enter Tryz.func50, Tryz.ntmps50
      go_wp2_with fail
      refine HC1.out.mono ?_
      rintro e w1 ⟨rfl, hb⟩
      have HB3 := Lib.hid (HB2.out.call hb)
      obtain ⟨hc, hf⟩ := bcell hb
      clear hb
      go_wp2_with fail
      refine (HC2.out _ HB3.out).mono ?_
      rintro e w2 ⟨rfl, hb⟩
      have HB4 := Lib.hid (HB3.out.call hb)
      clear hb hc hf
      generalize hz : decide (W = V) = z
      have HZ := Lib.hid hz
      clear hz
      cases z
      all_goals
        go_wp2
        go_ret
        exact ⟨ret_bool (by unfold sameD; rw [HS.out, HZ.out]; simp), HB4.out⟩
    · rw [decide_eq_false hS] at c1
      have HS := Lib.hid (decide_eq_false hS)
      have HC1 := Lib.hid c1
      have HB2 := Lib.hid hb2
      clear c1 c2 h1 h2 hn hm hS hb2
      go_enter Tryz.func50, Tryz.ntmps50
      go_wp2_with fail
      refine HC1.out.mono ?_
      rintro e w1 ⟨rfl, hb⟩
      have HB3 := Lib.hid (HB2.out.call hb)
      clear hb
      go_wp2
      go_ret
      exact ⟨ret_bool (by unfold sameD; rw [HS.out]; simp), HB3.out⟩
  · have hfb : (f == g) = false := by simpa using hf
    have HF := Lib.hid (decide_eq_false hf)
    have HB2 := Lib.hid hb2
    clear c1 c2 h1 h2 hn hm hb2 hf
    go_enter Tryz.func50, Tryz.ntmps50
    go_wp2
    go_ret
    exact ⟨ret_bool (by unfold sameD; rw [HF.out]; simp), HB2.out⟩

end Go.Proofs.YtkglolnghihegaaGreatDoor.Dsk

/- Behind a region that makes a device: the variable that holds it. -/
namespace Go.Proofs.YtkglolnghihegaaGreatDoor.Dsk
open Go.RowKit

theorem blt {W w1 : World} (hb : Below W.heap.size W w1) : ∀ b, b < W.heap.size → b < w1.heap.size := fun _ h => Nat.lt_of_lt_of_le h hb.size

/-- Behind a region: the variable in block b holds this device. -/
structure NewD (w wx : World) (b : Nat) (A : Option Addr) (n c : Nat) (A' : Option Addr) (m c' : Nat) (f : Int) (S : List ByteArray) (W : List Wr) : Prop where
  bel : Below w.heap.size w wx
  st : St wx b A n c A' m c' f
  dev : Dev wx A n c A' m c' f S W
  new : w.heap.size ≤ b
section
variable {w wx : World} {b : Nat} {A : Option Addr} {n c : Nat} {A' : Option Addr} {m c' : Nat} {f : Int} {S : List ByteArray} {W : List Wr}
theorem NewD.fresh (hb : Below w.heap.size w wx) (hD : Dev wx A n c A' m c' f S W) (t : TypeId) : NewD w (wx.alloc (.cells #[.slice A n c, .slice A' m c', .int .i64 f] t)) wx.heap.size A n c A' m c' f S W :=
  ⟨hb.push _, St.new _ _ _ _ _ _ _ _ _, hD.new _, hb.size⟩
theorem NewD.put (hb : Below w.heap.size w wx) (hD : Dev wx A n c A' m c' f S W) (hs : St wx b none 0 0 none 0 0 0) (hw : w.heap.size ≤ b) : NewD w (set3 wx b (.slice A n c) (.slice A' m c') (.int .i64 f)) b A n c A' m c' f S W :=
  ⟨hb.grown (grown_set3 _ _ _ _ _) hb.size (by simpa using hw), hs.set3 _ _ _ _ _ _ _, hD.only hs.ns (grown_set3 _ _ _ _ _), hw⟩
end

end Go.Proofs.YtkglolnghihegaaGreatDoor.Dsk
