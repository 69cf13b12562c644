import Derived.Test.YtkglolnghihegaaGreatDoorDskA
import Derived.Test.YtkglolnghihegaaGreatDoorDskS
import Derived.Test.YtkglolnghihegaaGreatDoorDiskNew
import Derived.Test.YtkglolnghihegaaGreatDoorDskB
import Derived.Deep.RegionLaw

/- Contracts of the document's burnt, zeros, Check and Read. -/
namespace Go.Proofs.YtkglolnghihegaaGreatDoor.Dsk
open Go.RowKit

theorem rburnt_any (f : Int) (w : World) (h1 : -9223372036854775808 ≤ f) (h2 : f ≤ 9223372036854775807) : Calls Tryz.prog 142 #[.int .i64 f] w fun e w' => e = .returned (.int .i64 (burnt f)) ∧ w = w' := by
  unfold burnt
  by_cases h : 0 < f
  · rw [if_pos h]
    go_enter Tryz.func142, Tryz.ntmps142
    go_wp2
    go_ret
    exact ⟨rfl, rfl⟩
  · rw [if_neg h]
    go_enter Tryz.func142, Tryz.ntmps142
    go_wp2
    go_ret
    exact ⟨rfl, rfl⟩

theorem rcheck8 (A : Option Addr) (n c : Nat) (A' : Option Addr) (m c' : Nat) (f : Int) (w : World) (h : (n : Int) < 16 ∨ (512 : Int) < n ∨ f < -1) :
    Calls Tryz.prog 37 #[DV A n c A' m c' f] w fun e w' => e = .returned (.int .i64 8) ∧ Below w.heap.size w w' := by
  by_cases h1 : (n : Int) < 16
  · clear h
    go_enter Tryz.func37, Tryz.ntmps37
    go_wp2
    go_ret
    exact ⟨rfl, new1 _ _⟩
  · by_cases h2 : (512 : Int) < n
    · clear h
      go_enter Tryz.func37, Tryz.ntmps37
      go_wp2
      go_ret
      exact ⟨rfl, new1 _ _⟩
    · have h3 : f < -1 := by omega
      clear h
      go_enter Tryz.func37, Tryz.ntmps37
      go_wp2
      go_ret
      exact ⟨rfl, new1 _ _⟩

set_option maxRecDepth 100000 in
set_option maxHeartbeats 1000000 in
theorem rcheck_in (A : Option Addr) (n c : Nat) (A' : Option Addr) (m c' : Nat) (f : Int) (S : List ByteArray) (W : List Wr) (w : World) (hD : Dev w A n c A' m c' f S W)
    (h1 : 16 ≤ (n : Int)) (h2 : (n : Int) ≤ 512) (h3 : -1 ≤ f) :
    Calls Tryz.prog 37 #[DV A n c A' m c' f] w fun e w' => e = .returned (.int .i64 (chk S W f)) ∧ Below w.heap.size w w' := by
  have hS := hD.sec.sec
  have hW := hD.wr.wr
  have HC := Lib.hid (show 16 ≤ S.length ∧ S.length ≤ 512 ∧ -1 ≤ f from ⟨by omega, by omega, h3⟩)
  have hm : (m : Int) ≤ 2000 := by have := hD.nw; omega
  have HD0 := Lib.hid hD
  have HD := Lib.hid (hD.new (D25 A n c A' m c' f))
  have HS := Lib.hid hS
  have HW := Lib.hid hW
  clear hD hS hW
  go_enter Tryz.func37, Tryz.ntmps37
  go_wp2
  go_loop [3] (fun i => ∃ k : Nat, k ≤ n ∧ i = .int .i64 k ∧ Hid ((S.take k).all (fun s => s.size == 64) = true)) (fun i => n - (intOf i).toNat)
  case atStart => exact ⟨0, Nat.zero_le _, rfl, by simp [Hid]⟩
  case round =>
    obtain ⟨k, hk, rfl, HA⟩ := hrel
    by_cases hlt : k < n
    · have hl : k < S.length := by have := HS.out; omega
      obtain ⟨b, off, rfl, hb, hc⟩ := HD.out.sec.secAt hlt hl
      have HN := Lib.hid (all_take_succ (fun s : ByteArray => s.size == 64) S k hl)
      have HF := Lib.hid (all_false_of (fun s : ByteArray => s.size == 64) S k hl)
      generalize S[k] = s at *
      clear hl
      by_cases hs : s.size = 64
      · have hsb : ((s.size : Int) != 64) = false := by simp; omega
        have HSZ := Lib.hid hs
        clear hs
        go_wp2
        go_round
        case rel => exact ⟨k + 1, by omega, by go_num, by show _ = true; rw [HN.out, HA.out]; simpa using HSZ.out⟩
        case measure => simp [intOf]; omega
      · have hsb : ((s.size : Int) != 64) = true := by simp; omega
        have HE := Lib.hid (chk5 (W := W) HC.out (HF.out (by simpa using hs)))
        clear hs
        go_wp2
        go_ret
        exact ⟨ret_int HE.out.symm, new1 _ _⟩
    · have HSO := Lib.hid (show secOk S = true from all_of_take _ S k (by have := HS.out; omega) HA.out)
      clear HA
      by_cases hm2 : (1024 : Int) < m
      · have HE := Lib.hid (chk20 (W := W) HC.out HSO.out (by have := HW.out; omega))
        go_wp2
        go_ret
        exact ⟨ret_int HE.out.symm, new1 _ _⟩
      · go_wp2
        go_loopw [4] (fun i wr => ∃ j : Nat, j ≤ m ∧ i = .int .i64 j ∧ Hid ((W.take j).all (wrOk S.length) = true) ∧ Below w.heap.size w wr ∧ Box wr w.heap.size (.slice A n c) (.slice A' m c') (.int .i64 f)) (fun i _ => m - (intOf i).toNat)
        case atStart => exact ⟨0, Nat.zero_le _, rfl, by simp [Hid], new1 _ _, Box.new _ _ _ _ _⟩
        case round =>
          obtain ⟨j, hj, rfl, HA, hbel, hbox⟩ := hrel
          have HBel := Lib.hid hbel
          have HBox := Lib.hid hbox
          by_cases hlt2 : j < m
          · have hl : j < W.length := by have := HW.out; omega
            obtain ⟨b, off, rfl, hb, hc0, hc1⟩ := (HD0.out.wr.below hbel).wrAt hlt2 hl
            have HN := Lib.hid (all_take_succ (wrOk S.length) W j hl)
            have HF := Lib.hid (all_false_of (wrOk S.length) W j hl)
            generalize W[j] = x at *
            clear hl
            obtain ⟨p, s⟩ := x
            dsimp only at hc0 hc1
            have i1 : (j : Int) < (m : Int) := by omega
            obtain ⟨c0, c1, c2, f0, f1, f2⟩ := hbox
            clear hbel
            by_cases hp0 : p < 0
            · have HE := Lib.hid (chk2 (W := W) HC.out HSO.out (by have := HW.out; omega) (HF.out (by simp [wrOk]; intro a b; omega)))
              have hd0 : decide (p < 0) = true := by simpa using hp0
              go_wp2_with fail
              go_quiet (fail)
              go_wp2
              go_ret
              exact ⟨ret_int HE.out.symm, below_n HBel.out _⟩
            · have hd0 : decide (p < 0) = false := by simpa using hp0
              by_cases hp1 : (n : Int) ≤ p
              · have HE := Lib.hid (chk2 (W := W) HC.out HSO.out (by have := HW.out; omega) (HF.out (by have := HS.out; simp [wrOk]; intro a b; omega)))
                have hd1 : decide ((n : Int) ≤ p) = true := by simpa using hp1
                go_wp2_with fail
                go_quiet (fail)
                go_wp2
                go_ret
                exact ⟨ret_int HE.out.symm, below_n HBel.out _⟩
              · have hd1 : decide ((n : Int) ≤ p) = false := by simpa using hp1
                by_cases hs : s.size = 64
                · have hsb : ((s.size : Int) != 64) = false := by simp; omega
                  have HX := Lib.hid (show wrOk S.length (p, s) = true from (wrOk_iff _ _).2 ⟨by simp only; omega, by have := HS.out; simp only; omega, hs⟩)
                  clear hs
                  go_wp2_with fail
                  go_quiet (fail)
                  go_wp2
                  go_roundw
                  case rel => exact ⟨j + 1, by omega, by go_num, by show _ = true; rw [HN.out, HA.out, HX.out]; rfl, below_n HBel.out _, HBox.out.below (B := wr.heap.size) (below_n (Below.refl _ _) _) HBox.out.lt⟩
                  case measure => simp [intOf]; omega
                · have hsb : ((s.size : Int) != 64) = true := by simp; omega
                  have HE := Lib.hid (chk2 (W := W) HC.out HSO.out (by have := HW.out; omega) (HF.out (by simp [wrOk, hs])))
                  clear hs
                  go_wp2_with fail
                  go_quiet (fail)
                  go_wp2
                  go_ret
                  exact ⟨ret_int HE.out.symm, below_n HBel.out _⟩
          · have HE := Lib.hid (chk0 (W := W) HC.out HSO.out (by have := HW.out; omega) (all_of_take _ W j (by have := HW.out; omega) HA.out))
            obtain ⟨c0, c1, c2, f0, f1, f2⟩ := hbox
            clear hbel HA
            go_wp2
            go_ret
            exact ⟨ret_int HE.out.symm, HBel.out⟩

theorem rcheck_any (A : Option Addr) (n c : Nat) (A' : Option Addr) (m c' : Nat) (f : Int) (S : List ByteArray) (W : List Wr) (w : World) (hD : Dev w A n c A' m c' f S W) :
    Calls Tryz.prog 37 #[DV A n c A' m c' f] w fun e w' => e = .returned (.int .i64 (chk S W f)) ∧ Below w.heap.size w w' := by
  have hS := hD.sec.sec
  by_cases h : 16 ≤ S.length ∧ S.length ≤ 512 ∧ -1 ≤ f
  · exact rcheck_in A n c A' m c' f S W w hD (by omega) (by omega) h.2.2
  · rw [chk8 h]
    exact rcheck8 A n c A' m c' f w (by omega)

end Go.Proofs.YtkglolnghihegaaGreatDoor.Dsk

/- Contracts of the document's Read, Arm and Same. -/
namespace Go.Proofs.YtkglolnghihegaaGreatDoor.Dsk
open Go.RowKit

end Go.Proofs.YtkglolnghihegaaGreatDoor.Dsk

/- The contract of the document's Same. -/
namespace Go.Proofs.YtkglolnghihegaaGreatDoor.Dsk
open Go.RowKit

theorem same_no (S : List ByteArray) (W : List Wr) (f : Int) (T : List ByteArray) (V : List Wr) (g : Int) (h : ¬ (S.length = T.length ∧ W.length = V.length ∧ f = g)) : sameD S W f T V g = false := by
  unfold sameD
  by_cases h1 : f = g
  · by_cases h2 : S = T
    · by_cases h3 : W = V
      · exact absurd ⟨by rw [h2], by rw [h3], h1⟩ h
      · simp [h3]
    · simp [h2]
  · simp [h1]

theorem rsame_no (A : Option Addr) (n c : Nat) (A' : Option Addr) (m c' : Nat) (f : Int) (B : Option Addr) (p d : Nat) (B' : Option Addr) (q d' : Nat) (g : Int) (w : World) (h : ¬ (n = p ∧ m = q ∧ f = g)) :
    Calls Tryz.prog 42 #[DV A n c A' m c' f, DV B p d B' q d' g] w fun e w' => e = .returned (.bool false) ∧ Below w.heap.size w w' := by
  by_cases h1 : n = p
  · subst h1
    have e1 : ((n : Int) != (n : Int)) = false := by simp
    by_cases h2 : m = q
    · subst h2
      have e2 : ((m : Int) != (m : Int)) = false := by simp
      have h3 : (f != g) = true := by
        have : ¬ f = g := fun e => h ⟨rfl, rfl, e⟩
        simpa using this
      clear h
      go_enter Tryz.func42, Tryz.ntmps42
      go_wp2
      go_ret
      exact ⟨rfl, (new1 _ _).push _⟩
    · have e2 : ((m : Int) != (q : Int)) = true := by simp; omega
      clear h h2
      go_enter Tryz.func42, Tryz.ntmps42
      go_wp2
      go_ret
      exact ⟨rfl, (new1 _ _).push _⟩
  · have e1 : ((n : Int) != (p : Int)) = true := by simp; omega
    clear h h1
    go_enter Tryz.func42, Tryz.ntmps42
    go_wp2
    go_ret
    exact ⟨rfl, (new1 _ _).push _⟩

set_option maxRecDepth 100000 in
set_option maxHeartbeats 2000000 in
theorem rsame_in (A : Option Addr) (n c : Nat) (A' : Option Addr) (m c' : Nat) (f : Int) (S : List ByteArray) (W : List Wr) (B : Option Addr) (d : Nat) (B' : Option Addr) (d' : Nat) (T : List ByteArray) (V : List Wr) (w : World)
    (h1 : Dev w A n c A' m c' f S W) (h2 : Dev w B n d B' m d' f T V) :
    Calls Tryz.prog 42 #[DV A n c A' m c' f, DV B n d B' m d' f] w fun e w' => e = .returned (.bool (sameD S W f T V f)) ∧ Below w.heap.size w w' := by
  have hn : (n : Int) ≤ 2000 := by have := h1.sec.sec; have := h1.ns; omega
  have hm : (m : Int) ≤ 2000 := by have := h1.wr.wr; have := h1.nw; omega
  have HS := Lib.hid h1.sec.sec
  have HT := Lib.hid h2.sec.sec
  have HW := Lib.hid h1.wr.wr
  have HV := Lib.hid h2.wr.wr
  have HB0 := Lib.hid ((new1 w (D25 A n c A' m c' f)).push (D25 B n d B' m d' f))
  have HD1 := Lib.hid (h1.below HB0.out)
  have HD2 := Lib.hid (h2.below HB0.out)
  have HX := Lib.hid ((Box.new w (.slice A n c) (.slice A' m c') (.int .i64 f) 25).alloc (D25 B n d B' m d' f))
  have HY := Lib.hid (Box.new (w.alloc (D25 A n c A' m c' f)) (.slice B n d) (.slice B' m d') (.int .i64 f) 25)
  rw [World.size_alloc] at HY
  have e1 : ((n : Int) != (n : Int)) = false := by simp
  have e2 : ((m : Int) != (m : Int)) = false := by simp
  have e3 : (f != f) = false := by simp
  clear h1 h2
  go_enter Tryz.func42, Tryz.ntmps42
  go_wp2
  clear e1 e2 e3
  generalize (w.alloc (D25 A n c A' m c' f)).alloc (D25 B n d B' m d' f) = w0 at *
  go_loopw [5] (fun i wr => ∃ k : Nat, k ≤ n ∧ i = .int .i64 k ∧ Hid (S.take k = T.take k) ∧ Hid (Below w0.heap.size w0 wr)) (fun i _ => n - (intOf i).toNat)
  case atStart => exact ⟨0, by omega, rfl, rfl, Below.refl _ _⟩
  case round =>
    obtain ⟨k, hk, rfl, HA, HB⟩ := hrel
    obtain ⟨c0, c1, c2, f0, f1, f2⟩ := HX.out.call HB.out
    obtain ⟨g0, g1, g2, t0, t1, t2⟩ := HY.out.call HB.out
    by_cases hlt : k < n
    · have l1 : k < S.length := by have := HS.out; omega
      have l2 : k < T.length := by have := HT.out; omega
      obtain ⟨b, off, rfl, -, q1⟩ := (HD1.out.sec.below HB.out).secAt hlt l1
      obtain ⟨b', off', rfl, -, q2⟩ := (HD2.out.sec.below HB.out).secAt hlt l2
      have HN := Lib.hid (fun e => take_step HA.out l1 l2 e)
      have HXX := Lib.hid (fun e => ne_at l1 l2 e)
      generalize S[k] = s at *
      generalize T[k] = t at *
      clear l1 l2
      have i1 : (k : Int) < (n : Int) := by omega
      by_cases hst : s = t
      · subst hst
        have HN2 := Lib.hid (HN.out rfl)
        have hq := str_eq s
        clear HN HXX
        go_wp2_with fail
        go_quiet (fail)
        go_wp2
        go_roundw
        case rel => exact ⟨k + 1, by omega, by go_num, HN2.out, below_n HB.out _⟩
        case measure => simp [intOf]; omega
      · have hq := str_ne hst
        have HX2 := Lib.hid (show sameD S W f T V f = false by unfold sameD; simp [HXX.out hst])
        clear HN HXX hst
        go_wp2_with fail
        go_quiet (fail)
        go_wp2
        go_ret
        exact ⟨ret_bool HX2.out.symm, below_n (HB0.out.call HB.out) _⟩
    · have HE := Lib.hid (take_all HA.out (by have := HS.out; omega) (by have := HT.out; omega))
      clear HA
      go_wp2
      obtain ⟨w5, rfl⟩ : ∃ x : World, x = wr := ⟨_, rfl⟩
      clear c0 c1 c2 f0 f1 f2 g0 g1 g2 t0 t1 t2
      go_loopw [6] (fun i wr => ∃ k : Nat, k ≤ m ∧ i = .int .i64 k ∧ Hid (W.take k = V.take k) ∧ Hid (Below w0.heap.size w0 wr)) (fun i _ => m - (intOf i).toNat)
      case atStart => exact ⟨0, by omega, rfl, rfl, HB.out⟩
      case round =>
        obtain ⟨j, hj, rfl, HA, HB⟩ := hrel
        obtain ⟨c0, c1, c2, f0, f1, f2⟩ := HX.out.call HB.out
        obtain ⟨g0, g1, g2, t0, t1, t2⟩ := HY.out.call HB.out
        by_cases hlt2 : j < m
        · have l1 : j < W.length := by have := HW.out; omega
          have l2 : j < V.length := by have := HV.out; omega
          obtain ⟨b, off, rfl, -, q1, r1⟩ := (HD1.out.wr.below HB.out).wrAt hlt2 l1
          obtain ⟨b', off', rfl, -, q2, r2⟩ := (HD2.out.wr.below HB.out).wrAt hlt2 l2
          have HN := Lib.hid (fun e => take_step HA.out l1 l2 e)
          have HXX := Lib.hid (fun e => ne_at l1 l2 e)
          generalize W[j] = x at *
          generalize V[j] = y at *
          obtain ⟨p, s⟩ := x
          obtain ⟨q, t⟩ := y
          dsimp only at q1 r1 q2 r2
          clear l1 l2
          have i1 : (j : Int) < (m : Int) := by omega
          by_cases hst : s = t ∧ p = q
          · obtain ⟨rfl, rfl⟩ := hst
            have HN2 := Lib.hid (HN.out rfl)
            have hq := str_eq s
            clear HN HXX
            go_wp2_with fail
            go_quiet (fail)
            go_wp2
            go_roundw
            case rel => exact ⟨j + 1, by omega, by go_num, HN2.out, below_n HB.out _⟩
            case measure => simp [intOf]; omega
          · have HX2 := Lib.hid (show sameD S W f T V f = false by unfold sameD; simp [HXX.out (fun e => hst (by injection e with e1 e2; exact ⟨e2, e1⟩))])
            by_cases hpq : p = q
            · subst hpq
              have hq := str_ne (fun e => hst ⟨e, rfl⟩)
              clear HN HXX hst
              go_wp2_with fail
              go_quiet (fail)
              go_wp2
              go_ret
              exact ⟨ret_bool HX2.out.symm, below_n (HB0.out.call HB.out) _⟩
            · have hq : (p == q) = false := by simpa using hpq
              clear HN HXX hst hpq
              go_wp2_with fail
              go_quiet (fail)
              go_wp2
              go_ret
              exact ⟨ret_bool HX2.out.symm, below_n (HB0.out.call HB.out) _⟩
        · have HE2 := Lib.hid (take_all HA.out (by have := HW.out; omega) (by have := HV.out; omega))
          have HX2 := Lib.hid (show sameD S W f T V f = true by unfold sameD; simp [HE.out, HE2.out])
          clear HA
          go_wp2
          go_ret
          exact ⟨ret_bool HX2.out.symm, HB0.out.call HB.out⟩

theorem rsame_any (A : Option Addr) (n c : Nat) (A' : Option Addr) (m c' : Nat) (f : Int) (S : List ByteArray) (W : List Wr) (B : Option Addr) (p d : Nat) (B' : Option Addr) (q d' : Nat) (g : Int) (T : List ByteArray) (V : List Wr) (w : World)
    (h1 : Dev w A n c A' m c' f S W) (h2 : Dev w B p d B' q d' g T V) :
    Calls Tryz.prog 42 #[DV A n c A' m c' f, DV B p d B' q d' g] w fun e w' => e = .returned (.bool (sameD S W f T V g)) ∧ Below w.heap.size w w' := by
  have a1 := h1.sec.sec
  have a2 := h2.sec.sec
  have a3 := h1.wr.wr
  have a4 := h2.wr.wr
  by_cases h : n = p ∧ m = q ∧ f = g
  · obtain ⟨rfl, rfl, rfl⟩ := h
    exact rsame_in A n c A' m c' f S W B d B' d' T V w h1 h2
  · rw [same_no S W f T V g (by omega)]
    exact rsame_no A n c A' m c' f B p d B' q d' g w h

end Go.Proofs.YtkglolnghihegaaGreatDoor.Dsk

/- Contracts of the document's gone and Crash. -/
namespace Go.Proofs.YtkglolnghihegaaGreatDoor.Dsk
open Go.RowKit

theorem sec_size_ {S : List ByteArray} (h : secOk S = true) {p : Nat} (hp : p < S.length) : (secAt S p).size = 64 := by
  rw [secAt_eq hp]; exact (secOk_iff S).1 h _ (List.getElem_mem hp)

/-- What is kept while writes go: the device, and the row of sectors. -/
structure KeptG (w : World) (x y z : Value) (g n cap : Nat) (T : List ByteArray) (wr : World) : Prop where
  bel : Below w.heap.size w wr
  st : Box wr w.heap.size x y z
  own : wr.ownsRow (w.heap.size + 1) 9 1 (.slice (some ⟨g, 0, none⟩) n cap) n (SV T)
theorem KeptG.base {w : World} {x y z : Value} {g n cap : Nat} {T : List ByteArray} {wr : World} (h : KeptG w x y z g n cap T wr) : w.heap.size + 1 ≤ g := base_of_own h.own g rfl
/-- One write goes. -/
theorem KeptG.goes {w : World} {x y z : Value} {g n cap : Nat} {T : List ByteArray} {wr : World} (h : KeptG w x y z g n cap T wr) (p k : Nat) (s : ByteArray) (o : Obj) :
    KeptG w x y z g n cap (goOne T ((p : Int), s) k) ((wr.setCell ⟨g, p, none⟩ (.string (s.extract 0 k ++ (secAt T p).extract k (secAt T p).size))).alloc o).drew := by
  have hb := h.base
  obtain ⟨h1, h2⟩ := h.own.stored p (.string (s.extract 0 k ++ (secAt T p).extract k (secAt T p).size))
  have e1 : goOne T ((p : Int), s) k = T.set p (s.extract 0 k ++ (secAt T p).extract k (secAt T p).size) := by
    unfold goOne
    simp only [Int.toNat_natCast]
  rw [sv_set, ← e1] at h1
  have hbel := (h.bel.grown h2 h.bel.size (fun j hj => by injection hj with hj; omega))
  exact ⟨(hbel.push o).drew, ((h.st.of_block (h2.block _ h.st.lt (by simp; omega))).alloc o).drew, h1.alloc o⟩

set_option maxRecDepth 100000 in
set_option maxHeartbeats 1000000 in
theorem gone_any (A : Option Addr) (n c : Nat) (A' : Option Addr) (m c' : Nat) (f : Int) (S : List ByteArray) (W : List Wr) (B : Option Addr) (q d : Nat) (zs : List Int) (w : World) (hD : Dev w A n c A' m c' f S W) (hR : RV w B q 1 (IV zs)) (h : chk S W f = 0) :
    Calls Tryz.prog 143 #[DV A n c A' m c' f, .slice B q d] w fun e w' => ∃ g cap, e = .returned (.slice (some ⟨g, 0, none⟩) n cap) ∧ w'.ownsRow (w.heap.size + 1) 9 1 (.slice (some ⟨g, 0, none⟩) n cap) n (SV (goAll S W (cutAt zs))) ∧ Below w.heap.size w w' := by
  obtain ⟨⟨hn1, hn2, -⟩, hso, hm1, hwo⟩ := chk_ok h
  have HD := Lib.hid hD
  have HR := Lib.hid hR
  have HS := Lib.hid hD.sec.sec
  have HW := Lib.hid hD.wr.wr
  have HOK := Lib.hid (fun k => goAll_ok (c := cutAt zs) hso hwo (cutAt_le zs) k)
  have HWO := Lib.hid hwo
  have hm : (m : Int) ≤ 1024 := by have := hD.wr.wr; omega
  have hn : 16 ≤ n ∧ n ≤ 512 := by have := hD.sec.sec; omega
  have HN := Lib.hid hn
  have HQ := Lib.hid hR.ints
  obtain ⟨v0, w0, hap, hown, hgr, -⟩ := append_rv (P := Tryz.prog) (ty := 22) Tryz.underlying22 info9 rfl (by omega) (World.ownsRow_nil (w.alloc (D25 A n c A' m c' f)) (w.heap.size + 1) 9 1) c (hD.new (D25 A n c A' m c' f)).sec (SV_one S) (by omega) (by omega) (by simp)
  obtain ⟨g, cap, rfl⟩ : ∃ g cap, v0 = .slice (some ⟨g, 0, none⟩) n cap := by
    rcases hown.2 with ⟨rfl, h0⟩ | ⟨g, cap, cur, rfl, _⟩
    · omega
    · exact ⟨g, cap, by simp⟩
  have HAP := Lib.hid hap
  have HK : Hid (KeptG w (.slice A n c) (.slice A' m c') (.int .i64 f) g n cap (goAll S (W.take 0) (cutAt zs)) w0) :=
    ⟨(new1 w _).grown hgr (by simp) (by simp [Value.ownBlock]), (Box.new w _ _ _ _).of_block (hgr.block _ (by simp) (by simp [Value.ownBlock])), by rw [List.take_zero, goAll_nil]; simpa using hown⟩
  clear hap hown hgr hD hR h hn hn1 hn2 hso hm1 hwo
  go_enter Tryz.func143, Tryz.ntmps143
  go_wp2_with (at_builtin; refine wpList_append_run rfl (.tmp 9) (.tmp 11) 22 22 rfl _ _ rfl rfl _ w0 HAP.out ?_)
  go_loopw [6] (fun i wr => ∃ k : Nat, k ≤ m ∧ i = .int .i64 k ∧ Hid (KeptG w (.slice A n c) (.slice A' m c') (.int .i64 f) g n cap (goAll S (W.take k) (cutAt zs)) wr)) (fun i _ => m - (intOf i).toNat)
  case atStart => exact ⟨0, Nat.zero_le _, rfl, HK.out⟩
  case round =>
    obtain ⟨k, hk, rfl, HK2⟩ := hrel
    clear HK HAP
    obtain ⟨c0, c1, c2, f0, f1, f2⟩ := HK2.out.st
    by_cases hlt : k < m
    · have hl : k < W.length := by have := HW.out; omega
      obtain ⟨b, off, rfl, hb, hc0, hc1⟩ := (HD.out.wr.below HK2.out.bel).wrAt hlt hl
      have HT := Lib.hid (goAll_take S W k hl (cutAt zs))
      have hx := (wrOk_iff _ _).1 (List.all_eq_true.1 HWO.out _ (List.getElem_mem hl))
      generalize W[k] = x at *
      obtain ⟨p, s⟩ := x
      dsimp only at hc0 hc1 hx
      obtain ⟨p, rfl⟩ := Int.eq_ofNat_of_zero_le hx.1
      have hpn : p < n := by have := HS.out; omega
      have hss : s.size = 64 := hx.2.2
      have hok := HOK.out k
      have hpl : p < (goAll S (W.take k) (cutAt zs)).length := by rw [hok.2, HS.out]; exact hpn
      have hts := sec_size_ hok.1 hpl
      have hcp : wr.cell? ⟨g, p, none⟩ = some (.string (secAt (goAll S (W.take k) (cutAt zs)) p)) := by
        rw [HK2.out.own.cellAt p (by omega), secAt_eq hpl]; simp [SV, hpl]
      have hfp := HK2.out.own.frozenAt p
      have HG := Lib.hid (fun cz => HK2.out.goes p cz s (.cells #[.int .i64 p, .string s] 85))
      have hcle := cutAt_le zs k
      clear hx hl hok hpl
      generalize goAll S (W.take k) (cutAt zs) = Tk at *
      generalize secAt Tk p = t at *
      have hgl : g < wr.heap.size := cell_lt hcp
      have hbl : b < wr.heap.size := hb
      have i1 : (p : Int) < (n : Int) := by omega
      have i2 : (k : Int) < (m : Int) := by omega
      by_cases hcq : k < q
      · have hzl : k < zs.length := by have := HQ.out; omega
        obtain ⟨bz, oz, rfl, hbz, hcz⟩ := (HR.out.below HK2.out.bel).intAt hcq hzl
        have hcl : max 0 (min 64 zs[k]) = ((cutAt zs k : Nat) : Int) := by
          unfold cutAt clamp; rw [dif_pos hzl]; omega
        generalize zs[k] = z at *
        generalize cutAt zs k = cz at *
        clear hzl
        have i3 : (k : Int) < (q : Int) := by omega
        have i4 : (cz : Int) ≤ 64 := by omega
        have j1 : (cz : Int) ≤ (s.size : Int) := by omega
        have j2 : (cz : Int) ≤ (t.size : Int) := by omega
        have hlim : ¬ 9223372036854775807 < min cz s.size + (t.size - cz) := by omega
        have HG2 := Lib.hid (HG.out cz)
        clear hss hts hcle HG
        go_wp2_with fail
        go_region
        go_wp2
        go_roundw
        case rel => exact ⟨k + 1, by omega, by go_num, by rw [HT.out]; exact HG2.out⟩
        case measure => simp [intOf]; omega
      · have hz0 : cutAt zs k = 0 := by unfold cutAt; rw [dif_neg (by have := HQ.out; omega)]
        rw [hz0] at HT
        clear hz0
        have hdk : decide ((k : Int) < (q : Int)) = false := by simp; omega
        have hdk2 : decide (k < q) = false := by simp; omega
        have hlim : ¬ 9223372036854775807 < t.size := by omega
        have hg2 := HG.out 0
        rw [show s.extract 0 0 ++ t.extract 0 t.size = t by simp] at hg2
        have HG2 := Lib.hid hg2
        clear hg2
        have j1 : (0 : Int) ≤ (s.size : Int) := by omega
        have j2 : (0 : Int) ≤ (t.size : Int) := by omega
        clear hss hts hcle HG
        go_wp2_with fail
        go_region
        go_wp2
        go_roundw
        case rel => exact ⟨k + 1, by omega, by go_num, by rw [HT.out]; exact HG2.out⟩
        case measure => simp [intOf]; omega
    · have hk2 : W.take k = W := List.take_of_length_le (by have := HW.out; omega)
      rw [hk2] at HK2
      clear hk2
      go_wp2
      go_ret
      exact ⟨g, cap, rfl, HK2.out.own, HK2.out.bel⟩

end Go.Proofs.YtkglolnghihegaaGreatDoor.Dsk

/- Contracts of the document's Flush. -/
namespace Go.Proofs.YtkglolnghihegaaGreatDoor.Dsk
open Go.RowKit

theorem rflush2 (A : Option Addr) (n c : Nat) (A' : Option Addr) (m c' : Nat) (f : Int) (S : List ByteArray) (W : List Wr) (w : World) (hD : Dev w A n c A' m c' f S W) (h : ¬ chk S W f = 0) :
    Calls Tryz.prog 120 #[DV A n c A' m c' f] w (RetDE w S W f 2) := by
  have HC := Lib.hid (rcheck_any A n c A' m c' f S W _ ((hD.new (D25 A n c A' m c' f)).new (D25 none 0 0 none 0 0 0)))
  have HD := Lib.hid hD
  have hne := neq0 h
  generalize chk S W f = e0 at *
  clear hD h
  go_enter Tryz.func120, Tryz.ntmps120
  go_wp2_with fail
  refine HC.out.mono ?_
  rintro e w1 ⟨rfl, hb1⟩
  have HB := Lib.hid (((new1 w _).push _).call hb1)
  obtain ⟨hc, hf⟩ := bcell hb1
  clear hb1
  go_wp2
  have HB3 := ((HB.out.setCell (p := ⟨w.heap.size + 1, 0, none⟩) (by simp) (.slice A n c)).setCell (p := ⟨w.heap.size + 1, 1, none⟩) (by simp) (.slice A' m c')).setCell (p := ⟨w.heap.size + 1, 2, none⟩) (by simp) (.int .i64 f)
  exact bodyPost_ret (v := .tuple #[DV A n c A' m c' f, .int .i64 2]) (by simp [results, Tryz.results120, go_sem, hc]) rfl ⟨A, n, c, A', m, c', rfl, HD.out.below HB3, HB3⟩

theorem rflush21 (A : Option Addr) (n c : Nat) (A' : Option Addr) (m c' : Nat) (S : List ByteArray) (W : List Wr) (w : World) (hD : Dev w A n c A' m c' 0 S W) (h : chk S W 0 = 0) :
    Calls Tryz.prog 120 #[DV A n c A' m c' 0] w (RetDE w S W 0 21) := by
  have hc := rcheck_any A n c A' m c' 0 S W _ ((hD.new (D25 A n c A' m c' 0)).new (D25 none 0 0 none 0 0 0))
  rw [h] at hc
  have HC := Lib.hid hc
  have HD := Lib.hid hD
  clear hD h hc
  go_enter Tryz.func120, Tryz.ntmps120
  go_wp2_with fail
  refine HC.out.mono ?_
  rintro e w1 ⟨rfl, hb1⟩
  have HB := Lib.hid (((new1 w _).push _).call hb1)
  obtain ⟨hc, hf⟩ := bcell hb1
  clear hb1
  go_wp2
  have HB3 := ((HB.out.setCell (p := ⟨w.heap.size + 1, 0, none⟩) (by simp) (.slice A n c)).setCell (p := ⟨w.heap.size + 1, 1, none⟩) (by simp) (.slice A' m c')).setCell (p := ⟨w.heap.size + 1, 2, none⟩) (by simp) (.int .i64 0)
  exact bodyPost_ret (v := .tuple #[DV A n c A' m c' 0, .int .i64 21]) (by simp [results, Tryz.results120, go_sem, hc]) rfl ⟨A, n, c, A', m, c', rfl, HD.out.below HB3, HB3⟩

set_option maxRecDepth 100000 in
set_option maxHeartbeats 1000000 in
theorem rflush0 (A : Option Addr) (n c : Nat) (A' : Option Addr) (m c' : Nat) (f : Int) (S : List ByteArray) (W : List Wr) (w : World) (hD : Dev w A n c A' m c' f S W) (h : chk S W f = 0) (hf0 : ¬ f = 0) :
    Calls Tryz.prog 120 #[DV A n c A' m c' f] w (RetDE w (goAll S W fun _ => 64) [] (burnt f) 0) := by
  have hc := rcheck_any A n c A' m c' f S W _ ((hD.new (D25 A n c A' m c' f)).new (D25 none 0 0 none 0 0 0))
  rw [h] at hc
  have HC := Lib.hid hc
  obtain ⟨-, hso, hm1, hwo⟩ := chk_ok h
  have HLen := Lib.hid (goAll_all (c := fun _ => 64) hso hwo (fun _ => Nat.le_refl _)).2
  have HCr : Hid (goAll S W (cutAt (List.replicate m 64)) = goAll S W fun _ => 64) := goAll_congr S W _ _ (fun j hj => by
    unfold cutAt; rw [dif_pos (by rw [List.length_replicate]; have := hD.wr.wr; omega), List.getElem_replicate]; rfl)
  have HG := Lib.hid (fun (a : Option Addr) (d : Nat) (w1 : World) hb hR => gone_any A n c A' m c' f S W a m d (List.replicate m 64) w1 (hD.below hb) hR h)
  have HD := Lib.hid hD
  have hm : (m : Int) ≤ 1024 := by have := hD.wr.wr; omega
  have hfb : (f == 0) = false := by simpa using hf0
  clear hD h hc hso hm1 hwo hf0
  go_enter Tryz.func120, Tryz.ntmps120
  go_wp2_with fail
  refine HC.out.mono ?_
  rintro e w1 ⟨rfl, hb1⟩
  have HB := Lib.hid (((new1 w _).push _).call hb1)
  have HX := Lib.hid (((Box.new w (.slice A n c) (.slice A' m c') (.int .i64 f) 25).alloc (D25 none 0 0 none 0 0 0)).call hb1)
  have HY := Lib.hid (by have := (Box.new (w.alloc (D25 A n c A' m c' f)) (.slice none 0 0) (.slice none 0 0) (.int .i64 0) 25).call hb1; rwa [World.size_alloc] at this)
  have hzz : w.heap.size + 1 < w1.heap.size := HY.out.lt
  obtain ⟨c0, c1, c2, f0, f1, f2⟩ := HX.out
  clear hb1
  go_wp2_with fail
  clear c0 c1 c2 f0 f1 f2
  go_loopw [4, 5] (fun v i wr => ∃ k : Nat, k ≤ m ∧ i = .int .i64 k ∧ Hid (IRow wr w1.heap.size v (List.replicate k 64) ∧ Below w1.heap.size w1 wr)) (fun _ i _ => m - (intOf i).toNat)
  case atStart => exact ⟨0, Nat.zero_le _, rfl, IRow.nil _ _, Below.refl _ _⟩
  case round =>
    obtain ⟨k, hk, rfl, HK⟩ := hrel
    obtain ⟨av, capv, rfl, hrv⟩ := HK.out.1.val
    rw [List.length_replicate] at HK hrv ⊢
    obtain ⟨c0, c1, c2, f0, f1, f2⟩ := HX.out.call HK.out.2
    by_cases hlt : k < m
    · have hxc : (wr.alloc (.cells #[.int .i64 64] 3)).cell? ⟨wr.heap.size, 0, none⟩ = some (.int .i64 64) := by simp [go_sem]
      obtain ⟨v', w', hap, hI', hgr, -⟩ := (HK.out.1.call (new1 wr (.cells #[.int .i64 64] 3))).append ⟨wr.heap.size, 0, none⟩ 1 64 hxc (by rw [List.length_replicate]; omega) (by have := HK.out.2.size; rw [World.size_alloc]; omega)
      have HAP := Lib.hid hap
      have HI' := Lib.hid (by rw [← List.replicate_succ'] at hI'; exact hI')
      have HB' := Lib.hid ((HK.out.2.push (.cells #[.int .i64 64] 3)).grown hgr (by have := HK.out.2.size; rw [World.size_alloc]; omega) (fun g hg => (HK.out.1.lt g hg).1))
      clear hap hI' hgr hxc hrv
      go_wp2_with (at_builtin; refine wpList_append_run rfl (.tmp 21) (.tmp 22) 111 111 rfl _ _ rfl rfl v' w' HAP.out ?_)
      go_roundw
      case rel => exact ⟨k + 1, by omega, by go_num, HI'.out, HB'.out⟩
      case measure => simp [intOf]; omega
    · obtain rfl : m = k := by omega
      have HRV := Lib.hid hrv
      have HGo := Lib.hid (HG.out av capv wr.drew (HB.out.call HK.out.2).drew (hrv.below (Below.refl _ _).drew))
      rw [HCr.out] at HGo
      have HU := Lib.hid (fun W => rburnt_any f W HD.out.lo HD.out.hi)
      have HB2 := Lib.hid (HB.out.call HK.out.2)
      have HY2 := Lib.hid (HY.out.call HK.out.2)
      have hl0 : w.heap.size < wr.heap.size := by have := HY2.out.lt; omega
      have hl1 := HY2.out.lt
      have n1 : ¬ w.heap.size + 1 = w.heap.size := by omega
      clear hrv HRV HG HC
      go_wp2_with fail
      go_region_held3 (fun W => W.cell? ⟨w.heap.size, 0, none⟩ = some (.slice A n c) ∧ W.cell? ⟨w.heap.size, 1, none⟩ = some (.slice A' m c') ∧ W.cell? ⟨w.heap.size, 2, none⟩ = some (.int .i64 f)) (go_keep)
        (first
          | (go_at_call 143; ((with_reducible refine HGo.out.mono ?_)); rintro r w4 ⟨g, cap4, rfl, hown, hb4⟩; obtain ⟨hc, hf⟩ := bcell hb4; have q0 : w4.cell? ⟨w.heap.size, 0, none⟩ = some (.slice A n c) := (by rw [hc _ _ (by simp; omega)]; simp [*]); have q1 : w4.cell? ⟨w.heap.size, 1, none⟩ = some (.slice A' m c') := (by rw [hc _ _ (by simp; omega)]; simp [*]); have q2 : w4.cell? ⟨w.heap.size, 2, none⟩ = some (.int .i64 f) := (by rw [hc _ _ (by simp; omega)]; simp [*]); have HY4 := Lib.hid (HY2.out.call (undrew hb4)); obtain ⟨z0, z1, z2, v0, v1, v2⟩ := HY4.out; have HO := Lib.hid hown; have HB4 := Lib.hid (HB2.out.call (undrew hb4)); clear hc hf hown hb4)
          | (go_at_call 142; ((with_reducible refine (HU.out _).mono ?_)); rintro r w5 ⟨rfl, rfl⟩))
      go_wp2_with fail
      have HB5 := ((HB4.out.setCell (p := ⟨w.heap.size + 1, 0, none⟩) (by simp) (.slice (some ⟨g, 0, none⟩) n cap4)).setCell (p := ⟨w.heap.size + 1, 1, none⟩) (by simp) (.slice none 0 0)).setCell (p := ⟨w.heap.size + 1, 2, none⟩) (by simp) (.int .i64 (burnt f))
      have O5 := ownsRow_setCell_below (ownsRow_setCell_below (ownsRow_setCell_below HO.out (a := ⟨w.heap.size + 1, 0, none⟩) (by simp; omega) (.slice (some ⟨g, 0, none⟩) n cap4)) (a := ⟨w.heap.size + 1, 1, none⟩) (by simp; omega) (.slice none 0 0)) (a := ⟨w.heap.size + 1, 2, none⟩) (by simp; omega) (.int .i64 (burnt f))
      exact bodyPost_ret (v := .tuple #[DV (some ⟨g, 0, none⟩) n cap4 none 0 0 (burnt f), .int .i64 0]) (by simp [results, Tryz.results120, go_sem, z0, z1, z2]) rfl ⟨_, n, cap4, none, 0, 0, rfl, ⟨RV.of_own O5, RV.nil _ _ _, burnt_lo HD.out.lo, burnt_hi HD.out.hi, by rw [HLen.out]; exact HD.out.ns, by simp⟩, HB5⟩

theorem rflush_any (A : Option Addr) (n c : Nat) (A' : Option Addr) (m c' : Nat) (f : Int) (S : List ByteArray) (W : List Wr) (w : World) (hD : Dev w A n c A' m c' f S W) :
    Calls Tryz.prog 120 #[DV A n c A' m c' f] w (RetDE w (if flushE S W f = 0 then goAll S W (fun _ => 64) else S) (if flushE S W f = 0 then [] else W) (if flushE S W f = 0 then burnt f else f) (flushE S W f)) := by
  by_cases h : chk S W f = 0
  · by_cases hf : f = 0
    · have e : flushE S W f = 21 := by unfold flushE; rw [if_pos h, if_pos hf]
      rw [e]
      subst hf
      exact rflush21 A n c A' m c' S W w hD h
    · have e : flushE S W f = 0 := by unfold flushE; rw [if_pos h, if_neg hf]
      rw [e]
      exact rflush0 A n c A' m c' f S W w hD h hf
  · have e : flushE S W f = 2 := by unfold flushE; rw [if_neg h]
    rw [e]
    exact rflush2 A n c A' m c' f S W w hD h

end Go.Proofs.YtkglolnghihegaaGreatDoor.Dsk

/- Contracts of the document's Put. -/
namespace Go.Proofs.YtkglolnghihegaaGreatDoor.Dsk
open Go.RowKit

/-- An append by its run, in a region that draws its order. -/
theorem step_append_run {P : Program} {w : World} {ops : Array Oper} {o : Oper} {a : Act} {K : Act → World → Prop} {Q : Exit → Act → World → Prop} {E : Prop} (hgd : o.guard = none) (d s : Operand) (dT sT : TypeId)
    (ho : o.op = .call { callee := .builtin .append, args := #[d, s], argTypes := #[dT, sT] }) (vd vs : Value) (hd : a.eval d = vd) (hs : a.eval s = vs) (v' : Value) (w' : World)
    (hrun : (Builtin.append_ #[dT, sT] o.type #[vd, vs]).run P w = .ok v' w') (h : K (a.put o.dst v') w') :
    if Region.wanted o (yielded ops a.tmps) = true then Oper.wp P o a w K Q else E := by
  have hw : Region.wanted o (yielded ops a.tmps) = true := by simp [Region.wanted, hgd]
  rw [if_pos hw]
  unfold Oper.wp
  simp [execOp, ho, resolve, invoke, builtin, hd, hs, hrun, Result.andThen]
  exact h

theorem rput2 (A : Option Addr) (n c : Nat) (A' : Option Addr) (m c' : Nat) (f : Int) (S : List ByteArray) (W : List Wr) (p : Int) (s : ByteArray) (w : World) (hD : Dev w A n c A' m c' f S W) (h : ¬ chk S W f = 0) :
    Calls Tryz.prog 119 #[DV A n c A' m c' f, .int .i64 p, .string s] w (RetDE w S W f 2) := by
  have HC := Lib.hid (rcheck_any A n c A' m c' f S W _ ((hD.new (D25 A n c A' m c' f)).new (D25 none 0 0 none 0 0 0)))
  have HD := Lib.hid hD
  have hne := neq0 h
  generalize chk S W f = e0 at *
  clear hD h
  go_enter Tryz.func119, Tryz.ntmps119
  go_wp2_with fail
  refine HC.out.mono ?_
  rintro e w1 ⟨rfl, hb1⟩
  have HB := Lib.hid (((new1 w _).push _).call hb1)
  obtain ⟨hc, hf⟩ := bcell hb1
  clear hb1
  go_wp2
  have HB3 := ((HB.out.setCell (p := ⟨w.heap.size + 1, 0, none⟩) (by simp) (.slice A n c)).setCell (p := ⟨w.heap.size + 1, 1, none⟩) (by simp) (.slice A' m c')).setCell (p := ⟨w.heap.size + 1, 2, none⟩) (by simp) (.int .i64 f)
  exact bodyPost_ret (v := .tuple #[DV A n c A' m c' f, .int .i64 2]) (by simp [results, Tryz.results119, go_sem, hc]) rfl ⟨A, n, c, A', m, c', rfl, HD.out.below HB3, HB3⟩

set_option maxRecDepth 100000 in
theorem rput_bad (A : Option Addr) (n c : Nat) (A' : Option Addr) (m c' : Nat) (f : Int) (S : List ByteArray) (W : List Wr) (p : Int) (s : ByteArray) (w : World) (hD : Dev w A n c A' m c' f S W) (h : chk S W f = 0) (z : Int)
    (hz : (decide (p < 0) = true ∧ z = 8) ∨ (decide (p < 0) = false ∧ decide ((n : Int) ≤ p) = true ∧ z = 8) ∨ (decide (p < 0) = false ∧ decide ((n : Int) ≤ p) = false ∧ ((s.size : Int) != 64) = true ∧ z = 5) ∨
      (decide (p < 0) = false ∧ decide ((n : Int) ≤ p) = false ∧ ((s.size : Int) != 64) = false ∧ (f == 0) = true ∧ z = 21) ∨ (decide (p < 0) = false ∧ decide ((n : Int) ≤ p) = false ∧ ((s.size : Int) != 64) = false ∧ (f == 0) = false ∧ ((m : Int) == 1024) = true ∧ z = 20)) :
    Calls Tryz.prog 119 #[DV A n c A' m c' f, .int .i64 p, .string s] w (RetDE w S W f z) := by
  have hc := rcheck_any A n c A' m c' f S W _ ((hD.new (D25 A n c A' m c' f)).new (D25 none 0 0 none 0 0 0))
  rw [h] at hc
  have HC := Lib.hid hc
  have HD := Lib.hid hD
  clear hD h hc
  have fin : ∀ w1, Below w.heap.size w w1 → Below w.heap.size w (((w1.setCell ⟨w.heap.size + 1, 0, none⟩ (.slice A n c)).setCell ⟨w.heap.size + 1, 1, none⟩ (.slice A' m c')).setCell ⟨w.heap.size + 1, 2, none⟩ (.int .i64 f)) :=
    fun w1 hb => ((hb.setCell (p := ⟨w.heap.size + 1, 0, none⟩) (by simp) (.slice A n c)).setCell (p := ⟨w.heap.size + 1, 1, none⟩) (by simp) (.slice A' m c')).setCell (p := ⟨w.heap.size + 1, 2, none⟩) (by simp) (.int .i64 f)
  have HFin := Lib.hid fin
  clear fin
  rcases hz with ⟨h1, hzz⟩ | ⟨h1, h2, hzz⟩ | ⟨h1, h2, h3, hzz⟩ | ⟨h1, h2, h3, h4, hzz⟩ | ⟨h1, h2, h3, h4, h5, hzz⟩
  all_goals
    have HZ := Lib.hid hzz
    clear hzz
    go_enter Tryz.func119, Tryz.ntmps119
    go_wp2_with fail
    refine HC.out.mono ?_
    rintro e w1 ⟨rfl, hb1⟩
    have HB := Lib.hid (((new1 w _).push _).call hb1)
    obtain ⟨hc, hf⟩ := bcell hb1
    clear hb1
    go_wp2
    have HB3 := HFin.out w1 HB.out
    obtain rfl := HZ.out
    exact bodyPost_ret (v := .tuple #[DV A n c A' m c' f, _]) (by simp [results, Tryz.results119, go_sem, hc]) rfl ⟨A, n, c, A', m, c', rfl, HD.out.below HB3, HB3⟩

set_option maxRecDepth 100000 in
set_option maxHeartbeats 1000000 in
theorem rput_yes (A : Option Addr) (n c : Nat) (A' : Option Addr) (m c' : Nat) (f : Int) (S : List ByteArray) (W : List Wr) (p : Int) (s : ByteArray) (w : World) (hD : Dev w A n c A' m c' f S W) (h : putE S W f p s = 0) :
    Calls Tryz.prog 119 #[DV A n c A' m c' f, .int .i64 p, .string s] w (RetDE w S (W ++ [(p, s)]) (burnt f) 0) := by
  obtain ⟨h0, hp0, hp1, hs, hf0, hw⟩ := putE_ok h
  have hc := rcheck_any A n c A' m c' f S W _ ((hD.new (D25 A n c A' m c' f)).new (D25 none 0 0 none 0 0 0))
  rw [h0] at hc
  have HC := Lib.hid hc
  have HD := Lib.hid hD
  have hS := hD.sec.sec
  have hW := hD.wr.wr
  have HW := Lib.hid hW
  have HWL := Lib.hid hw
  have e1 : decide (p < 0) = false := by simp; omega
  have e2 : decide ((n : Int) ≤ p) = false := by simp; omega
  have e3 : ((s.size : Int) != 64) = false := by simp; omega
  have e4 : (f == 0) = false := by simpa using hf0
  have e5 : ((m : Int) == 1024) = false := by simp; omega
  have hm : m ≤ 1024 := by omega
  have HM := Lib.hid hm
  clear hD h hc h0 hp0 hp1 hs hf0 hw hS hW hm
  go_enter Tryz.func119, Tryz.ntmps119
  go_wp2_with fail
  refine HC.out.mono ?_
  rintro e w1 ⟨rfl, hb1⟩
  have HB := Lib.hid (((new1 w _).push _).call hb1)
  have HX := Lib.hid (((Box.new w (.slice A n c) (.slice A' m c') (.int .i64 f) 25).alloc (D25 none 0 0 none 0 0 0)).call hb1)
  have HY := Lib.hid (by have := (St.new (w.alloc (D25 A n c A' m c' f)) none 0 0 none 0 0 0 25).call hb1; rwa [World.size_alloc] at this)
  have hzz : w.heap.size + 1 < w1.heap.size := HY.out.lt
  obtain ⟨c0, c1, c2, f0, f1, f2⟩ := HX.out
  clear hb1
  obtain ⟨v1, w2, hap, hown, hgr, -⟩ := append_rv (P := Tryz.prog) (ty := 23) Tryz.underlying23 info27 rfl (by omega) (World.ownsRow_nil w1 w1.heap.size 85 2) c' (HD.out.wr.below HB.out) (WV_one W) (by have := HM.out; omega) (by omega) (Nat.le_refl _)
  have hb12 : Below w1.heap.size w1 w2 := (Below.refl _ _).grown hgr (Nat.le_refl _) (by simp [Value.ownBlock])
  obtain ⟨av, capv, rfl⟩ := own_val hown
  rw [Nat.zero_add] at hap hown
  rw [List.nil_append] at hown
  have HAP1 := Lib.hid hap
  have hcx : RV (w2.alloc (.cells #[.int .i64 p, .string s] 85)).drew (some ⟨w2.heap.size, 0, none⟩) 1 2 (WV [(p, s)]) := by
    have := (Blk.new w2 85 #[.int .i64 p, .string s]).rv (n := 1) (k := 2) rfl
    exact this
  have hown2 : (w2.alloc (.cells #[.int .i64 p, .string s] 85)).drew.ownsRow w1.heap.size 85 2 (.slice av m capv) m (WV W) := hown.alloc _
  obtain ⟨v3, w3, hap3, hown3, hgr3, -⟩ := append_rv (P := Tryz.prog) (ty := 23) Tryz.underlying23 info27 rfl (by omega) hown2 1 hcx (WV_one _) (by have := HM.out; omega) (by omega) (by have := hb12.size; simp; omega)
  rw [← WV_append] at hown3
  obtain ⟨a3, cap3, rfl⟩ := own_val hown3
  have HAP3 := Lib.hid hap3
  have hb13 : Below w1.heap.size w1 w3 := ((hb12.push (.cells #[.int .i64 p, .string s] 85)).drew).grown hgr3 (by have := hb12.size; simp; omega) (fun g hg => (hown2.lt g hg).1)
  have HO3 := Lib.hid hown3
  have HB13 := Lib.hid hb13
  have HU := Lib.hid (fun W => rburnt_any f W HD.out.lo HD.out.hi)
  have x2 := (HX.out.call hb12)
  have x3 := (HX.out.call hb13)
  obtain ⟨z0, z1, z2, v0, v1, v2⟩ := (HY.out.call hb13).box
  have HX2 := Lib.hid x2
  have HX3 := Lib.hid x3
  have hl2 : w.heap.size + 1 < w2.heap.size := by have := hb12.size; omega
  have n1 : ¬ w2.heap.size = w.heap.size := by omega
  have n2 : ¬ w.heap.size + 1 = w.heap.size := by omega
  clear hap hown hgr hcx hown2 hap3 hown3 hgr3 hb12 hb13 HC x2 x3
  go_wp2_with (at_builtin; refine wpList_append_run rfl (.tmp 36) (.tmp 38) 23 23 rfl _ _ rfl rfl _ w2 HAP1.out ?_)
  clear c0 c1 c2 f0 f1 f2
  obtain ⟨c0, c1, c2, f0, f1, f2⟩ := HX2.out
  obtain ⟨q0, q1, q2, k0, k1, k2⟩ := HX3.out
  go_region_held3 (fun W => W.cell? ⟨w.heap.size, 0, none⟩ = some (.slice A n c) ∧ W.cell? ⟨w.heap.size, 2, none⟩ = some (.int .i64 f)) (go_keep)
    (first
      | (refine step_append_run rfl (.tmp 42) (.tmp 46) 23 23 rfl _ _ rfl rfl _ w3 HAP3.out ?_)
      | (go_at_call 142; ((with_reducible refine (HU.out _).mono ?_)); rintro r w5 ⟨rfl, rfl⟩))
  all_goals
    go_wp2_with fail
    have hg5 := grown_set3 w3 (w.heap.size + 1) (.slice A n c) (.slice a3 (m + 1) cap3) (.int .i64 (burnt f))
    have hB5 := (HB.out.call HB13.out).grown hg5 (HB.out.call HB13.out).size (by simp)
    have hD5 := (HD.out.below (HB.out.call HB13.out)).only (HY.out.call HB13.out).ns hg5
    have hO5 := HO3.out.kept (row := some (w.heap.size + 1)) hg5 (.inr (by intro e; have := (HO3.out.lt _ e).1; omega))
    refine bodyPost_ret (v := .tuple #[DV A n c a3 (m + 1) cap3 (burnt f), .int .i64 0]) (by simp [results, Tryz.results119, go_sem, z0, z1, z2]) rfl ⟨A, n, c, a3, m + 1, cap3, rfl, ⟨hD5.sec, RV.of_own hO5, burnt_lo HD.out.lo, burnt_hi HD.out.hi, HD.out.ns, ?_⟩, hB5⟩
    have := HWL.out
    rw [List.length_append]
    simp
    omega

theorem rput_any (A : Option Addr) (n c : Nat) (A' : Option Addr) (m c' : Nat) (f : Int) (S : List ByteArray) (W : List Wr) (p : Int) (s : ByteArray) (w : World) (hD : Dev w A n c A' m c' f S W) :
    Calls Tryz.prog 119 #[DV A n c A' m c' f, .int .i64 p, .string s] w (RetDE w S (if putE S W f p s = 0 then W ++ [(p, s)] else W) (if putE S W f p s = 0 then burnt f else f) (putE S W f p s)) := by
  by_cases h : putE S W f p s = 0
  · rw [if_pos h, if_pos h, h]; exact rput_yes A n c A' m c' f S W p s w hD h
  · rw [if_neg h, if_neg h]
    have hS := hD.sec.sec
    have hW := hD.wr.wr
    by_cases hc : chk S W f = 0
    · refine rput_bad A n c A' m c' f S W p s w hD hc _ ?_
      unfold putE at h ⊢
      rw [if_pos hc] at h ⊢
      by_cases hp : 0 ≤ p ∧ p < S.length
      · rw [if_pos hp] at h ⊢
        have e1 : decide (p < 0) = false := by simp; omega
        have e2 : decide ((n : Int) ≤ p) = false := by simp; omega
        by_cases hs : s.size = 64
        · rw [if_pos hs] at h ⊢
          have e3 : ((s.size : Int) != 64) = false := by simp; omega
          by_cases hf : f = 0
          · rw [if_pos hf]; exact .inr (.inr (.inr (.inl ⟨e1, e2, e3, by simpa using hf, rfl⟩)))
          · rw [if_neg hf] at h ⊢
            by_cases hw : W.length = 1024
            · rw [if_pos hw]; exact .inr (.inr (.inr (.inr ⟨e1, e2, e3, by simpa using hf, by simp; omega, rfl⟩)))
            · rw [if_neg hw] at h; exact absurd rfl h
        · rw [if_neg hs]; exact .inr (.inr (.inl ⟨e1, e2, by simp; omega, rfl⟩))
      · rw [if_neg hp]
        by_cases hp0 : p < 0
        · exact .inl ⟨by simpa using hp0, rfl⟩
        · exact .inr (.inl ⟨by simpa using hp0, by simp; omega, rfl⟩)
    · have e : putE S W f p s = 2 := by unfold putE; rw [if_neg hc]
      rw [e]
      exact rput2 A n c A' m c' f S W p s w hD hc

end Go.Proofs.YtkglolnghihegaaGreatDoor.Dsk

/- Contracts of the document's New. -/
namespace Go.Proofs.YtkglolnghihegaaGreatDoor.Dsk
open Go.RowKit

/-- What is kept from sector to sector. -/
structure NewK (w wr : World) (v : Value) (k : Nat) (z : ByteArray) : Prop where
  bel : Below w.heap.size w wr
  res : Box wr w.heap.size (.slice none 0 0) (.slice none 0 0) (.int .i64 0)
  st : Box wr (w.heap.size + 1) v (.slice none 0 0) (.int .i64 (-1))
  own : wr.ownsRow (w.heap.size + 2) 9 1 v k (SV (List.replicate k z))
theorem NewK.step {w wr w4 w' : World} {v v' : Value} {k : Nat} {z : ByteArray} (h : NewK w wr v k z) (hb : Below wr.heap.size wr w4) (hown : w'.ownsRow (w.heap.size + 2) 9 1 v' (k + 1) (SV (List.replicate k z) ++ SV [z])) (hg : w4.grownBy w' v.ownBlock) :
    NewK w (w'.setCell ⟨w.heap.size + 1, 0, none⟩ v') v' (k + 1) z := by
  have hl : ∀ g, v.ownBlock = some g → w.heap.size + 2 ≤ g := base_of_own h.own
  have b1 := (h.res.call hb).of_block (hg.block _ (h.res.call hb).lt (fun e => by have := hl _ e.symm; omega))
  have b2 := (h.st.call hb).of_block (hg.block _ (h.st.call hb).lt (fun e => by have := hl _ e.symm; omega))
  have bb := (h.bel.call hb).grown hg (h.bel.call hb).size (fun g hg => by have := hl g hg; omega)
  refine ⟨bb.setCell (by simp) _, b1.far (by simp) _, ?_, ?_⟩
  · obtain ⟨c0, c1, c2, f0, f1, f2⟩ := b2
    constructor <;> simp [go_sem, *]
  · rw [← SV_append, ← List.replicate_succ'] at hown
    exact ownsRow_setCell_below hown (by simp) _

end Go.Proofs.YtkglolnghihegaaGreatDoor.Dsk
