/- Contracts of mayHave, isPlace, burnt, Check of package disk. -/
import Derived.Test.YtaafkkmcpedeaaaDiskBase
namespace Go.Proofs.Ytaafkkmcpedeaaa.Dsk
open Go.RowKit

theorem mayHave_yes (n : Int) (w : World) (h1 : 16 ≤ n) (h2 : n ≤ 512) : Calls Try.prog 29 #[.int .i64 n] w fun e w' => e = .returned (.bool true) ∧ w = w' := by
  go_enter Try.func29, Try.ntmps29
  go_wp2
  go_ret
  exact ⟨rfl, rfl⟩
theorem mayHave_no (n : Int) (w : World) (h : n < 16 ∨ 512 < n) : Calls Try.prog 29 #[.int .i64 n] w fun e w' => e = .returned (.bool false) ∧ w = w' := by
  rcases h with h | h
  · have h' : ¬ 16 ≤ n := by omega
    go_enter Try.func29, Try.ntmps29
    go_wp2
    go_ret
    exact ⟨rfl, rfl⟩
  · have h' : ¬ n ≤ 512 := by omega
    go_enter Try.func29, Try.ntmps29
    go_wp2
    go_ret
    exact ⟨rfl, rfl⟩
theorem isPlace_yes (A : Option Addr) (n c : Nat) (A' : Option Addr) (m c' : Nat) (f p : Int) (w : World) (h1 : 0 ≤ p) (h2 : p < n) :
    Calls Try.prog 35 #[DV A n c A' m c' f, .int .i64 p] w fun e w' => e = .returned (.bool true) ∧ Below w.heap.size w w' := by
  go_enter Try.func35, Try.ntmps35
  go_wp2
  go_ret
  exact ⟨rfl, new1 _ _⟩
theorem isPlace_no (A : Option Addr) (n c : Nat) (A' : Option Addr) (m c' : Nat) (f p : Int) (w : World) (h : p < 0 ∨ n ≤ p) :
    Calls Try.prog 35 #[DV A n c A' m c' f, .int .i64 p] w fun e w' => e = .returned (.bool false) ∧ Below w.heap.size w w' := by
  rcases h with h | h
  · have h' : ¬ 0 ≤ p := by omega
    go_enter Try.func35, Try.ntmps35
    go_wp2
    go_ret
    exact ⟨rfl, new1 _ _⟩
  · have h0 : 0 ≤ p := by omega
    have h' : ¬ p < n := by omega
    go_enter Try.func35, Try.ntmps35
    go_wp2
    go_ret
    exact ⟨rfl, new1 _ _⟩
theorem burnt_any (f : Int) (w : World) (h1 : -9223372036854775808 ≤ f) (h2 : f ≤ 9223372036854775807) : Calls Try.prog 32 #[.int .i64 f] w fun e w' => e = .returned (.int .i64 (burnt f)) ∧ w = w' := by
  unfold burnt
  by_cases h : 0 < f
  · rw [if_pos h]
    go_enter Try.func32, Try.ntmps32
    go_wp2
    go_ret
    exact ⟨rfl, rfl⟩
  · rw [if_neg h]
    go_enter Try.func32, Try.ntmps32
    go_wp2
    go_ret
    exact ⟨rfl, rfl⟩

theorem ret_int {a b : Int} (h : a = b) : Ending.returned (.int .i64 a) = .returned (.int .i64 b) := by rw [h]

/-- Check of a device with a wrong count of sectors, or a wrong fuse. -/
theorem check8 (A : Option Addr) (n c : Nat) (A' : Option Addr) (m c' : Nat) (f : Int) (w : World) (h : (n : Int) < 16 ∨ (512 : Int) < n ∨ f < -1) :
    Calls Try.prog 33 #[DV A n c A' m c' f] w fun e w' => e = .returned (.int .i64 8) ∧ Below w.heap.size w w' := by
  by_cases hn : 16 ≤ (n : Int) ∧ (n : Int) ≤ 512
  · have hf : f < -1 := by omega
    have H := Lib.hid hn
    clear h hn
    go_enter Try.func33, Try.ntmps33
    go_wp2_with (go_at_call 29; ((with_reducible refine (mayHave_yes _ _ H.out.1 H.out.2).mono ?_); rintro e w' ⟨rfl, rfl⟩))
    go_ret
    exact ⟨rfl, new1 _ _⟩
  · have H := Lib.hid hn
    clear h hn
    go_enter Try.func33, Try.ntmps33
    go_wp2_with (go_at_call 29; ((with_reducible refine (mayHave_no _ _ (by have := H.out; omega)).mono ?_); rintro e w' ⟨rfl, rfl⟩))
    go_ret
    exact ⟨rfl, new1 _ _⟩

set_option maxHeartbeats 1000000 in
theorem check_in (A : Option Addr) (n c : Nat) (A' : Option Addr) (m c' : Nat) (f : Int) (S : List ByteArray) (W : List Wr) (w : World) (hD : Dev w A n c A' m c' f S W)
    (h1 : 16 ≤ (n : Int)) (h2 : (n : Int) ≤ 512) (h3 : -1 ≤ f) :
    Calls Try.prog 33 #[DV A n c A' m c' f] w fun e w' => e = .returned (.int .i64 (chk S W f)) ∧ Below w.heap.size w w' := by
  have hS := hD.sec.sec
  have hW := hD.wr.wr
  have HC := Lib.hid (show 16 ≤ S.length ∧ S.length ≤ 512 ∧ -1 ≤ f from ⟨by omega, by omega, h3⟩)
  have hm : (m : Int) ≤ 2000 := by have := hD.nw; omega
  have HD0 := Lib.hid hD
  have HD := Lib.hid (hD.new (D33 A n c A' m c' f))
  have HS := Lib.hid hS
  have HW := Lib.hid hW
  clear hD hS hW
  have hf : decide (f < -1) = false := by simpa using h3
  go_enter Try.func33, Try.ntmps33
  go_wp2_with (go_at_call 29; ((with_reducible refine (mayHave_yes _ _ h1 h2).mono ?_); rintro e w' ⟨rfl, rfl⟩))
  go_loop [20] (fun i => ∃ k : Nat, k ≤ n ∧ i = .int .i64 k ∧ Hid ((S.take k).all (fun s => s.size == 64) = true)) (fun i => n - (intOf i).toNat)
  case atStart => exact ⟨0, Nat.zero_le _, rfl, by simp [Hid]⟩
  case round =>
    obtain ⟨k, hk, rfl, HA⟩ := hrel
    by_cases hlt : k < n
    · have hl : k < S.length := by have := HS.out; omega
      obtain ⟨b, off, rfl, hb, hc⟩ := HD.out.sec.secAt hlt hl
      have HN := Lib.hid (all_take_succ (fun s : ByteArray => s.size == 64) S k hl)
      have HF := Lib.hid (all_false_of (fun s : ByteArray => s.size == 64) S k hl)
      generalize S[k] = s at *
      clear hl
      by_cases hs : s.size = 64
      · have hsb : ((s.size : Int) != 64) = false := by simp; omega
        have HSZ := Lib.hid hs
        clear hs
        go_wp2
        go_round
        case rel => exact ⟨k + 1, by omega, by go_num, by show _ = true; rw [HN.out, HA.out]; simpa using HSZ.out⟩
        case measure => simp [intOf]; omega
      · have hsb : ((s.size : Int) != 64) = true := by simp; omega
        have HE := Lib.hid (chk5 (W := W) HC.out (HF.out (by simpa using hs)))
        clear hs
        go_wp2
        go_ret
        exact ⟨ret_int HE.out.symm, new1 _ _⟩
    · have HSO := Lib.hid (show secOk S = true from all_of_take _ S k (by have := HS.out; omega) HA.out)
      clear HA
      by_cases hm2 : (1024 : Int) < m
      · have HE := Lib.hid (chk20 (W := W) HC.out HSO.out (by have := HW.out; omega))
        go_wp2
        go_ret
        exact ⟨ret_int HE.out.symm, new1 _ _⟩
      · go_wp2
        go_loopw [35] (fun i wr => ∃ j : Nat, j ≤ m ∧ i = .int .i64 j ∧ Hid ((W.take j).all (wrOk S.length) = true) ∧ Below w.heap.size w wr ∧ Box wr w.heap.size (.slice A n c) (.slice A' m c') (.int .i64 f)) (fun i _ => m - (intOf i).toNat)
        case atStart => exact ⟨0, Nat.zero_le _, rfl, by simp [Hid], new1 _ _, Box.new _ _ _ _ _⟩
        case round =>
          obtain ⟨j, hj, rfl, HA, hbel, hbox⟩ := hrel
          by_cases hlt2 : j < m
          · have hl : j < W.length := by have := HW.out; omega
            obtain ⟨b, off, rfl, hb, hc0, hc1⟩ := (HD0.out.wr.below hbel).wrAt hlt2 hl
            have HN := Lib.hid (all_take_succ (wrOk S.length) W j hl)
            have HF := Lib.hid (all_false_of (wrOk S.length) W j hl)
            generalize W[j] = x at *
            clear hl
            obtain ⟨p, s⟩ := x
            dsimp only at hc0 hc1
            have HBel := Lib.hid hbel
            have HBox := Lib.hid hbox
            have hzw : w.heap.size < wr.heap.size := hbox.lt
            obtain ⟨c0, c1, c2, f0, f1, f2⟩ := hbox
            clear hbel
            by_cases hp : 0 ≤ p ∧ p < (n : Int)
            · by_cases hs : s.size = 64
              · have hsb : ((s.size : Int) != 64) = false := by simp; omega
                have HX := Lib.hid (show wrOk S.length (p, s) = true from (wrOk_iff _ _).2 ⟨hp.1, by have := HS.out; simp only; omega, hs⟩)
                have HP := Lib.hid hp
                clear hs hp
                go_wp2_with fail
                refine (isPlace_yes A n c _ m c' f p _ HP.out.1 HP.out.2).mono ?_
                rintro e w1 ⟨rfl, hb1⟩
                have HX2 := Lib.hid ((HBox.out.alloc _).call hb1)
                have HB2 := Lib.hid ((HBel.out.push _).call hb1)
                obtain ⟨hc, hf⟩ := bcell hb1
                clear hb1
                go_wp2
                go_roundw
                case rel => exact ⟨j + 1, by omega, by go_num, by show _ = true; rw [HN.out, HA.out, HX.out]; rfl, HB2.out, HX2.out⟩
                case measure => simp [intOf]; omega
              · have hsb : ((s.size : Int) != 64) = true := by simp; omega
                have HE := Lib.hid (chk2 (W := W) HC.out HSO.out (by have := HW.out; omega) (HF.out (by simp [wrOk, hs])))
                have HP := Lib.hid hp
                clear hs hp
                go_wp2_with fail
                refine (isPlace_yes A n c _ m c' f p _ HP.out.1 HP.out.2).mono ?_
                rintro e w1 ⟨rfl, hb1⟩
                have HB2 := Lib.hid ((HBel.out.push _).call hb1)
                obtain ⟨hc, hf⟩ := bcell hb1
                clear hb1
                go_wp2
                go_ret
                exact ⟨ret_int HE.out.symm, HB2.out⟩
            · have HE := Lib.hid (chk2 (W := W) HC.out HSO.out (by have := HW.out; omega) (HF.out (by have := HS.out; simp [wrOk]; intro a b; omega)))
              have HP := Lib.hid hp
              clear hp
              go_wp2_with fail
              refine (isPlace_no A n c _ m c' f p _ (by have := HP.out; omega)).mono ?_
              rintro e w1 ⟨rfl, hb1⟩
              have HB2 := Lib.hid ((HBel.out.push _).call hb1)
              clear hb1
              go_wp2
              go_ret
              exact ⟨ret_int HE.out.symm, HB2.out⟩
          · have HE := Lib.hid (chk0 (W := W) HC.out HSO.out (by have := HW.out; omega) (all_of_take _ W j (by have := HW.out; omega) HA.out))
            have HBel := Lib.hid hbel
            clear hbel hbox HA
            go_wp2
            go_ret
            exact ⟨ret_int HE.out.symm, HBel.out⟩

theorem check_any (A : Option Addr) (n c : Nat) (A' : Option Addr) (m c' : Nat) (f : Int) (S : List ByteArray) (W : List Wr) (w : World) (hD : Dev w A n c A' m c' f S W) :
    Calls Try.prog 33 #[DV A n c A' m c' f] w fun e w' => e = .returned (.int .i64 (chk S W f)) ∧ Below w.heap.size w w' := by
  have hS := hD.sec.sec
  by_cases h : 16 ≤ S.length ∧ S.length ≤ 512 ∧ -1 ≤ f
  · exact check_in A n c A' m c' f S W w hD (by omega) (by omega) h.2.2
  · rw [chk8 h]
    exact check8 A n c A' m c' f w (by omega)

end Go.Proofs.Ytaafkkmcpedeaaa.Dsk
