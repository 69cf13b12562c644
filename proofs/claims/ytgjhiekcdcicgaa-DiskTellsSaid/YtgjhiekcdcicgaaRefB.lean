/- Contracts of the document's Read, Arm and Same. -/
import Derived.Test.YtgjhiekcdcicgaaRefA
import Derived.Test.YtgjhiekcdcicgaaSt
import Derived.Test.YtgjhiekcdcicgaaPut
namespace Go.Proofs.Ytgjhiekcdcicgaa
open Go.RowKit

theorem rread2 (A : Option Addr) (n c : Nat) (A' : Option Addr) (m c' : Nat) (f : Int) (S : List ByteArray) (W : List Wr) (p : Int) (w : World) (hD : Dev w A n c A' m c' f S W) (h : ¬ chk S W f = 0) :
    Calls Try.prog 22 #[DV A n c A' m c' f, .int .i64 p] w fun e w' => e = .returned (.tuple #[.string ByteArray.empty, .int .i64 2]) ∧ Below w.heap.size w w' := by
  have HC := Lib.hid (rcheck_any A n c A' m c' f S W _ (hD.new (D25 A n c A' m c' f)))
  have hne := neq0 h
  generalize chk S W f = e0 at *
  clear hD h
  go_enter Try.func22, Try.ntmps22
  go_wp2_with (go_at_call 26; ((with_reducible refine HC.out.mono ?_); rintro e w1 ⟨rfl, hb1⟩; have HB := Lib.hid hb1; clear hb1))
  go_ret2
  exact ⟨rfl, (new1 _ _).call HB.out⟩

theorem rread8 (A : Option Addr) (n c : Nat) (A' : Option Addr) (m c' : Nat) (f : Int) (S : List ByteArray) (W : List Wr) (p : Int) (w : World) (hD : Dev w A n c A' m c' f S W) (h : chk S W f = 0) (hp : p < 0 ∨ (n : Int) ≤ p) :
    Calls Try.prog 22 #[DV A n c A' m c' f, .int .i64 p] w fun e w' => e = .returned (.tuple #[.string ByteArray.empty, .int .i64 8]) ∧ Below w.heap.size w w' := by
  have hc := rcheck_any A n c A' m c' f S W _ (hD.new (D25 A n c A' m c' f))
  rw [h] at hc
  have HC := Lib.hid hc
  clear hD h hc
  by_cases hp0 : p < 0
  all_goals
    have hp1 : p < 0 ∨ (n : Int) ≤ p := hp
    clear hp
    first
      | (have hd0 : decide (p < 0) = true := (by simpa using hp0))
      | (have hd0 : decide (p < 0) = false := (by simpa using hp0))
    first
      | (have hq : (n : Int) ≤ p := (by omega))
      | skip
    clear hp1
    go_enter Try.func22, Try.ntmps22
    go_wp2_with fail
    refine HC.out.mono ?_
    rintro e w1 ⟨rfl, hb1⟩
    have HB := Lib.hid ((new1 _ _).call hb1)
    obtain ⟨hc, hf⟩ := bcell hb1
    clear hb1
    go_wp2
    go_ret2
    exact ⟨rfl, HB.out⟩

set_option maxHeartbeats 1000000 in
theorem rread0 (A : Option Addr) (n c : Nat) (A' : Option Addr) (m c' : Nat) (f : Int) (S : List ByteArray) (W : List Wr) (p : Nat) (w : World) (hD : Dev w A n c A' m c' f S W) (h : chk S W f = 0) (hp : p < n) :
    Calls Try.prog 22 #[DV A n c A' m c' f, .int .i64 p] w fun e w' => e = .returned (.tuple #[.string (lastW W p (secAt S p)), .int .i64 0]) ∧ Below w.heap.size w w' := by
  have hc := rcheck_any A n c A' m c' f S W _ (hD.new (D25 A n c A' m c' f))
  rw [h] at hc
  have HC := Lib.hid hc
  have HS := Lib.hid hD.sec.sec
  have HW := Lib.hid hD.wr.wr
  have hm : (m : Int) ≤ 2000 := by have := hD.nw; have := hD.wr.wr; omega
  have HD := Lib.hid hD
  have hd0 : decide ((p : Int) < 0) = false := by simp
  have hd1 : decide ((n : Int) ≤ (p : Int)) = false := by simp; omega
  have hd2 : decide (n ≤ p) = false := by simp; omega
  have i0 : (p : Int) < (n : Int) := by omega
  clear hD h hc
  go_enter Try.func22, Try.ntmps22
  go_wp2_with fail
  refine HC.out.mono ?_
  rintro e w1 ⟨rfl, hb1⟩
  have HB := Lib.hid ((new1 _ _).call hb1)
  have hx := (Box.new w (.slice A n c) (.slice A' m c') (.int .i64 f) 25).call hb1
  obtain ⟨c0, c1, c2, f0, f1, f2⟩ := hx
  clear hb1
  have hl : p < S.length := by have := HS.out; omega
  obtain ⟨b, off, rfl, hb, hc0⟩ := (HD.out.sec.below HB.out).secAt hp hl
  have HG := Lib.hid (secAt_eq hl)
  generalize S[p] = s at *
  clear hl
  go_wp2
  go_loop [6, 7] (fun t i => ∃ k : Nat, k ≤ m ∧ i = .int .i64 k ∧ t = .string (lastW (W.take k) p s)) (fun _ i => m - (intOf i).toNat)
  case atStart => exact ⟨0, by omega, rfl, rfl⟩
  case round =>
    obtain ⟨k, hk, rfl, rfl⟩ := hrel
    by_cases hlt : k < m
    · have hl : k < W.length := by have := HW.out; omega
      obtain ⟨bw, offw, rfl, hbw, d0, d1⟩ := (HD.out.wr.below HB.out).wrAt hlt hl
      have HN : Hid (lastW (W.take (k + 1)) p s = if W[k].1 = (p : Int) then W[k].2 else lastW (W.take k) p s) := by
        show _ = _
        rw [List.take_succ_eq_append_getElem hl, lastW_snoc]
      generalize W[k] = x at *
      obtain ⟨q, t⟩ := x
      dsimp only at d0 d1 HN
      generalize lastW (W.take k) p s = t0 at *
      have i1 : (k : Int) < (m : Int) := by omega
      clear hl
      by_cases hq : q = (p : Int)
      · have hqb : (q == (p : Int)) = true := by simpa using hq
        have HE := Lib.hid (HN.out.trans (if_pos hq))
        clear hq HN
        go_wp2
        go_round
        case rel => exact ⟨k + 1, by omega, by go_num, by rw [HE.out]⟩
        case measure => simp [intOf]; omega
      · have hqb : (q == (p : Int)) = false := by simpa using hq
        have HE := Lib.hid (HN.out.trans (if_neg hq))
        clear hq HN
        go_wp2
        go_round
        case rel => exact ⟨k + 1, by omega, by go_num, by rw [HE.out]⟩
        case measure => simp [intOf]; omega
    · have HE := Lib.hid (show lastW (W.take k) p s = lastW W p (secAt S p) by rw [List.take_of_length_le (by have := HW.out; omega), HG.out])
      generalize lastW (W.take k) p s = t0 at *
      go_wp2
      go_ret2
      exact ⟨ret_str HE.out, HB.out⟩

theorem rread_any (A : Option Addr) (n c : Nat) (A' : Option Addr) (m c' : Nat) (f : Int) (S : List ByteArray) (W : List Wr) (p : Int) (w : World) (hD : Dev w A n c A' m c' f S W) :
    Calls Try.prog 22 #[DV A n c A' m c' f, .int .i64 p] w fun e w' => e = .returned (.tuple #[.string (rdS S W f p), .int .i64 (rdE S W f p)]) ∧ Below w.heap.size w w' := by
  have hS := hD.sec.sec
  unfold rdS rdE
  by_cases h : chk S W f = 0
  · by_cases hp : 0 ≤ p ∧ p < S.length
    · rw [if_pos ⟨h, hp⟩, if_pos h, if_pos hp]
      obtain ⟨q, rfl⟩ := Int.eq_ofNat_of_zero_le hp.1
      exact rread0 A n c A' m c' f S W q w hD h (by omega)
    · rw [if_neg (fun x => hp x.2), if_pos h, if_neg hp]
      exact rread8 A n c A' m c' f S W p w hD h (by omega)
  · rw [if_neg (fun x => h x.1), if_neg h]
    exact rread2 A n c A' m c' f S W p w hD h

theorem rarm_no (A : Option Addr) (n c : Nat) (A' : Option Addr) (m c' : Nat) (f : Int) (S : List ByteArray) (W : List Wr) (p : Int) (w : World) (hD : Dev w A n c A' m c' f S W) (h : ¬ chk S W f = 0) :
    Calls Try.prog 18 #[DV A n c A' m c' f, .int .i64 p] w (RetD w S W f) := by
  have HC := Lib.hid (rcheck_any A n c A' m c' f S W _ ((hD.new (D25 A n c A' m c' f)).new (D25 none 0 0 none 0 0 0)))
  have HD := Lib.hid hD
  have HX := Lib.hid (((St.new w A n c A' m c' f 25).alloc (D25 none 0 0 none 0 0 0)))
  have hne := neq0 h
  generalize chk S W f = e0 at *
  clear hD h
  go_enter Try.func18, Try.ntmps18
  go_wp2_with fail
  refine HC.out.mono ?_
  rintro e w1 ⟨rfl, hb1⟩
  have HB := Lib.hid (((new1 w _).push _).call hb1)
  obtain ⟨hc, hf⟩ := bcell hb1
  clear hb1
  go_wp2
  have HB3 := ((HB.out.setCell (p := ⟨w.heap.size + 1, 0, none⟩) (by simp) (.slice A n c)).setCell (p := ⟨w.heap.size + 1, 1, none⟩) (by simp) (.slice A' m c')).setCell (p := ⟨w.heap.size + 1, 2, none⟩) (by simp) (.int .i64 f)
  exact bodyPost_ret (v := DV A n c A' m c' f) (by simp [results, Try.results18, go_sem, hc]) rfl ⟨A, n, c, A', m, c', rfl, HD.out.below HB3, HB3⟩

set_option maxRecDepth 100000 in
theorem rarm_yes (A : Option Addr) (n c : Nat) (A' : Option Addr) (m c' : Nat) (f : Int) (S : List ByteArray) (W : List Wr) (p : Int) (w : World) (hD : Dev w A n c A' m c' f S W) (h : chk S W f = 0) :
    Calls Try.prog 18 #[DV A n c A' m c' f, .int .i64 p] w (RetD w S W (max (-1) (min 1073741824 p))) := by
  have hc := rcheck_any A n c A' m c' f S W _ ((hD.new (D25 A n c A' m c' f)).new (D25 none 0 0 none 0 0 0))
  rw [h] at hc
  have HC := Lib.hid hc
  have HD := Lib.hid hD
  clear hD h hc
  go_enter Try.func18, Try.ntmps18
  go_wp2_with fail
  refine HC.out.mono ?_
  rintro e w1 ⟨rfl, hb1⟩
  have HB := Lib.hid (((new1 w _).push _).call hb1)
  obtain ⟨hc, hf⟩ := bcell hb1
  clear hb1
  go_wp2
  have HB3 := ((HB.out.setCell (p := ⟨w.heap.size + 1, 0, none⟩) (by simp) (.slice A n c)).setCell (p := ⟨w.heap.size + 1, 1, none⟩) (by simp) (.slice A' m c')).setCell (p := ⟨w.heap.size + 1, 2, none⟩) (by simp) (.int .i64 (max (-1) (min 1073741824 p)))
  have hD2 := HD.out.below HB3
  exact bodyPost_ret (v := DV A n c A' m c' (max (-1) (min 1073741824 p))) (by simp [results, Try.results18, go_sem, hc]) rfl ⟨A, n, c, A', m, c', rfl, ⟨hD2.sec, hD2.wr, by omega, by omega, hD2.ns, hD2.nw⟩, HB3⟩

theorem rarm_any (A : Option Addr) (n c : Nat) (A' : Option Addr) (m c' : Nat) (f : Int) (S : List ByteArray) (W : List Wr) (p : Int) (w : World) (hD : Dev w A n c A' m c' f S W) :
    Calls Try.prog 18 #[DV A n c A' m c' f, .int .i64 p] w (RetD w S W (if chk S W f = 0 then armF p else f)) := by
  by_cases h : chk S W f = 0
  · rw [if_pos h]
    rw [show armF p = max (-1) (min 1073741824 p) by unfold armF; omega]
    exact rarm_yes A n c A' m c' f S W p w hD h
  · rw [if_neg h]; exact rarm_no A n c A' m c' f S W p w hD h

end Go.Proofs.Ytgjhiekcdcicgaa
