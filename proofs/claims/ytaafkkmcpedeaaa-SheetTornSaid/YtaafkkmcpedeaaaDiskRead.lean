/- Contracts of Read and mayPut of package disk. -/
import Derived.Test.YtaafkkmcpedeaaaDiskCheck
namespace Go.Proofs.Ytaafkkmcpedeaaa.Dsk
open Go.RowKit

theorem neq0 {z : Int} (h : ¬ z = 0) : (z != 0) = true := by simpa using h

theorem ret_str {a b : ByteArray} {e : Int} (h : a = b) : Ending.returned (.tuple #[.string a, .int .i64 e]) = .returned (.tuple #[.string b, .int .i64 e]) := by rw [h]

theorem read2 (A : Option Addr) (n c : Nat) (A' : Option Addr) (m c' : Nat) (f : Int) (S : List ByteArray) (W : List Wr) (p : Int) (w : World) (hD : Dev w A n c A' m c' f S W) (h : ¬ chk S W f = 0) :
    Calls Try.prog 20 #[DV A n c A' m c' f, .int .i64 p] w fun e w' => e = .returned (.tuple #[.string ByteArray.empty, .int .i64 2]) ∧ Below w.heap.size w w' := by
  have HC := Lib.hid (check_any A n c A' m c' f S W _ (hD.new (D33 A n c A' m c' f)))
  have hne := neq0 h
  generalize chk S W f = e0 at *
  clear hD h
  go_enter Try.func20, Try.ntmps20
  go_wp2_with (go_at_call 33; ((with_reducible refine HC.out.mono ?_); rintro e w1 ⟨rfl, hb1⟩; have HB := Lib.hid hb1; clear hb1))
  go_ret2
  exact ⟨rfl, (new1 _ _).call HB.out⟩

theorem read8 (A : Option Addr) (n c : Nat) (A' : Option Addr) (m c' : Nat) (f : Int) (S : List ByteArray) (W : List Wr) (p : Int) (w : World) (hD : Dev w A n c A' m c' f S W) (h : chk S W f = 0) (hp : p < 0 ∨ (n : Int) ≤ p) :
    Calls Try.prog 20 #[DV A n c A' m c' f, .int .i64 p] w fun e w' => e = .returned (.tuple #[.string ByteArray.empty, .int .i64 8]) ∧ Below w.heap.size w w' := by
  have hc := check_any A n c A' m c' f S W _ (hD.new (D33 A n c A' m c' f))
  rw [h] at hc
  have HC := Lib.hid hc
  have HP := Lib.hid hp
  clear hD h hp hc
  go_enter Try.func20, Try.ntmps20
  go_wp2_with fail
  refine HC.out.mono ?_
  rintro e w1 ⟨rfl, hb1⟩
  have HB := Lib.hid ((new1 _ _).call hb1)
  obtain ⟨hc, hf⟩ := bcell hb1
  clear hb1
  go_wp2_with fail
  refine (isPlace_no _ _ _ _ _ _ _ _ _ HP.out).mono ?_
  rintro e w2 ⟨rfl, hb2⟩
  have HB2 := Lib.hid (HB.out.call hb2)
  clear hb2
  go_wp2
  go_ret2
  exact ⟨rfl, HB2.out⟩

set_option maxHeartbeats 1000000 in
theorem read0 (A : Option Addr) (n c : Nat) (A' : Option Addr) (m c' : Nat) (f : Int) (S : List ByteArray) (W : List Wr) (p : Nat) (w : World) (hD : Dev w A n c A' m c' f S W) (h : chk S W f = 0) (hp : p < n) :
    Calls Try.prog 20 #[DV A n c A' m c' f, .int .i64 p] w fun e w' => e = .returned (.tuple #[.string (lastW W p (secAt S p)), .int .i64 0]) ∧ Below w.heap.size w w' := by
  have hc := check_any A n c A' m c' f S W _ (hD.new (D33 A n c A' m c' f))
  rw [h] at hc
  have HC := Lib.hid hc
  have HS := Lib.hid hD.sec.sec
  have HW := Lib.hid hD.wr.wr
  have hm : (m : Int) ≤ 2000 := by have := hD.nw; have := hD.wr.wr; omega
  have HD := Lib.hid hD
  clear hD h hc
  go_enter Try.func20, Try.ntmps20
  go_wp2_with fail
  refine HC.out.mono ?_
  rintro e w1 ⟨rfl, hb1⟩
  have HB := Lib.hid ((new1 _ _).call hb1)
  have HX := Lib.hid ((Box.new w (.slice A n c) (.slice A' m c') (.int .i64 f) 42).call hb1)
  obtain ⟨hc, hf⟩ := bcell hb1
  clear hb1
  go_wp2_with fail
  refine (isPlace_yes _ _ _ _ _ _ _ _ _ (by omega) (by omega)).mono ?_
  rintro e w2 ⟨rfl, hb2⟩
  have HB2 := Lib.hid (HB.out.call hb2)
  have HX2 := HX.out.call hb2
  have hzz : w.heap.size < w2.heap.size := HX2.lt
  obtain ⟨c0, c1, c2, f0, f1, f2⟩ := HX2
  clear hb2 hc hf
  go_wp2
  go_loop [6] (fun i => ∃ z : Int, -1 ≤ z ∧ z < m ∧ i = .int .i64 z ∧ Hid (∀ x ∈ W.drop (z + 1).toNat, x.1 ≠ (p : Int))) (fun i => (intOf i + 1).toNat)
  case atStart => exact ⟨(m : Int) - 1, by omega, by omega, rfl, by intro x hx; rw [List.drop_of_length_le (by have := HW.out; omega)] at hx; simp at hx⟩
  case round =>
    obtain ⟨z, hz1, hz2, rfl, HA⟩ := hrel
    by_cases hlt : 0 ≤ z
    · obtain ⟨j, rfl⟩ := Int.eq_ofNat_of_zero_le hlt
      have hl : j < W.length := by have := HW.out; omega
      obtain ⟨b, off, rfl, hb, hc0, hc1⟩ := (HD.out.wr.below HB2.out).wrAt (show j < m by omega) hl
      have HH := Lib.hid (fun s hx => lastW_hit W p s j hl hx (by have := HA.out; rwa [show ((j : Int) + 1).toNat = j + 1 by omega] at this))
      have HN := Lib.hid (show W.drop j = W[j] :: W.drop (j + 1) from List.drop_eq_getElem_cons hl)
      generalize W[j] = x at *
      obtain ⟨q, s⟩ := x
      dsimp only at hc0 hc1
      by_cases hq : q = (p : Int)
      · have HE := Lib.hid (HH.out (secAt S p) hq)
        have hqb : (q == (p : Int)) = true := by simpa using hq
        clear hq hl
        go_wp2
        go_ret2
        exact ⟨ret_str HE.out.symm, HB2.out⟩
      · have hqb : (q == (p : Int)) = false := by simpa using hq
        have HQ := Lib.hid hq
        clear hq hl
        go_wp2
        go_round
        case rel =>
          refine ⟨(j : Int) - 1, by omega, by omega, by go_num, ?_⟩
          intro x hx
          rw [show ((j : Int) - 1 + 1).toNat = j by omega, HN.out] at hx
          rcases List.mem_cons.1 hx with rfl | hx
          · exact HQ.out
          · exact HA.out x (by rwa [show ((j : Int) + 1).toNat = j + 1 by omega])
        case measure => simp [intOf]
    · obtain rfl : z = -1 := by omega
      have HE := Lib.hid (lastW_none W p (secAt S p) (by have := HA.out; rwa [show ((-1 : Int) + 1).toNat = 0 by omega, List.drop_zero] at this))
      have hl : p < S.length := by have := HS.out; omega
      obtain ⟨b, off, rfl, hb, hc0⟩ := (HD.out.sec.below HB2.out).secAt hp hl
      have HG := Lib.hid (secAt_eq hl)
      generalize S[p] = s at *
      clear hl HA
      go_wp2
      go_ret2
      exact ⟨ret_str (HE.out.trans HG.out).symm, HB2.out⟩

theorem read_any (A : Option Addr) (n c : Nat) (A' : Option Addr) (m c' : Nat) (f : Int) (S : List ByteArray) (W : List Wr) (p : Int) (w : World) (hD : Dev w A n c A' m c' f S W) :
    Calls Try.prog 20 #[DV A n c A' m c' f, .int .i64 p] w fun e w' => e = .returned (.tuple #[.string (rdS S W f p), .int .i64 (rdE S W f p)]) ∧ Below w.heap.size w w' := by
  have hS := hD.sec.sec
  unfold rdS rdE
  by_cases h : chk S W f = 0
  · by_cases hp : 0 ≤ p ∧ p < S.length
    · rw [if_pos ⟨h, hp⟩, if_pos h, if_pos hp]
      obtain ⟨q, rfl⟩ := Int.eq_ofNat_of_zero_le hp.1
      exact read0 A n c A' m c' f S W q w hD h (by omega)
    · rw [if_neg (fun x => hp x.2), if_pos h, if_neg hp]
      exact read8 A n c A' m c' f S W p w hD h (by omega)
  · rw [if_neg (fun x => h x.1), if_neg h]
    exact read2 A n c A' m c' f S W p w hD h

/-- mayPut, of a device that may be. -/
theorem mayPut_ok (A : Option Addr) (n c : Nat) (A' : Option Addr) (m c' : Nat) (f : Int) (p : Int) (s : ByteArray) (w : World)
    (hc : Calls Try.prog 33 #[DV A n c A' m c' f] (w.alloc (D33 A n c A' m c' f)) fun e w' => e = .returned (.int .i64 0) ∧ Below (w.alloc (D33 A n c A' m c' f)).heap.size (w.alloc (D33 A n c A' m c' f)) w')
    (hp : 0 ≤ p ∧ p < (n : Int)) (z : Int)
    (hz : (((s.size : Int) != 64) = true ∧ z = 5) ∨ (((s.size : Int) != 64) = false ∧ (f == 0) = true ∧ z = 21) ∨ (((s.size : Int) != 64) = false ∧ (f == 0) = false ∧ decide ((1024 : Int) ≤ m) = true ∧ z = 20) ∨ (((s.size : Int) != 64) = false ∧ (f == 0) = false ∧ decide ((1024 : Int) ≤ m) = false ∧ z = 0)) :
    Calls Try.prog 30 #[DV A n c A' m c' f, .int .i64 p, .string s] w fun e w' => e = .returned (.int .i64 z) ∧ Below w.heap.size w w' := by
  have HC := Lib.hid hc
  have HP := Lib.hid hp
  clear hc hp
  rcases hz with ⟨h1, rfl⟩ | ⟨h1, h2, rfl⟩ | ⟨h1, h2, h3, rfl⟩ | ⟨h1, h2, h3, rfl⟩
  all_goals
    go_enter Try.func30, Try.ntmps30
    go_wp2_with fail
    refine HC.out.mono ?_
    rintro e w1 ⟨rfl, hb1⟩
    have HB := Lib.hid ((new1 _ _).call hb1)
    have HX := Lib.hid ((Box.new w (.slice A n c) (.slice A' m c') (.int .i64 f) 42).call hb1)
    obtain ⟨hc, hf⟩ := bcell hb1
    clear hb1
    go_wp2_with fail
    refine (isPlace_yes _ _ _ _ _ _ _ _ _ HP.out.1 HP.out.2).mono ?_
    rintro e w2 ⟨rfl, hb2⟩
    have HB2 := Lib.hid (HB.out.call hb2)
    obtain ⟨c0, c1, c2, f0, f1, f2⟩ := HX.out.call hb2
    clear hb2 hc hf
    go_wp2
    go_ret
    exact ⟨rfl, HB2.out⟩

theorem mayPut8 (A : Option Addr) (n c : Nat) (A' : Option Addr) (m c' : Nat) (f : Int) (p : Int) (s : ByteArray) (w : World)
    (hc : Calls Try.prog 33 #[DV A n c A' m c' f] (w.alloc (D33 A n c A' m c' f)) fun e w' => e = .returned (.int .i64 0) ∧ Below (w.alloc (D33 A n c A' m c' f)).heap.size (w.alloc (D33 A n c A' m c' f)) w')
    (hp : p < 0 ∨ (n : Int) ≤ p) :
    Calls Try.prog 30 #[DV A n c A' m c' f, .int .i64 p, .string s] w fun e w' => e = .returned (.int .i64 8) ∧ Below w.heap.size w w' := by
  have HC := Lib.hid hc
  have HP := Lib.hid hp
  clear hc hp
  go_enter Try.func30, Try.ntmps30
  go_wp2_with fail
  refine HC.out.mono ?_
  rintro e w1 ⟨rfl, hb1⟩
  have HB := Lib.hid ((new1 _ _).call hb1)
  obtain ⟨hc, hf⟩ := bcell hb1
  clear hb1
  go_wp2_with fail
  refine (isPlace_no _ _ _ _ _ _ _ _ _ HP.out).mono ?_
  rintro e w2 ⟨rfl, hb2⟩
  have HB2 := Lib.hid (HB.out.call hb2)
  clear hb2 hc hf
  go_wp2
  go_ret
  exact ⟨rfl, HB2.out⟩

theorem mayPut2 (A : Option Addr) (n c : Nat) (A' : Option Addr) (m c' : Nat) (f : Int) (S : List ByteArray) (W : List Wr) (p : Int) (s : ByteArray) (w : World) (hD : Dev w A n c A' m c' f S W) (h : ¬ chk S W f = 0) :
    Calls Try.prog 30 #[DV A n c A' m c' f, .int .i64 p, .string s] w fun e w' => e = .returned (.int .i64 2) ∧ Below w.heap.size w w' := by
  have HC := Lib.hid (check_any A n c A' m c' f S W _ (hD.new (D33 A n c A' m c' f)))
  have hne := neq0 h
  generalize chk S W f = e0 at *
  clear hD h
  go_enter Try.func30, Try.ntmps30
  go_wp2_with (go_at_call 33; ((with_reducible refine HC.out.mono ?_); rintro e w1 ⟨rfl, hb1⟩; have HB := Lib.hid hb1; clear hb1))
  go_ret
  exact ⟨rfl, (new1 _ _).call HB.out⟩

theorem mayPut_any (A : Option Addr) (n c : Nat) (A' : Option Addr) (m c' : Nat) (f : Int) (S : List ByteArray) (W : List Wr) (p : Int) (s : ByteArray) (w : World) (hD : Dev w A n c A' m c' f S W) :
    Calls Try.prog 30 #[DV A n c A' m c' f, .int .i64 p, .string s] w fun e w' => e = .returned (.int .i64 (putE S W f p s)) ∧ Below w.heap.size w w' := by
  have hS := hD.sec.sec
  have hW := hD.wr.wr
  have hc := check_any A n c A' m c' f S W _ (hD.new (D33 A n c A' m c' f))
  unfold putE
  by_cases h : chk S W f = 0
  · have hm : m ≤ 1024 := by have := (chk_ok h).2.2.1; omega
    rw [h] at hc
    rw [if_pos h]
    by_cases hp : 0 ≤ p ∧ p < S.length
    · rw [if_pos hp]
      refine mayPut_ok A n c A' m c' f p s w hc (by omega) _ ?_
      by_cases hs : s.size = 64
      · rw [if_pos hs]
        have hsb : ((s.size : Int) != 64) = false := by simp; omega
        by_cases hf0 : f = 0
        · rw [if_pos hf0]; exact .inr (.inl ⟨hsb, by simpa using hf0, rfl⟩)
        · rw [if_neg hf0]
          by_cases hw : W.length = 1024
          · rw [if_pos hw]; exact .inr (.inr (.inl ⟨hsb, by simpa using hf0, by simp; omega, rfl⟩))
          · rw [if_neg hw]; exact .inr (.inr (.inr ⟨hsb, by simpa using hf0, by simp; omega, rfl⟩))
      · rw [if_neg hs]; exact .inl ⟨by simp; omega, rfl⟩
    · rw [if_neg hp]
      exact mayPut8 A n c A' m c' f p s w hc (by omega)
  · rw [if_neg h]
    exact mayPut2 A n c A' m c' f S W p s w hD h

end Go.Proofs.Ytaafkkmcpedeaaa.Dsk
