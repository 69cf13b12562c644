/- Contracts of the document's utf (errandref14): Bad, Odd, Len, Cut, Upper. -/
import Derived.Test.YtplobfnljlnkkaaDoorUtfRef
set_option linter.unusedVariables false
namespace Go.Proofs.YtplobfnljlnkkaaDoor.Utf
open Go.RowKit Go.Proofs.YtplobfnljlnkkaaDoor.Byt

theorem drop_ne {s : ByteArray} {i : Nat} (h : i < s.size) : s.data.toList.drop i ≠ [] := by
  intro e
  have := congrArg List.length e
  rw [List.length_drop, len_list] at this
  simp at this
  omega
theorem drop_end {s : ByteArray} : s.data.toList.drop s.size = [] := List.drop_eq_nil_of_le (by rw [len_list]; exact Nat.le_refl _)
theorem wd_zero {l : List UInt8} (h : Sz l = 0) : wd l = 1 := if_pos h
theorem wd_succ {l : List UInt8} {k : Nat} (h : Sz l = k + 1) : wd l = k + 1 := by unfold wd; rw [if_neg (by omega), h]
theorem drop_drop' (l : List UInt8) (i k : Nat) : (l.drop i).drop k = l.drop (i + k) := by rw [List.drop_drop]

theorem odd_zero {l : List UInt8} (h : Sz l = 0) : oddB l = true := decide_eq_true (.inl h)
theorem odd_any {l : List UInt8} {c : Nat} (h : Sz l ≠ 0) (hc : at_ l 0 = c) : oddB l = (decide ((c < 32 ∧ c ≠ 9) ∨ c = 127)) := by
  unfold oddB
  rw [hc]
  congr 1
  simp [h]
/-- Where the document's cut stands behind i bytes. -/
def St (L : List UInt8) (n : Int) (i k : Nat) : Prop := (((i : Int) ≤ n ∨ i = 0) ∧ k = i ∧ cutN n L = i + cutN (n - i) (L.drop i)) ∨ (n < i ∧ cutN n L = k)
theorem St.start (L : List UInt8) (n : Int) : St L n 0 0 := .inl ⟨.inr rfl, rfl, by simp⟩
theorem St.step {L : List UInt8} {n : Int} {i k : Nat} (h : St L n i k) (hne : L.drop i ≠ []) : (((i + wd (L.drop i) : Nat) : Int) ≤ n → St L n (i + wd (L.drop i)) (i + wd (L.drop i))) ∧ (¬ ((i + wd (L.drop i) : Nat) : Int) ≤ n → St L n (i + wd (L.drop i)) k) := by
  have hw := wd_le _ hne
  rcases h with ⟨h0, rfl, h1⟩ | ⟨h0, h1⟩
  · refine ⟨fun hn => .inl ⟨.inl hn, rfl, ?_⟩, fun hn => .inr ⟨by omega, ?_⟩⟩
    · rw [h1, cutN_on hne (by omega), drop_drop', show n - (k : Int) - (wd (L.drop k) : Int) = n - ((k + wd (L.drop k) : Nat) : Int) by omega]
      omega
    · rw [h1, cutN_stop hne (by omega)]
      rfl
  · exact ⟨fun hn => by omega, fun hn => .inr ⟨by omega, h1⟩⟩
theorem St.end {L : List UInt8} {n : Int} {i k : Nat} (h : St L n i k) (hi : L.drop i = []) : cutN n L = k := by
  rcases h with ⟨h0, rfl, h1⟩ | ⟨h0, h1⟩
  · rw [h1, hi, cutN_nil]; rfl
  · exact h1
set_option maxRecDepth 20000 in
theorem rcut_any (s : ByteArray) (hs : s.size ≤ 1000) (n : Int) (w : World) : Calls Tryd.prog 31 #[.string s, .int .i64 n] w fun r w' => r = .returned (.int .i64 (cutN n s.data.toList)) ∧ w = w' := by
  go_enter Tryd.func31, Tryd.ntmps31
  go_wp2_with fail
  go_loop [5, 6] (fun q v => ∃ i k : Nat, i ≤ s.size ∧ k ≤ i ∧ v = .int .i64 i ∧ q = .int .i64 k ∧ Hid (St s.data.toList n i k)) (fun _ v => s.size - (intOf v).toNat)
  case atStart => exact ⟨0, 0, Nat.zero_le _, Nat.le_refl _, rfl, rfl, Lib.hid (St.start _ _)⟩
  case round =>
    obtain ⟨i, q, hi, hm, rfl, rfl, hb⟩ := hrel
    by_cases h : i < s.size
    · have HS := Lib.hid (fun W => size_any s (by omega) i h W)
      have hne := drop_ne h
      have hw := wd_le _ hne
      rw [List.length_drop, len_list] at hw
      have h' : (i : Int) < s.size := by omega
      obtain ⟨g1, g2⟩ := hb.out.step hne
      rcases hz : Sz (s.data.toList.drop i) with _ | k
      · rw [hz] at HS
        rw [wd_zero hz] at g1 g2 hw
        have G1 := Lib.hid g1
        have G2 := Lib.hid g2
        clear hz hne g1 g2
        by_cases hn : (i : Int) + 1 ≤ n
        · go_wp2_with (go_at_call 42; with_reducible refine (HS.out _).mono ?_; rintro e w' ⟨rfl, rfl⟩)
          go_round
          case rel => exact ⟨i + 1, i + 1, by omega, by omega, by go_num, by go_num, Lib.hid (G1.out (by omega))⟩
          case measure => simp [intOf]; omega
        · go_wp2_with (go_at_call 42; with_reducible refine (HS.out _).mono ?_; rintro e w' ⟨rfl, rfl⟩)
          go_round
          case rel => exact ⟨i + 1, q, by omega, by omega, by go_num, by go_num, Lib.hid (G2.out (by omega))⟩
          case measure => simp [intOf]; omega
      · rw [hz] at HS
        rw [wd_succ hz] at g1 g2 hw
        have G1 := Lib.hid g1
        have G2 := Lib.hid g2
        clear hz hne g1 g2
        by_cases hn : (i : Int) + ((k : Int) + 1) ≤ n
        · go_wp2_with (go_at_call 42; with_reducible refine (HS.out _).mono ?_; rintro e w' ⟨rfl, rfl⟩)
          go_round
          case rel => exact ⟨i + (k + 1), i + (k + 1), by omega, by omega, by go_num, by go_num, Lib.hid (G1.out (by omega))⟩
          case measure => simp [intOf]; omega
        · go_wp2_with (go_at_call 42; with_reducible refine (HS.out _).mono ?_; rintro e w' ⟨rfl, rfl⟩)
          go_round
          case rel => exact ⟨i + (k + 1), q, by omega, by omega, by go_num, by go_num, Lib.hid (G2.out (by omega))⟩
          case measure => simp [intOf]; omega
    · obtain rfl : i = s.size := by omega
      have HB := Lib.hid (hb.out.end drop_end)
      clear hb
      go_wp2_with fail
      go_ret
      exact ⟨by rw [HB.out]; rfl, rfl⟩

theorem up_byte (b : UInt8) : ((up b).toNat : Int) = if 97 ≤ b.toNat ∧ b.toNat ≤ 122 then (b.toNat : Int) - 32 else b.toNat := by
  rw [up_nat]
  split
  · omega
  · rfl
theorem map_take_succ {L : List UInt8} {k : Nat} (h : k < L.length) : (L.map up).take (k + 1) = (L.map up).take k ++ [up L[k]] := by
  rw [List.take_succ_eq_append_getElem (by simpa using h)]
  simp
end Go.Proofs.YtplobfnljlnkkaaDoor.Utf
