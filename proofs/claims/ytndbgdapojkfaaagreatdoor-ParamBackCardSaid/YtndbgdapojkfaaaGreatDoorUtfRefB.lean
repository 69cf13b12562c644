/- Contracts of the document's utf (errandref14): Bad, Odd, Len, Cut, Upper. -/
import Derived.Test.YtndbgdapojkfaaaGreatDoorUtfRef
set_option linter.unusedVariables false
namespace Go.Proofs.YtndbgdapojkfaaaGreatDoor.Utf
open Go.RowKit Go.Proofs.YtndbgdapojkfaaaGreatDoor.Byt

theorem drop_ne {s : ByteArray} {i : Nat} (h : i < s.size) : s.data.toList.drop i ≠ [] := by
  intro e
  have := congrArg List.length e
  rw [List.length_drop, len_list] at this
  simp at this
  omega
theorem drop_end {s : ByteArray} : s.data.toList.drop s.size = [] := List.drop_eq_nil_of_le (by rw [len_list]; exact Nat.le_refl _)
theorem wd_zero {l : List UInt8} (h : Sz l = 0) : wd l = 1 := if_pos h
theorem wd_succ {l : List UInt8} {k : Nat} (h : Sz l = k + 1) : wd l = k + 1 := by unfold wd; rw [if_neg (by omega), h]
theorem drop_drop' (l : List UInt8) (i k : Nat) : (l.drop i).drop k = l.drop (i + k) := by rw [List.drop_drop]

theorem odd_zero {l : List UInt8} (h : Sz l = 0) : oddB l = true := decide_eq_true (.inl h)
theorem odd_any {l : List UInt8} {c : Nat} (h : Sz l ≠ 0) (hc : at_ l 0 = c) : oddB l = (decide ((c < 32 ∧ c ≠ 9) ∨ c = 127)) := by
  unfold oddB
  rw [hc]
  congr 1
  simp [h]
set_option maxRecDepth 20000 in
set_option maxHeartbeats 1000000 in
theorem rodd_far (s : ByteArray) (hs : s.size ≤ 6000) (w : World) : Calls Tryz.prog 53 #[.string s] w fun r w' => r = .returned (.int .i64 (oddI s.data.toList 0)) ∧ w = w' := by
  go_enter Tryz.func53, Tryz.ntmps53
  go_wp2_with fail
  go_loop [3] (fun v => ∃ i : Nat, i ≤ s.size ∧ v = .int .i64 i ∧ Hid (oddI s.data.toList 0 = oddI (s.data.toList.drop i) i)) (fun v => s.size - (intOf v).toNat)
  case atStart => exact ⟨0, Nat.zero_le _, rfl, Lib.hid rfl⟩
  case round =>
    obtain ⟨i, hi, rfl, hb⟩ := hrel
    by_cases h : i < s.size
    · have HS := Lib.hid (fun W => size_any s (by omega) i h W)
      have hne := drop_ne h
      have hw := wd_le _ hne
      rw [List.length_drop, len_list] at hw
      have h' : (i : Int) < s.size := by omega
      have hc : at_ (s.data.toList.drop i) 0 = (s[i]'h).toNat := by rw [at_drop, Nat.add_zero, at_get h]
      rcases hz : Sz (s.data.toList.drop i) with _ | k
      · rw [hz] at HS
        have HB := Lib.hid (hb.out.trans (oddI_hit hne (odd_zero hz) _))
        clear hz hne hw hc
        go_wp2_with (go_at_call 69; with_reducible refine (HS.out _).mono ?_; rintro e w' ⟨rfl, rfl⟩)
        go_ret
        exact ⟨by rw [HB.out]; rfl, rfl⟩
      · rw [hz] at HS
        have hwd := wd_succ hz
        have ho := odd_any (by omega : Sz (s.data.toList.drop i) ≠ 0) hc
        have tk : ((k : Int) + 1 == 0) = false := by rw [beq_eq_false_iff_ne]; omega
        by_cases hodd : ((s[i]'h).toNat < 32 ∧ (s[i]'h).toNat ≠ 9) ∨ (s[i]'h).toNat = 127
        · rw [decide_eq_true hodd] at ho
          have HB := Lib.hid (hb.out.trans (oddI_hit hne ho _))
          clear hz hne hwd ho hc hw
          generalize hq : (s[i]'h).toNat = c at *
          rcases hodd with ⟨o1, o2⟩ | o1
          · have t1 : ((c : Int) != 9) = true := by simp; omega
            go_wp2_with (go_at_call 69; with_reducible refine (HS.out _).mono ?_; rintro e w' ⟨rfl, rfl⟩)
            go_ret
            exact ⟨by rw [HB.out]; rfl, rfl⟩
          · subst o1
            go_wp2_with (go_at_call 69; with_reducible refine (HS.out _).mono ?_; rintro e w' ⟨rfl, rfl⟩)
            go_ret
            exact ⟨by rw [HB.out]; rfl, rfl⟩
        · rw [decide_eq_false hodd] at ho
          have HB := hb.out.trans (oddI_on hne (by simp [ho]) _)
          rw [drop_drop', hwd] at HB
          have HB2 := Lib.hid HB
          rw [hwd] at hw
          clear hz hne hwd HB ho hc
          generalize hq : (s[i]'h).toNat = c at *
          have t2 : ((c : Int) == 127) = false := by rw [beq_eq_false_iff_ne]; omega
          by_cases o1 : c < 32
          · have o2 : c = 9 := by omega
            subst o2
            go_wp2_with (go_at_call 69; with_reducible refine (HS.out _).mono ?_; rintro e w' ⟨rfl, rfl⟩)
            go_round
            case rel => exact ⟨i + (k + 1), by omega, by go_num, Lib.hid (by rw [HB2.out]; congr 1)⟩
            case measure => simp [intOf]; omega
          · go_wp2_with (go_at_call 69; with_reducible refine (HS.out _).mono ?_; rintro e w' ⟨rfl, rfl⟩)
            go_round
            case rel => exact ⟨i + (k + 1), by omega, by go_num, Lib.hid (by rw [HB2.out]; congr 1)⟩
            case measure => simp [intOf]; omega
    · obtain rfl : i = s.size := by omega
      have HB := Lib.hid (hb.out.trans (by rw [drop_end, oddI_nil]))
      clear hb
      go_wp2_with fail
      go_ret
      exact ⟨by rw [HB.out]; rfl, rfl⟩
theorem rodd_any (s : ByteArray) (hs : s.size ≤ 1000) (w : World) : Calls Tryz.prog 53 #[.string s] w fun r w' => r = .returned (.int .i64 (oddI s.data.toList 0)) ∧ w = w' := rodd_far s (by omega) w

/-- Where the document's cut stands behind i bytes. -/
def St (L : List UInt8) (n : Int) (i k : Nat) : Prop := (((i : Int) ≤ n ∨ i = 0) ∧ k = i ∧ cutN n L = i + cutN (n - i) (L.drop i)) ∨ (n < i ∧ cutN n L = k)
theorem St.start (L : List UInt8) (n : Int) : St L n 0 0 := .inl ⟨.inr rfl, rfl, by simp⟩
theorem St.step {L : List UInt8} {n : Int} {i k : Nat} (h : St L n i k) (hne : L.drop i ≠ []) : (((i + wd (L.drop i) : Nat) : Int) ≤ n → St L n (i + wd (L.drop i)) (i + wd (L.drop i))) ∧ (¬ ((i + wd (L.drop i) : Nat) : Int) ≤ n → St L n (i + wd (L.drop i)) k) := by
  have hw := wd_le _ hne
  rcases h with ⟨h0, rfl, h1⟩ | ⟨h0, h1⟩
  · refine ⟨fun hn => .inl ⟨.inl hn, rfl, ?_⟩, fun hn => .inr ⟨by omega, ?_⟩⟩
    · rw [h1, cutN_on hne (by omega), drop_drop', show n - (k : Int) - (wd (L.drop k) : Int) = n - ((k + wd (L.drop k) : Nat) : Int) by omega]
      omega
    · rw [h1, cutN_stop hne (by omega)]
      rfl
  · exact ⟨fun hn => by omega, fun hn => .inr ⟨by omega, h1⟩⟩
theorem St.end {L : List UInt8} {n : Int} {i k : Nat} (h : St L n i k) (hi : L.drop i = []) : cutN n L = k := by
  rcases h with ⟨h0, rfl, h1⟩ | ⟨h0, h1⟩
  · rw [h1, hi, cutN_nil]; rfl
  · exact h1
theorem up_byte (b : UInt8) : ((up b).toNat : Int) = if 97 ≤ b.toNat ∧ b.toNat ≤ 122 then (b.toNat : Int) - 32 else b.toNat := by
  rw [up_nat]
  split
  · omega
  · rfl
theorem map_take_succ {L : List UInt8} {k : Nat} (h : k < L.length) : (L.map up).take (k + 1) = (L.map up).take k ++ [up L[k]] := by
  rw [List.take_succ_eq_append_getElem (by simpa using h)]
  simp
set_option maxRecDepth 20000 in
set_option maxHeartbeats 1000000 in
theorem rupper_any (s : ByteArray) (hs : s.size ≤ 1000) (w : World) : Calls Tryz.prog 31 #[.string s] w fun r w' => r = .returned (.string ⟨(s.data.toList.map up).toArray⟩) ∧ Below w.heap.size w w' := by
  go_enter Tryz.func31, Tryz.ntmps31
  go_wp2_with fail
  go_loopw [3, 4] (fun v i wr => ∃ k : Nat, k ≤ s.size ∧ i = .int .i64 k ∧ Hid (OwnB wr w.heap.size v ((s.data.toList.map up).take k)) ∧ Hid (Bl w wr)) (fun _ i _ => s.size - (intOf i).toNat)
  case atStart => exact ⟨0, Nat.zero_le _, rfl, Lib.hid (OwnB.nil _ _), Lib.hid (Bl.refl w)⟩
  case round =>
    obtain ⟨k, hk, rfl, ho, hb⟩ := hrel
    by_cases h : k < s.size
    · have h' : (k : Int) < s.size := by omega
      have hL : (s.data.toList)[k]'(by simpa using h) = s[k]'h := by simp; rfl
      have hstep := map_take_succ (L := s.data.toList) (k := k) (by simpa using h)
      rw [hL] at hstep
      have hu := up_byte (s[k]'h)
      have hlt := (s[k]'h).toNat_lt
      obtain ⟨v', w', ha, hown, hbl⟩ := append_byte ho.out hb.out (up (s[k]'h)) rfl (by rw [List.length_take]; omega)
      rw [← hstep] at hown
      have HA := Lib.hid ha
      have HO := Lib.hid hown
      have HB := Lib.hid hbl
      by_cases c1 : 97 ≤ (s[k]'h).toNat ∧ (s[k]'h).toNat ≤ 122
      · rw [if_pos c1] at hu
        rw [hu] at HA
        obtain ⟨d1, d2⟩ := c1
        clear ha hown hbl hu hstep hL
        go_wp2_with (at_builtin; refine wpList_append_run rfl (.tmp 23) (.tmp 25) 76 76 rfl _ _ rfl rfl v' w' HA.out ?_)
        go_roundw
        case rel => exact ⟨k + 1, by omega, by go_num, HO, HB⟩
        case measure => simp [intOf]; omega
      · rw [if_neg c1] at hu
        rw [hu] at HA
        clear ha hown hbl hu hstep hL
        by_cases d1 : 97 ≤ (s[k]'h).toNat
        · have d2 : ¬ (s[k]'h).toNat ≤ 122 := fun x => c1 ⟨d1, x⟩
          clear c1
          go_wp2_with (at_builtin; refine wpList_append_run rfl (.tmp 23) (.tmp 25) 76 76 rfl _ _ rfl rfl v' w' HA.out ?_)
          go_roundw
          case rel => exact ⟨k + 1, by omega, by go_num, HO, HB⟩
          case measure => simp [intOf]; omega
        · clear c1
          go_wp2_with (at_builtin; refine wpList_append_run rfl (.tmp 23) (.tmp 25) 76 76 rfl _ _ rfl rfl v' w' HA.out ?_)
          go_roundw
          case rel => exact ⟨k + 1, by omega, by go_num, HO, HB⟩
          case measure => simp [intOf]; omega
    · obtain rfl : k = s.size := by omega
      have ht : (s.data.toList.map up).take s.size = s.data.toList.map up := List.take_of_length_le (by simp)
      have hc := ho.out.text
      rw [ht] at hc
      go_wp2_with fail
      go_ret
      exact ⟨rfl, hb.out.below⟩
end Go.Proofs.YtndbgdapojkfaaaGreatDoor.Utf
