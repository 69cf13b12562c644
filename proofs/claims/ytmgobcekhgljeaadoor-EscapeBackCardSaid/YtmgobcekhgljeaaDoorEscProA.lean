/- Contracts of package escape: write, Join, Escape. -/
import Derived.Test.YtmgobcekhgljeaaDoorEscRefA
import Derived.Test.YtmgobcekhgljeaaDoorBld
set_option linter.unusedVariables false
namespace Go.Proofs.YtmgobcekhgljeaaDoor.Esc
open Go.RowKit Go.Deep Go.Proofs.YtmgobcekhgljeaaDoor.Byt Go.Proofs.YtmgobcekhgljeaaDoor.Utf Go.Proofs.YtmgobcekhgljeaaDoor.Tre Go.Proofs.YtmgobcekhgljeaaDoor.Txt

theorem joinE_len2 : ∀ (ls : List (List UInt8)), (∀ x ∈ ls, x.length ≤ 1000) → (joinE ls).length ≤ ls.length * 2001
  | [], _ => Nat.le_refl _
  | [x], h => by
    have h1 := (esc_len x).2
    have h2 := h x (by simp)
    show (esc x).length ≤ 1 * 2001
    omega
  | x :: y :: t, h => by
    have h1 := (esc_len x).2
    have h2 := h x (by simp)
    have h3 := joinE_len2 (y :: t) (fun z hz => h z (by simp [hz]))
    show (esc x ++ 44 :: joinE (y :: t)).length ≤ _
    rw [List.length_append, List.length_cons]
    rw [List.length_cons (a := x)]
    omega
set_option maxRecDepth 20000 in
set_option maxHeartbeats 1000000 in
/-- A text, escaped, behind what the builder holds. -/
theorem wr_any (s : ByteArray) (hs : s.size ≤ 1000) (w0 w : World) (l0 : List UInt8) (h0 : Bld.Bu w0 w l0) (hl0 : l0.length ≤ 100000) :
    Calls Tryd.prog 21 #[.pointer (some ⟨w0.heap.size, 0, none⟩), .string s] w fun r w' => r = .returned (.tuple #[]) ∧ Bld.Bu w0 w' (l0 ++ esc s.data.toList) := by
  have HS := Lib.hid hs
  have HL := Lib.hid hl0
  have b0 := Lib.hid h0
  clear h0
  go_enter Tryd.func21, Tryd.ntmps21
  go_wp2_with fail
  go_loopw [7] (fun i wr => ∃ k : Nat, k ≤ s.size ∧ i = .int .i64 k ∧ Hid (Bld.Bu w0 wr (l0 ++ esc (s.data.toList.take k)))) (fun i _ => s.size - (intOf i).toNat)
  case atStart => exact ⟨0, Nat.zero_le _, rfl, Lib.hid (by rw [List.take_zero, esc_nil, List.append_nil]; exact b0.out)⟩
  case round =>
    obtain ⟨k, hk, rfl, hB⟩ := hrel
    by_cases h : k < s.size
    · have h' : (k : Int) < s.size := by omega
      have hst := esc_step h
      have hl := (esc_len (s.data.toList.take k)).2
      rw [List.length_take, len_list] at hl
      have hl2 : (l0 ++ esc (s.data.toList.take k)).length ≤ 102000 := by rw [List.length_append]; have := HS.out; have := HL.out; omega
      by_cases c1 : (s[k]'h).toNat = 10
      · have e : escB (s[k]'h) = [92, 110] := if_pos c1
        rw [e] at hst
        have HST := Lib.hid ((congrArg (l0 ++ ·) hst).trans (List.append_assoc _ _ _).symm)
        have HW := Lib.hid (fun wr h => Bld.write_any w0 wr (l0 ++ esc (s.data.toList.take k)) ⟨#[92, 110]⟩ h (by show _ + 2 ≤ _; omega))
        clear hst hl hl2 e
        go_wp2_with (go_at_call 31; with_reducible refine (HW.out _ hB.out).mono ?_; rintro r w2 ⟨rfl, hb⟩; have B2 := Lib.hid hb; clear hb)
        go_roundw
        case rel => exact ⟨k + 1, by omega, by go_num, by rw [HST.out]; exact B2⟩
        case measure => simp [intOf]; omega
      · have t1 : (((s[k]'h).toNat : Int) == 10) = false := by rw [beq_eq_false_iff_ne]; omega
        by_cases c2 : (s[k]'h).toNat = 92 ∨ (s[k]'h).toNat = 59 ∨ (s[k]'h).toNat = 44
        · have e : escB (s[k]'h) = [92, s[k]'h] := by unfold escB; rw [if_neg c1, if_pos c2]
          rw [e] at hst
          have hst2 : l0 ++ esc (s.data.toList.take (k + 1)) = l0 ++ esc (s.data.toList.take k) ++ [92] ++ [s[k]'h] := by rw [hst]; simp
          have HST := Lib.hid hst2
          have HW := Lib.hid (fun wr h => Bld.byte_any w0 wr (l0 ++ esc (s.data.toList.take k)) 92 (z := 92) rfl h (by omega))
          have HV := fun z (hz : z = ((s[k]'h).toNat : Int)) => Lib.hid (fun wr hB' => Bld.byte_any w0 wr (l0 ++ esc (s.data.toList.take k) ++ [92]) (s[k]'h) (z := z) hz hB' (by rw [List.length_append]; show _ + 1 + 1 ≤ _; omega))
          clear hst hst2 hl hl2 e c1
          rcases c2 with c2 | c2 | c2
          · have HV2 := HV 92 (u8_eq c2).symm
            go_wp2_with (first
              | (go_at_call 20; with_reducible refine (HW.out _ hB.out).mono ?_; rintro r w2 ⟨rfl, hb⟩; have B2 := Lib.hid hb; clear hb)
              | (go_at_call 20; with_reducible refine (HV2.out _ B2.out).mono ?_; rintro r w3 ⟨rfl, hb⟩; have B3 := Lib.hid hb; clear hb))
            go_roundw
            case rel => exact ⟨k + 1, by omega, by go_num, by rw [HST.out]; exact B3⟩
            case measure => simp [intOf]; omega
          · have HV2 := HV 59 (u8_eq c2).symm
            go_wp2_with (first
              | (go_at_call 20; with_reducible refine (HW.out _ hB.out).mono ?_; rintro r w2 ⟨rfl, hb⟩; have B2 := Lib.hid hb; clear hb)
              | (go_at_call 20; with_reducible refine (HV2.out _ B2.out).mono ?_; rintro r w3 ⟨rfl, hb⟩; have B3 := Lib.hid hb; clear hb))
            go_roundw
            case rel => exact ⟨k + 1, by omega, by go_num, by rw [HST.out]; exact B3⟩
            case measure => simp [intOf]; omega
          · have HV2 := HV 44 (u8_eq c2).symm
            go_wp2_with (first
              | (go_at_call 20; with_reducible refine (HW.out _ hB.out).mono ?_; rintro r w2 ⟨rfl, hb⟩; have B2 := Lib.hid hb; clear hb)
              | (go_at_call 20; with_reducible refine (HV2.out _ B2.out).mono ?_; rintro r w3 ⟨rfl, hb⟩; have B3 := Lib.hid hb; clear hb))
            go_roundw
            case rel => exact ⟨k + 1, by omega, by go_num, by rw [HST.out]; exact B3⟩
            case measure => simp [intOf]; omega
        · have e : escB (s[k]'h) = [s[k]'h] := by unfold escB; rw [if_neg c1, if_neg c2]
          rw [e] at hst
          have HST := Lib.hid ((congrArg (l0 ++ ·) hst).trans (List.append_assoc _ _ _).symm)
          have HV := Lib.hid (fun wr hB' => Bld.byte_any w0 wr (l0 ++ esc (s.data.toList.take k)) (s[k]'h) rfl hB' (by omega))
          have t2 : (((s[k]'h).toNat : Int) == 92) = false := by rw [beq_eq_false_iff_ne]; omega
          have t3 : (((s[k]'h).toNat : Int) == 59) = false := by rw [beq_eq_false_iff_ne]; omega
          have t4 : (((s[k]'h).toNat : Int) == 44) = false := by rw [beq_eq_false_iff_ne]; omega
          clear hst hl hl2 e c1 c2
          go_wp2_with (go_at_call 20; with_reducible refine (HV.out _ hB.out).mono ?_; rintro r w2 ⟨rfl, hb⟩; have B2 := Lib.hid hb; clear hb)
          go_roundw
          case rel => exact ⟨k + 1, by omega, by go_num, by rw [HST.out]; exact B2⟩
          case measure => simp [intOf]; omega
    · obtain rfl : k = s.size := by omega
      rw [List.take_of_length_le (by rw [len_list]; exact Nat.le_refl _)] at hB
      go_wp2_with fail
      go_end0
      exact ⟨rfl, hB.out⟩
set_option maxRecDepth 20000 in
set_option maxHeartbeats 1000000 in
theorem joinG_any (ts : List ByteArray) (hn : ts.length ≤ 10) (ht : ∀ t ∈ ts, t.size ≤ 1000) (a : Option Addr) (c : Nat) (w : World) (ha : Rd w (txD ts) (.slice a ts.length c)) : Calls Tryd.prog 10 #[.slice a ts.length c] w fun r w' => r = .returned (.string ⟨(joinE (lists ts)).toArray⟩) ∧ Below w.heap.size w w' := by
  have HA := Lib.hid ha
  have HT := Lib.hid ht
  have HX := Lib.hid (fun wr l h => Bld.string_any w wr l h)
  have b0 := Lib.hid (Bld.Bu.start w)
  clear ha ht
  go_enter Tryd.func10, Tryd.ntmps10
  go_wp2_with fail
  go_loopw [8] (fun iv wr => ∃ k : Nat, k ≤ ts.length ∧ iv = .int .i64 k ∧ Hid (Bld.Bu w wr (joinE (lists (ts.take k))))) (fun iv _ => ts.length - (intOf iv).toNat)
  case atStart => exact ⟨0, Nat.zero_le _, rfl, b0⟩
  case round =>
    obtain ⟨k, hk, rfl, hB⟩ := hrel
    by_cases h : k < ts.length
    · have h' : (k : Int) < ts.length := by omega
      obtain ⟨b, off, rfl, c0⟩ := text_at (HA.out.call hB.out.bel) h
      have hs := HT.out ts[k] (List.getElem_mem h)
      have hsn := joinE_snoc (lists (ts.take k)) ts[k].data.toList
      rw [← lists_snoc h] at hsn
      have hjl := joinE_len2 (lists (ts.take k)) (fun y hy => by
        obtain ⟨t, ht, rfl⟩ := List.mem_map.1 hy
        rw [len_list]
        exact HT.out t (List.mem_of_mem_take ht))
      rw [lists_len, List.length_take] at hjl
      by_cases h0 : k = 0
      · subst h0
        rw [if_pos (show lists (ts.take 0) = [] from rfl)] at hsn
        have HN := Lib.hid hsn
        have HW := Lib.hid (fun wr h => wr_any ts[0] hs w wr [] h (by simp))
        clear hsn hjl
        generalize ts[0] = t at *
        rw [Nat.add_zero] at c0
        have HB0 : Hid (Bld.Bu w wr []) := hB
        go_wp2_with (go_at_call 21; with_reducible refine (HW.out _ HB0.out).mono ?_; rintro r w2 ⟨rfl, hb⟩; have B2 := Lib.hid hb; clear hb)
        go_roundw
        case rel => exact ⟨0 + 1, by omega, by go_num, by rw [HN.out]; exact B2⟩
        case measure => simp [intOf]; omega
      · have h0' : (0 : Int) < k := by omega
        have hne : lists (ts.take k) ≠ [] := by
          intro e
          have := congrArg List.length e
          rw [lists_len, List.length_take, List.length_nil] at this
          omega
        rw [if_neg hne] at hsn
        have HN := Lib.hid (hsn.trans (by simp : _ = joinE (lists (ts.take k)) ++ [44] ++ esc ts[k].data.toList))
        have HC := Lib.hid (fun wr h => Bld.byte_any w wr (joinE (lists (ts.take k))) 44 (z := 44) rfl h (by omega))
        have HW := Lib.hid (fun wr h => wr_any ts[k] hs w wr (joinE (lists (ts.take k)) ++ [44]) h (by rw [List.length_append]; show _ + 1 ≤ _; omega))
        clear hsn hjl hne
        generalize ts[k] = t at *
        go_wp2_with (first
          | (go_at_call 20; with_reducible refine (HC.out _ hB.out).mono ?_; rintro r w0 ⟨rfl, hb⟩; have B0 := Lib.hid hb; clear hb)
          | (go_at_call 21; with_reducible refine (HW.out _ B0.out).mono ?_; rintro r w2 ⟨rfl, hb⟩; have B2 := Lib.hid hb; clear hb))
        go_roundw
        case rel => exact ⟨k + 1, by omega, by go_num, by rw [HN.out]; exact B2⟩
        case measure => simp [intOf]; omega
    · obtain rfl : k = ts.length := by omega
      rw [List.take_of_length_le (Nat.le_refl _)] at hB
      go_wp2_with (go_at_call 22; with_reducible refine (HX.out _ _ hB.out).mono ?_; rintro r w1 ⟨rfl, hb⟩; have B4 := Lib.hid hb; clear hb)
      go_ret
      exact ⟨rfl, B4.out⟩
theorem join_any (ts : List ByteArray) (hn : ts.length ≤ 10) (ht : ∀ t ∈ ts, t.size ≤ 100) (a : Option Addr) (c : Nat) (w : World) (ha : Rd w (txD ts) (.slice a ts.length c)) : Calls Tryd.prog 10 #[.slice a ts.length c] w fun r w' => r = .returned (.string ⟨(joinE (lists ts)).toArray⟩) ∧ Below w.heap.size w w' := joinG_any ts hn (fun t h => Nat.le_trans (ht t h) (by decide)) a c w ha
set_option maxRecDepth 20000 in
theorem esc_any (s : ByteArray) (hs : s.size ≤ 1000) (w : World) : Calls Tryd.prog 8 #[.string s] w fun r w' => r = .returned (.string ⟨(esc s.data.toList).toArray⟩) ∧ Below w.heap.size w w' := by
  have HJ : Calls Tryd.prog 10 #[.slice (some ⟨w.heap.size, 0, none⟩) 1 1] (w.alloc (.cells #[.string s] 9)) fun r w' => r = .returned (.string ⟨(esc s.data.toList).toArray⟩) ∧ Below (w.alloc (.cells #[.string s] 9)).heap.size (w.alloc (.cells #[.string s] 9)) w' :=
    joinG_any [s] (by simp) (fun t h => by
      have : t = s := by simpa using h
      subst this
      exact hs) _ 1 _ (texts_lit w [s] (by simp))
  have HJ2 := Lib.hid HJ
  clear HJ
  go_enter Tryd.func8, Tryd.ntmps8
  go_wp2_with (go_at_call 10; with_reducible refine HJ2.out.mono ?_; rintro r w1 ⟨rfl, hb⟩; have B1 := Lib.hid (((Bl.refl w).alloc _).call hb); clear hb)
  go_ret
  exact ⟨rfl, B1.out.below⟩
end Go.Proofs.YtmgobcekhgljeaaDoor.Esc
