/- Contracts of the document's escape (errandref16): Escape, comma, SameTexts, Join. -/
import Derived.Test.YtmgobcekhgljeaaDoorEscPlain
import Derived.Test.YtmgobcekhgljeaaDoorTxt
set_option linter.unusedVariables false
namespace Go.Proofs.YtmgobcekhgljeaaDoor.Esc
open Go.RowKit Go.Deep Go.Proofs.YtmgobcekhgljeaaDoor.Byt Go.Proofs.YtmgobcekhgljeaaDoor.Utf Go.Proofs.YtmgobcekhgljeaaDoor.Tre Go.Proofs.YtmgobcekhgljeaaDoor.Txt

theorem at_get {s : ByteArray} {k : Nat} (h : k < s.size) : at_ s.data.toList k = (s[k]'h).toNat := by
  unfold at_
  rw [List.getD_eq_getElem?_getD, List.getElem?_eq_getElem (by simpa using h)]
  rfl
theorem drop_at {s : ByteArray} {k : Nat} (h : k < s.size) : s.data.toList.drop k = (s[k]'h) :: s.data.toList.drop (k + 1) := List.drop_eq_getElem_cons (by simpa using h)
theorem take_at {s : ByteArray} {k : Nat} (h : k < s.size) : s.data.toList.take (k + 1) = s.data.toList.take k ++ [s[k]'h] := List.take_succ_eq_append_getElem (by simpa using h)
theorem drop_size (s : ByteArray) : s.data.toList.drop s.size = [] := List.drop_eq_nil_of_le (by rw [len_list]; exact Nat.le_refl _)
theorem list_app (a b : ByteArray) : (a ++ b).data.toList = a.data.toList ++ b.data.toList := by simp
theorem esc_step {s : ByteArray} {k : Nat} (h : k < s.size) : esc (s.data.toList.take (k + 1)) = esc (s.data.toList.take k) ++ escB (s[k]'h) := by
  rw [take_at h, esc_app]
  show _ ++ (escB _ ++ []) = _
  rw [List.append_nil]
theorem u8_eq {b : UInt8} {n : Nat} (h : b.toNat = n) : ((b.toNat : Nat) : Int) = n := by rw [h]
set_option maxRecDepth 20000 in
set_option maxHeartbeats 1000000 in
theorem resc_any (s : ByteArray) (hs : s.size ≤ 1000) (w : World) : Calls Tryd.prog 9 #[.string s] w fun r w' => r = .returned (.string ⟨(esc s.data.toList).toArray⟩) ∧ Below w.heap.size w w' := by
  have HS := Lib.hid hs
  go_enter Tryd.func9, Tryd.ntmps9
  go_wp2_with fail
  go_loopw [3, 4] (fun v i wr => ∃ k : Nat, k ≤ s.size ∧ i = .int .i64 k ∧ Hid (OwnB wr w.heap.size v (esc (s.data.toList.take k))) ∧ Hid (Bl w wr)) (fun _ i _ => s.size - (intOf i).toNat)
  case atStart => exact ⟨0, Nat.zero_le _, rfl, Lib.hid (OwnB.nil _ _), Lib.hid (Bl.refl w)⟩
  case round =>
    obtain ⟨k, hk, rfl, ho, hb⟩ := hrel
    by_cases h : k < s.size
    · have h' : (k : Int) < s.size := by omega
      have hst := esc_step h
      have hl := (esc_len (s.data.toList.take k)).2
      rw [List.length_take, len_list] at hl
      by_cases c1 : (s[k]'h).toNat = 10
      · have e : escB (s[k]'h) = [92, 110] := if_pos c1
        obtain ⟨v', w', ra, ro, rb⟩ := append_two ho.out hb.out 92 110 (y := 92) (z := 110) rfl rfl (by omega)
        rw [← e, ← hst] at ro
        have HA := Lib.hid ra
        have RO := Lib.hid ro
        have RB := Lib.hid rb
        clear ra ro rb hst hl e
        go_wp2_with (at_builtin; refine Byt.wpList_append_run rfl (.tmp 17) (.tmp 18) 43 43 rfl _ _ rfl rfl v' w' HA.out ?_)
        go_roundw
        case rel => exact ⟨k + 1, by omega, by go_num, RO, RB⟩
        case measure => simp [intOf]; omega
      · by_cases c2 : (s[k]'h).toNat = 92 ∨ (s[k]'h).toNat = 59 ∨ (s[k]'h).toNat = 44
        · have e : escB (s[k]'h) = [92, s[k]'h] := by unfold escB; rw [if_neg c1, if_pos c2]
          obtain ⟨v', w', ra, ro, rb⟩ := append_two ho.out hb.out 92 (s[k]'h) (y := 92) (z := ((s[k]'h).toNat : Int)) rfl rfl (by omega)
          rw [← e, ← hst] at ro
          have HA := Lib.hid ra
          have RO := Lib.hid ro
          have RB := Lib.hid rb
          have t1 : (((s[k]'h).toNat : Int) == 10) = false := by rw [beq_eq_false_iff_ne]; omega
          clear ra ro rb hst hl e c1
          rcases c2 with c2 | c2 | c2
          · rw [c2] at HA
            go_wp2_with (at_builtin; refine Byt.wpList_append_run rfl (.tmp 30) (.tmp 32) 43 43 rfl _ _ rfl rfl v' w' HA.out ?_)
            go_roundw
            case rel => exact ⟨k + 1, by omega, by go_num, RO, RB⟩
            case measure => simp [intOf]; omega
          · rw [c2] at HA
            go_wp2_with (at_builtin; refine Byt.wpList_append_run rfl (.tmp 30) (.tmp 32) 43 43 rfl _ _ rfl rfl v' w' HA.out ?_)
            go_roundw
            case rel => exact ⟨k + 1, by omega, by go_num, RO, RB⟩
            case measure => simp [intOf]; omega
          · rw [c2] at HA
            go_wp2_with (at_builtin; refine Byt.wpList_append_run rfl (.tmp 30) (.tmp 32) 43 43 rfl _ _ rfl rfl v' w' HA.out ?_)
            go_roundw
            case rel => exact ⟨k + 1, by omega, by go_num, RO, RB⟩
            case measure => simp [intOf]; omega
        · have e : escB (s[k]'h) = [s[k]'h] := by unfold escB; rw [if_neg c1, if_neg c2]
          obtain ⟨v', w', ra, ro, rb⟩ := append_byte ho.out hb.out (s[k]'h) (z := ((s[k]'h).toNat : Int)) rfl (by omega)
          rw [← e, ← hst] at ro
          have HA := Lib.hid ra
          have RO := Lib.hid ro
          have RB := Lib.hid rb
          have t1 : (((s[k]'h).toNat : Int) == 10) = false := by rw [beq_eq_false_iff_ne]; omega
          have t2 : (((s[k]'h).toNat : Int) == 92) = false := by rw [beq_eq_false_iff_ne]; omega
          have t3 : (((s[k]'h).toNat : Int) == 59) = false := by rw [beq_eq_false_iff_ne]; omega
          have t4 : (((s[k]'h).toNat : Int) == 44) = false := by rw [beq_eq_false_iff_ne]; omega
          clear ra ro rb hst hl e c1 c2
          go_wp2_with (at_builtin; refine Byt.wpList_append_run rfl (.tmp 34) (.tmp 36) 43 43 rfl _ _ rfl rfl v' w' HA.out ?_)
          go_roundw
          case rel => exact ⟨k + 1, by omega, by go_num, RO, RB⟩
          case measure => simp [intOf]; omega
    · obtain rfl : k = s.size := by omega
      rw [List.take_of_length_le (by rw [len_list]; exact Nat.le_refl _)] at ho
      have hcv := ho.out.text
      go_wp2_with fail
      go_ret
      exact ⟨rfl, hb.out.below⟩
set_option maxRecDepth 20000 in
theorem comma_any (s : ByteArray) (hs : s.size ≤ 1000) (w : World) : Calls Tryd.prog 25 #[.string s] w fun r w' => r = .returned (.int .i64 (cm s.data.toList)) ∧ w = w' := by
  have HS := Lib.hid hs
  go_enter Tryd.func25, Tryd.ntmps25
  go_wp2_with fail
  go_loop [3] (fun v => ∃ i : Nat, i ≤ s.size + 1 ∧ v = .int .i64 i ∧ Hid (cm s.data.toList = min i s.size + cm (s.data.toList.drop i))) (fun v => s.size + 1 - (intOf v).toNat)
  case atStart => exact ⟨0, Nat.zero_le _, rfl, Lib.hid (by simp)⟩
  case round =>
    obtain ⟨i, hi, rfl, hq⟩ := hrel
    have hs' := HS.out
    by_cases h : i < s.size
    · have h' : (i : Int) < s.size := by omega
      have hd := drop_at h
      by_cases c1 : (s[i]'h).toNat = 92
      · by_cases h2 : i + 1 < s.size
        · have hd2 := drop_at h2
          rw [show i + 1 + 1 = i + 2 from rfl] at hd2
          have HQ := Lib.hid (hq.out.trans (by rw [hd, hd2, cm_pair c1, show min i s.size = i by omega, show min (i + 2) s.size = i + 2 by omega]; omega : min i s.size + cm (s.data.toList.drop i) = min (i + 2) s.size + cm (s.data.toList.drop (i + 2))))
          clear hd hd2 hq
          go_wp2_with fail
          go_round
          case rel => exact ⟨i + 2, by omega, by go_num, HQ⟩
          case measure => simp [intOf]; omega
        · have e : i + 1 = s.size := by omega
          have HQ := Lib.hid (hq.out.trans (by rw [hd, e, drop_size, cm_end c1, show min i s.size = i by omega, show min (i + 2) s.size = i + 1 by omega, List.drop_eq_nil_of_le (by rw [len_list]; omega), cm_nil] : min i s.size + cm (s.data.toList.drop i) = min (i + 2) s.size + cm (s.data.toList.drop (i + 2))))
          clear hd hq e
          go_wp2_with fail
          go_round
          case rel => exact ⟨i + 2, by omega, by go_num, HQ⟩
          case measure => simp [intOf]; omega
      · have t1 : (((s[i]'h).toNat : Int) == 92) = false := by rw [beq_eq_false_iff_ne]; omega
        by_cases c2 : (s[i]'h).toNat = 44
        · have HQ := Lib.hid (hq.out.trans (by rw [hd, cm_comma c2]; omega : _ = i))
          clear hd hq
          go_wp2_with fail
          go_ret
          exact ⟨by rw [HQ.out]; rfl, rfl⟩
        · have t2 : (((s[i]'h).toNat : Int) == 44) = false := by rw [beq_eq_false_iff_ne]; omega
          have HQ := Lib.hid (hq.out.trans (by rw [hd, cm_byte ⟨c1, c2⟩]; omega : _ = min (i + 1) s.size + cm (s.data.toList.drop (i + 1))))
          clear hd hq c1 c2
          go_wp2_with fail
          go_round
          case rel => exact ⟨i + 1, by omega, by go_num, HQ⟩
          case measure => simp [intOf]; omega
    · have HQ := Lib.hid (hq.out.trans (by rw [List.drop_eq_nil_of_le (by rw [len_list]; omega), cm_nil]; omega : _ = s.size))
      have h' : ¬ (i : Int) < s.size := by omega
      clear hq
      go_wp2_with fail
      go_ret
      exact ⟨by rw [HQ.out]; rfl, rfl⟩
set_option maxRecDepth 20000 in
theorem same_any (ts : List ByteArray) (hn : ts.length ≤ 100000) (a b : Option Addr) (c d : Nat) (w : World) (ha : Rd w (txD ts) (.slice a ts.length c)) (hb : Rd w (txD ts) (.slice b ts.length d)) :
    Calls Tryd.prog 18 #[.slice a ts.length c, .slice b ts.length d] w fun r w' => r = .returned (.bool true) ∧ Below w.heap.size w w' := by
  have HA := Lib.hid ha
  have HB := Lib.hid hb
  clear ha hb
  have tn : ((ts.length : Int) != ts.length) = false := by simp
  go_enter Tryd.func18, Tryd.ntmps18
  go_wp2_with fail
  go_loopw [5] (fun i wr => ∃ k : Nat, k ≤ ts.length ∧ i = .int .i64 k ∧ Hid (Bl w wr)) (fun i _ => ts.length - (intOf i).toNat)
  case atStart => exact ⟨0, Nat.zero_le _, rfl, Lib.hid (Bl.refl w)⟩
  case round =>
    obtain ⟨i, hi, rfl, hbl⟩ := hrel
    by_cases h : i < ts.length
    · have h' : (i : Int) < ts.length := by omega
      obtain ⟨ba, oa, rfl, a0⟩ := text_at (HA.out.call hbl.out.below) h
      obtain ⟨bb, ob, rfl, b0⟩ := text_at (HB.out.call hbl.out.below) h
      generalize ts[i] = t at *
      have tt : (t.toList != t.toList) = false := by simp
      go_wp2_with fail
      go_quiet (fail)
      go_wp2_with fail
      go_roundw
      case rel => exact ⟨i + 1, by omega, by go_num, Lib.hid (hbl.out.drewN _)⟩
      case measure => simp [intOf]; omega
    · obtain rfl : i = ts.length := by omega
      go_wp2_with fail
      go_ret
      exact ⟨rfl, hbl.out.below⟩
set_option maxRecDepth 20000 in
theorem rjoin_any (ts : List ByteArray) (hn : ts.length ≤ 10) (ht : ∀ t ∈ ts, t.size ≤ 100) (a : Option Addr) (c : Nat) (w : World) (ha : Rd w (txD ts) (.slice a ts.length c)) : Calls Tryd.prog 11 #[.slice a ts.length c] w fun r w' => r = .returned (.string ⟨(joinE (lists ts)).toArray⟩) ∧ Below w.heap.size w w' := by
  have HA := Lib.hid ha
  have HT := Lib.hid ht
  clear ha ht
  go_enter Tryd.func11, Tryd.ntmps11
  go_wp2_with fail
  go_loopw [3, 4] (fun xv iv wr => ∃ (x : ByteArray) (k : Nat), k ≤ ts.length ∧ xv = .string x ∧ iv = .int .i64 k ∧ x.size ≤ 3000 ∧ Hid (x.data.toList = joinE (lists (ts.take k))) ∧ Hid (Bl w wr)) (fun _ iv _ => ts.length - (intOf iv).toNat)
  case atStart => exact ⟨⟨#[]⟩, 0, Nat.zero_le _, rfl, rfl, by decide, Lib.hid rfl, Lib.hid (Bl.refl w)⟩
  case round =>
    obtain ⟨x, k, hk, rfl, rfl, hx, hj, hbl⟩ := hrel
    by_cases h : k < ts.length
    · have h' : (k : Int) < ts.length := by omega
      obtain ⟨b, off, rfl, c0⟩ := text_at (HA.out.call hbl.out.below) h
      have hs := HT.out ts[k] (List.getElem_mem h)
      have HF := Lib.hid (fun W => resc_any ts[k] (by omega) W)
      have hsn := joinE_snoc (lists (ts.take k)) ts[k].data.toList
      rw [← lists_snoc h] at hsn
      have hjl := joinE_len (lists (ts.take (k + 1))) (fun y hy => by
        obtain ⟨t, ht, rfl⟩ := List.mem_map.1 hy
        rw [len_list]
        exact HT.out t (List.mem_of_mem_take ht))
      rw [lists_len, List.length_take] at hjl
      have hel := (esc_len ts[k].data.toList).2
      rw [len_list] at hel
      have hz : (ByteArray.mk (esc ts[k].data.toList).toArray).size ≤ 200 := by rw [size_mk]; omega
      have hzl : (ByteArray.mk (esc ts[k].data.toList).toArray).data.toList = esc ts[k].data.toList := by simp
      rw [← hzl] at hsn
      rw [← hj.out] at hsn
      by_cases h0 : k = 0
      · subst h0
        have hx0 : x = ⟨#[]⟩ := by
          have h2 := hj.out
          rw [← mk_list x, h2]
          rfl
        subst hx0
        have HN : (ByteArray.mk #[] ++ ByteArray.mk (esc ts[0].data.toList).toArray).data.toList = joinE (lists (ts.take (0 + 1))) := by
          rw [hsn, list_app, if_pos (show lists (ts.take 0) = [] from rfl)]
          rfl
        have HN2 := Lib.hid HN
        clear HN hsn hel hjl hzl hj
        generalize ByteArray.mk (esc ts[0].data.toList).toArray = y at *
        generalize ts[0] = t at *
        rw [Nat.add_zero] at c0
        go_wp2_with (go_at_call 9; with_reducible refine (HF.out _).mono ?_; rintro r w1 ⟨rfl, hb⟩; have B1 := Lib.hid (hbl.out.call hb); clear hb)
        go_roundw
        case rel => exact ⟨_, 0 + 1, by omega, rfl, by go_num, by rw [ByteArray.size_append]; show 0 + _ ≤ _; omega, HN2, B1⟩
        case measure => simp [intOf]; omega
      · have h0' : (0 : Int) < k := by omega
        have hne : lists (ts.take k) ≠ [] := by
          intro e
          have := congrArg List.length e
          rw [lists_len, List.length_take, List.length_nil] at this
          omega
        have HN : (x ++ ByteArray.mk #[44] ++ ByteArray.mk (esc ts[k].data.toList).toArray).data.toList = joinE (lists (ts.take (k + 1))) := by
          rw [hsn, if_neg hne, list_app, list_app]
          simp
        have HN2 := Lib.hid HN
        have hsz : (x ++ ByteArray.mk #[44] ++ ByteArray.mk (esc ts[k].data.toList).toArray).size ≤ 3000 := by
          rw [← len_list, HN]
          omega
        clear HN hsn hel hjl hzl hj hne
        generalize ByteArray.mk (esc ts[k].data.toList).toArray = y at *
        generalize ts[k] = t at *
        go_wp2_with (go_at_call 9; with_reducible refine (HF.out _).mono ?_; rintro r w1 ⟨rfl, hb⟩; have B1 := Lib.hid (hbl.out.call hb); clear hb)
        go_roundw
        case rel => exact ⟨_, k + 1, by omega, rfl, by go_num, hsz, HN2, B1⟩
        case measure => simp [intOf]; omega
    · obtain rfl : k = ts.length := by omega
      have HE := Lib.hid hj.out
      rw [List.take_of_length_le (Nat.le_refl _)] at HE
      go_wp2_with fail
      go_ret
      exact ⟨by rw [← HE.out, mk_list]; rfl, hbl.out.below⟩
end Go.Proofs.YtmgobcekhgljeaaDoor.Esc
