/- Contracts of the document's param (errandref17): read. -/
import Derived.Test.YtndbgdapojkfaaaGreatDoorParRefB
set_option linter.unusedVariables false
namespace Go.Proofs.YtndbgdapojkfaaaGreatDoor.Par
open Go.RowKit Go.Deep Go.Proofs.YtndbgdapojkfaaaGreatDoor.Byt Go.Proofs.YtndbgdapojkfaaaGreatDoor.Utf Go.Proofs.YtndbgdapojkfaaaGreatDoor.Tre Go.Proofs.YtndbgdapojkfaaaGreatDoor.Txt

theorem pairL_beq (a b c d : UInt8) (y : ByteArray) (hy : y.data.toList = [a, b]) : (y.toList == [c, d]) = (decide (a.toNat = c.toNat) && decide (b.toNat = d.toNat)) := by
  have := pair_beq a b c d y hy
  rwa [ByteArray.toList_eq (ByteArray.mk #[c, d])] at this
theorem drop_end {s : ByteArray} {k : Nat} (h : k < s.size) (h2 : ¬ k + 1 < s.size) : s.data.toList.drop k = [s[k]'h] := by
  rw [drop_at h, List.drop_eq_nil_of_le (by rw [len_list]; omega)]
theorem rd_len : ∀ (n : Nat) (L : List UInt8), L.length ≤ n → (rd L).length ≤ L.length := by
  intro n
  induction n with
  | zero =>
    intro L h
    have : L = [] := List.eq_nil_of_length_eq_zero (by omega)
    subst this; rw [rd_nil]; exact Nat.le_refl _
  | succ n ih =>
    intro L h
    cases L with
    | nil => rw [rd_nil]; exact Nat.le_refl _
    | cons c t =>
      rw [List.length_cons] at h
      by_cases h1 : c.toNat = 94
      · cases t with
        | nil => rw [rd_end h1]; exact Nat.le_refl _
        | cons d u =>
          cases hd : tc d with
          | some x =>
            rw [rd_told h1 hd]
            have := ih u (by rw [List.length_cons] at h; omega)
            simp only [List.length_cons]; omega
          | none =>
            rw [rd_care h1 hd]
            have := ih (d :: u) (by omega)
            simp only [List.length_cons] at this ⊢; omega
      · rw [rd_byte h1]
        have := ih t (by omega)
        simp only [List.length_cons]; omega
set_option maxRecDepth 20000 in
set_option maxHeartbeats 1000000 in
theorem read_any (s : ByteArray) (hs : s.size ≤ 6000) (w : World) : Calls Tryz.prog 54 #[.string s] w fun r w' => r = .returned (.string ⟨(rd s.data.toList).toArray⟩) ∧ w = w' := by
  have HS := Lib.hid hs
  go_enter Tryz.func54, Tryz.ntmps54
  go_wp2_with fail
  go_loop [3, 4] (fun tv iv => ∃ (t : ByteArray) (k : Nat), k ≤ s.size ∧ tv = .string t ∧ iv = .int .i64 k ∧ t.size ≤ k ∧ Hid (t.data.toList ++ rd (s.data.toList.drop k) = rd s.data.toList)) (fun _ iv => s.size - (intOf iv).toNat)
  case atStart => exact ⟨⟨#[]⟩, 0, Nat.zero_le _, rfl, rfl, Nat.le_refl _, Lib.hid rfl⟩
  case round =>
    obtain ⟨t, k, hk, rfl, rfl, ht, hc⟩ := hrel
    have hs' := HS.out
    by_cases h : k < s.size
    · have h' : (k : Int) < s.size := by omega
      have k1 : (k : Int) + 1 ≤ s.size := by omega
      have hz : (s.extract k (k + 1)).size = 1 := by rw [ByteArray.size_extract]; omega
      have hd := drop_at h
      have ho := one_at h
      by_cases h2 : k + 1 < s.size
      · have h2' : (k : Int) + 1 < s.size := by omega
        have k2 : (k : Int) + 2 ≤ s.size := by omega
        have hd2 := drop_at h2
        have hy := two_at h2
        have p1 := pairL_beq _ _ 94 94 _ hy
        have p2 := pairL_beq _ _ 94 110 _ hy
        have p3 := pairL_beq _ _ 94 39 _ hy
        by_cases c1 : (s[k]'h).toNat = 94
        · rw [decide_eq_true (show (s[k]'h).toNat = (94 : UInt8).toNat from c1), Bool.true_and] at p1 p2 p3
          by_cases d1 : (s[k + 1]'h2).toNat = 94
          · have HC := Lib.hid (by rw [list_app, ← hc.out, hd, hd2, rd_told c1 (show tc (s[k + 1]'h2) = some 94 by unfold tc; rw [if_pos d1])]; simp : (t ++ ByteArray.mk #[94]).data.toList ++ rd (s.data.toList.drop (k + 1 + 1)) = rd s.data.toList)
            rw [decide_eq_true (show (s[k + 1]'h2).toNat = (94 : UInt8).toNat from d1)] at p1
            clear hd hd2 hc c1 d1 p2 p3 hy ho
            go_wp2_with fail
            go_round
            case rel => exact ⟨_, k + 1 + 1, by omega, rfl, by go_num, by rw [ByteArray.size_append]; show _ + 1 ≤ _; omega, HC⟩
            case measure => simp [intOf]; omega
          · rw [decide_eq_false (show ¬ (s[k + 1]'h2).toNat = (94 : UInt8).toNat from d1)] at p1
            by_cases d2 : (s[k + 1]'h2).toNat = 110
            · have HC := Lib.hid (by rw [list_app, ← hc.out, hd, hd2, rd_told c1 (show tc (s[k + 1]'h2) = some 10 by unfold tc; rw [if_neg d1, if_pos d2])]; simp : (t ++ ByteArray.mk #[10]).data.toList ++ rd (s.data.toList.drop (k + 1 + 1)) = rd s.data.toList)
              rw [decide_eq_true (show (s[k + 1]'h2).toNat = (110 : UInt8).toNat from d2)] at p2
              clear hd hd2 hc c1 d1 d2 p3 hy ho
              go_wp2_with fail
              go_round
              case rel => exact ⟨_, k + 1 + 1, by omega, rfl, by go_num, by rw [ByteArray.size_append]; show _ + 1 ≤ _; omega, HC⟩
              case measure => simp [intOf]; omega
            · rw [decide_eq_false (show ¬ (s[k + 1]'h2).toNat = (110 : UInt8).toNat from d2)] at p2
              by_cases d3 : (s[k + 1]'h2).toNat = 39
              · have HC := Lib.hid (by rw [list_app, ← hc.out, hd, hd2, rd_told c1 (show tc (s[k + 1]'h2) = some 34 by unfold tc; rw [if_neg d1, if_neg d2, if_pos d3])]; simp : (t ++ ByteArray.mk #[34]).data.toList ++ rd (s.data.toList.drop (k + 1 + 1)) = rd s.data.toList)
                rw [decide_eq_true (show (s[k + 1]'h2).toNat = (39 : UInt8).toNat from d3)] at p3
                clear hd hd2 hc c1 d1 d2 d3 hy ho
                go_wp2_with fail
                go_round
                case rel => exact ⟨_, k + 1 + 1, by omega, rfl, by go_num, by rw [ByteArray.size_append]; show _ + 1 ≤ _; omega, HC⟩
                case measure => simp [intOf]; omega
              · rw [decide_eq_false (show ¬ (s[k + 1]'h2).toNat = (39 : UInt8).toNat from d3)] at p3
                have HC := Lib.hid (by rw [list_app, ho, ← hc.out, hd, hd2, rd_care c1 (show tc (s[k + 1]'h2) = none by unfold tc; rw [if_neg d1, if_neg d2, if_neg d3]), ← hd2]; simp : (t ++ s.extract k (k + 1)).data.toList ++ rd (s.data.toList.drop (k + 1)) = rd s.data.toList)
                clear hd hd2 hc c1 d1 d2 d3 hy ho
                go_wp2_with fail
                go_round
                case rel => exact ⟨_, k + 1, by omega, rfl, by go_num, by rw [ByteArray.size_append, hz]; omega, HC⟩
                case measure => simp [intOf]; omega
        · rw [decide_eq_false (show ¬ (s[k]'h).toNat = (94 : UInt8).toNat from c1), Bool.false_and] at p1 p2 p3
          have HC := Lib.hid (by rw [list_app, ho, ← hc.out, hd, rd_byte c1]; simp : (t ++ s.extract k (k + 1)).data.toList ++ rd (s.data.toList.drop (k + 1)) = rd s.data.toList)
          clear hd hd2 hc c1 hy ho
          go_wp2_with fail
          go_round
          case rel => exact ⟨_, k + 1, by omega, rfl, by go_num, by rw [ByteArray.size_append, hz]; omega, HC⟩
          case measure => simp [intOf]; omega
      · have h2' : ¬ (k : Int) + 1 < s.size := by omega
        have he := drop_end h h2
        have hr : rd (s.data.toList.drop k) = [s[k]'h] := by
          rw [he]
          by_cases c1 : (s[k]'h).toNat = 94
          · exact rd_end c1
          · rw [rd_byte c1, rd_nil]
        have e2 : s.data.toList.drop (k + 1) = [] := List.drop_eq_nil_of_le (by rw [len_list]; omega)
        have HC := Lib.hid (by rw [list_app, ho, ← hc.out, hr, e2, rd_nil, List.append_nil] : (t ++ s.extract k (k + 1)).data.toList ++ rd (s.data.toList.drop (k + 1)) = rd s.data.toList)
        clear hd hc ho he hr e2
        go_wp2_with fail
        go_round
        case rel => exact ⟨_, k + 1, by omega, rfl, by go_num, by rw [ByteArray.size_append, hz]; omega, HC⟩
        case measure => simp [intOf]; omega
    · obtain rfl : k = s.size := by omega
      have e : s.data.toList.drop s.size = [] := List.drop_eq_nil_of_le (by rw [len_list]; exact Nat.le_refl _)
      have h2 := hc.out
      rw [e, rd_nil, List.append_nil] at h2
      have HE := Lib.hid (by rw [← h2, mk_list] : ByteArray.mk (rd s.data.toList).toArray = t)
      go_wp2_with fail
      go_ret
      exact ⟨by rw [HE.out]; rfl, rfl⟩
end Go.Proofs.YtndbgdapojkfaaaGreatDoor.Par
