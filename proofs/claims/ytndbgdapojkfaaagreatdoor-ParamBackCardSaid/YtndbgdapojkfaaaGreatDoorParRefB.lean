/- Contracts of the document's param (errandref17): write, read. -/
import Derived.Test.YtndbgdapojkfaaaGreatDoorParRefA
set_option linter.unusedVariables false
namespace Go.Proofs.YtndbgdapojkfaaaGreatDoor.Par
open Go.RowKit Go.Deep Go.Proofs.YtndbgdapojkfaaaGreatDoor.Byt Go.Proofs.YtndbgdapojkfaaaGreatDoor.Utf Go.Proofs.YtndbgdapojkfaaaGreatDoor.Tre Go.Proofs.YtndbgdapojkfaaaGreatDoor.Txt

theorem crt_step {s : ByteArray} {k : Nat} (h : k < s.size) : crt (s.data.toList.take (k + 1)) = crt (s.data.toList.take k) ++ crtB (s[k]'h) := by
  rw [take_at h, crt_app]
  show _ ++ (crtB _ ++ []) = _
  rw [List.append_nil]
theorem any_step {s : ByteArray} {k : Nat} (h : k < s.size) : (s.data.toList.take (k + 1)).any stp = ((s.data.toList.take k).any stp || stp (s[k]'h)) := by
  rw [take_at h, List.any_append]
  simp
set_option maxRecDepth 20000 in
set_option maxHeartbeats 1000000 in
theorem write_any (s : ByteArray) (hs : s.size ≤ 1000) (w : World) : Calls Tryz.prog 45 #[.string s] w fun r w' => r = .returned (.string ⟨(wrt s.data.toList).toArray⟩) ∧ w = w' := by
  have HS := Lib.hid hs
  go_enter Tryz.func45, Tryz.ntmps45
  go_wp2_with fail
  go_loop [3, 4, 5] (fun xv qv iv => ∃ (x : ByteArray) (q : Bool) (k : Nat), k ≤ s.size ∧ xv = .string x ∧ qv = .bool q ∧ iv = .int .i64 k ∧ x.size ≤ 2 * k ∧ Hid (x.data.toList = crt (s.data.toList.take k)) ∧ Hid (q = (s.data.toList.take k).any stp)) (fun _ _ iv => s.size - (intOf iv).toNat)
  case atStart => exact ⟨⟨#[]⟩, false, 0, Nat.zero_le _, rfl, rfl, rfl, Nat.le_refl _, Lib.hid rfl, Lib.hid rfl⟩
  case round =>
    obtain ⟨x, q, k, hk, rfl, rfl, rfl, hx, hc, hq⟩ := hrel
    have hs' := HS.out
    by_cases h : k < s.size
    · have h' : (k : Int) < s.size := by omega
      have hst := crt_step h
      have han := any_step h
      rw [← hc.out] at hst
      rw [← hq.out] at han
      have hx2 : x.size ≤ 2000 := by omega
      by_cases c1 : (s[k]'h).toNat = 94
      · have e : stp (s[k]'h) = false := decide_eq_false (by omega)
        have HC := Lib.hid ((by rw [list_app, hst]; unfold crtB; rw [if_pos c1] : (x ++ ByteArray.mk #[94, 94]).data.toList = crt (s.data.toList.take (k + 1))))
        have HQ := Lib.hid (by rw [han, e, Bool.or_false] : q = (s.data.toList.take (k + 1)).any stp)
        clear hst han hc hq e
        go_wp2_with fail
        go_round
        case rel => exact ⟨_, q, k + 1, by omega, rfl, rfl, by go_num, by rw [ByteArray.size_append]; show _ + 2 ≤ _; omega, HC, HQ⟩
        case measure => simp [intOf]; omega
      · have t1 : (((s[k]'h).toNat : Int) == 94) = false := by rw [beq_eq_false_iff_ne]; omega
        by_cases c2 : (s[k]'h).toNat = 10
        · have e : stp (s[k]'h) = false := decide_eq_false (by omega)
          have HC := Lib.hid ((by rw [list_app, hst]; unfold crtB; rw [if_neg c1, if_pos c2] : (x ++ ByteArray.mk #[94, 110]).data.toList = crt (s.data.toList.take (k + 1))))
          have HQ := Lib.hid (by rw [han, e, Bool.or_false] : q = (s.data.toList.take (k + 1)).any stp)
          clear hst han hc hq e
          go_wp2_with fail
          go_round
          case rel => exact ⟨_, q, k + 1, by omega, rfl, rfl, by go_num, by rw [ByteArray.size_append]; show _ + 2 ≤ _; omega, HC, HQ⟩
          case measure => simp [intOf]; omega
        · have t2 : (((s[k]'h).toNat : Int) == 10) = false := by rw [beq_eq_false_iff_ne]; omega
          by_cases c3 : (s[k]'h).toNat = 34
          · have e : stp (s[k]'h) = false := decide_eq_false (by omega)
            have HC := Lib.hid ((by rw [list_app, hst]; unfold crtB; rw [if_neg c1, if_neg c2, if_pos c3] : (x ++ ByteArray.mk #[94, 39]).data.toList = crt (s.data.toList.take (k + 1))))
            have HQ := Lib.hid (by rw [han, e, Bool.or_false] : q = (s.data.toList.take (k + 1)).any stp)
            clear hst han hc hq e
            go_wp2_with fail
            go_round
            case rel => exact ⟨_, q, k + 1, by omega, rfl, rfl, by go_num, by rw [ByteArray.size_append]; show _ + 2 ≤ _; omega, HC, HQ⟩
            case measure => simp [intOf]; omega
          · have t3 : (((s[k]'h).toNat : Int) == 34) = false := by rw [beq_eq_false_iff_ne]; omega
            have HC := Lib.hid ((by rw [list_app, hst, one_at h]; unfold crtB; rw [if_neg c1, if_neg c2, if_neg c3] : (x ++ s.extract k (k + 1)).data.toList = crt (s.data.toList.take (k + 1))))
            have hz : (s.extract k (k + 1)).size = 1 := by rw [ByteArray.size_extract]; omega
            have k1 : (k : Int) + 1 ≤ s.size := by omega
            by_cases c4 : (s[k]'h).toNat = 44 ∨ (s[k]'h).toNat = 58 ∨ (s[k]'h).toNat = 59
            · have e : stp (s[k]'h) = true := decide_eq_true c4
              have HQ := Lib.hid (by rw [han, e, Bool.or_true] : true = (s.data.toList.take (k + 1)).any stp)
              clear hst han hc hq e c1 c2 c3
              rcases c4 with c4 | c4 | c4
              all_goals
                go_wp2_with fail
                go_round
                case rel => exact ⟨_, true, k + 1, by omega, rfl, rfl, by go_num, by rw [ByteArray.size_append, hz]; omega, HC, HQ⟩
                case measure => simp [intOf]; omega
            · have e : stp (s[k]'h) = false := decide_eq_false c4
              have HQ := Lib.hid (by rw [han, e, Bool.or_false] : q = (s.data.toList.take (k + 1)).any stp)
              have t4 : (((s[k]'h).toNat : Int) == 44) = false := by rw [beq_eq_false_iff_ne]; omega
              have t5 : (((s[k]'h).toNat : Int) == 58) = false := by rw [beq_eq_false_iff_ne]; omega
              have t6 : (((s[k]'h).toNat : Int) == 59) = false := by rw [beq_eq_false_iff_ne]; omega
              clear hst han hc hq e c1 c2 c3 c4
              go_wp2_with fail
              go_round
              case rel => exact ⟨_, q, k + 1, by omega, rfl, rfl, by go_num, by rw [ByteArray.size_append, hz]; omega, HC, HQ⟩
              case measure => simp [intOf]; omega
    · obtain rfl : k = s.size := by omega
      rw [take_size] at hc hq
      have hx2 : x.size ≤ 2000 := by omega
      rcases q with _ | _
      · have HE := Lib.hid (by unfold wrt; rw [← hq.out, if_neg (by decide), ← hc.out, mk_list] : ByteArray.mk (wrt s.data.toList).toArray = x)
        go_wp2_with fail
        go_ret
        exact ⟨by rw [HE.out]; rfl, rfl⟩
      · have HE := Lib.hid (by
          unfold wrt
          rw [← hq.out, if_pos rfl, ← hc.out]
          have : (ByteArray.mk #[34] ++ x ++ ByteArray.mk #[34]).data.toList = 34 :: (x.data.toList ++ [34]) := by rw [list_app, list_app]; simp
          rw [← this, mk_list] : ByteArray.mk (wrt s.data.toList).toArray = ByteArray.mk #[34] ++ x ++ ByteArray.mk #[34])
        go_wp2_with fail
        go_ret
        exact ⟨by rw [HE.out]; rfl, rfl⟩
theorem two_at {s : ByteArray} {k : Nat} (h : k + 1 < s.size) : (s.extract k (k + 2)).data.toList = [s[k]'(by omega), s[k + 1]'h] := by
  have : (s.extract k (k + 2)).data.toList = (s.data.toList.drop k).take 2 := by simp
  rw [this, drop_at (by omega : k < s.size), drop_at h]; rfl
theorem pair_beq (a b c d : UInt8) (y : ByteArray) (hy : y.data.toList = [a, b]) : (y.toList == (ByteArray.mk #[c, d]).toList) = (decide (a.toNat = c.toNat) && decide (b.toNat = d.toNat)) := by
  rw [ByteArray.toList_eq, ByteArray.toList_eq, hy]
  show ([a, b] == [c, d]) = _
  have h1 : (a == c) = decide (a.toNat = c.toNat) := by
    by_cases h : a = c
    · subst h; simp
    · have : a.toNat ≠ c.toNat := fun x => h (UInt8.toNat_inj.1 x)
      rw [decide_eq_false this]
      simpa using h
  have h2 : (b == d) = decide (b.toNat = d.toNat) := by
    by_cases h : b = d
    · subst h; simp
    · have : b.toNat ≠ d.toNat := fun x => h (UInt8.toNat_inj.1 x)
      rw [decide_eq_false this]
      simpa using h
  show (a == c && (b == d && true)) = _
  rw [h1, h2, Bool.and_true]
end Go.Proofs.YtndbgdapojkfaaaGreatDoor.Par
