/- The walks of CrcTells, CrcJoins and CrcParts: each returns true, and leaves the world alone. -/
import Derived.Test.YtdojjpahidjjhaaDoorAwake
import Derived.Laws.Concat
namespace Go.Proofs.YtdojjpahidjjhaaDoor
open Go.RowKit

theorem walk_tells (c : BitVec 32) (s : ByteArray) (w : World) (hs : s.size ≤ maxLen) (hT : Tab w) :
    Calls Tryd.prog 3 #[.int .u32 (uv c), .string s] w fun r w' => r = .returned (.bool true) ∧ w = w' := by
  have H := Lib.hid hT
  have HS := Lib.hid hs
  clear hT
  unfold maxLen at hs
  by_cases hl : s.size ≤ 400
  all_goals
    go_enter Tryd.func3, Tryd.ntmps3
    go_wp2_with (first
      | (go_at_call 9; (with_reducible refine (sum_any _ _ HS.out H.out).mono ?_); rintro e w' ⟨rfl, rfl⟩)
      | (go_at_call 10; (with_reducible refine (ref_sum _ _ HS.out).mono ?_); rintro e w' ⟨rfl, rfl⟩)
      | (go_at_call 11; (with_reducible refine (go_any _ _ _ HS.out H.out).mono ?_); rintro e w' ⟨rfl, rfl⟩)
      | (go_at_call 12; (with_reducible refine (ref_go _ _ _ HS.out).mono ?_); rintro e w' ⟨rfl, rfl⟩)
      | (go_at_call 8; (with_reducible refine (awake_any _ H.out).mono ?_); rintro e w' ⟨rfl, rfl⟩))
    go_ret
    exact ⟨rfl, rfl⟩

theorem walk_joins (a b : BitVec 32) (n : Int) (w : World) (hT : Tab w) :
    Calls Tryd.prog 4 #[.int .u32 (uv a), .int .u32 (uv b), .int .i64 n] w fun r w' => r = .returned (.bool true) ∧ w = w' := by
  have H := Lib.hid hT
  clear hT
  go_enter Tryd.func4, Tryd.ntmps4
  go_wp2_with (first
    | (go_at_call 13; (with_reducible refine (join_any _ _ _ _ H.out).mono ?_); rintro e w' ⟨rfl, rfl⟩)
    | (go_at_call 14; (with_reducible refine (ref_join _ _ _ (held n) _ (Lib.hid rfl)).mono ?_); rintro e w' ⟨rfl, rfl⟩)
    | (go_at_call 8; (with_reducible refine (awake_any _ H.out).mono ?_); rintro e w' ⟨rfl, rfl⟩))
  go_ret
  exact ⟨rfl, rfl⟩

/-- The sum of both texts, one behind the other. -/
def both (a b : ByteArray) : BitVec 32 := goL 0#32 (a.data.toList ++ b.data.toList)
theorem sum_both (a b : ByteArray) (w : World) (ha : a.size ≤ 300) (hb : b.size ≤ 300) (hT : Tab w) :
    Calls Tryd.prog 9 #[.string (a ++ b)] w fun r w' => r = .returned (.int .u32 (uv (both a b))) ∧ w = w' := by
  have h := sum_any (a ++ b) w (by rw [ByteArray.size_append]; unfold maxLen; omega) hT
  have e : (a ++ b).data.toList = a.data.toList ++ b.data.toList := by simp
  rw [e] at h
  exact h
theorem go_both (a b : ByteArray) (w : World) (hb : b.size ≤ maxLen) (hT : Tab w) :
    Calls Tryd.prog 11 #[.int .u32 (uv (goL 0#32 a.data.toList)), .string b] w fun r w' => r = .returned (.int .u32 (uv (both a b))) ∧ w = w' := by
  have h := go_any (goL 0#32 a.data.toList) b w hb hT
  rw [goL_parts] at h
  exact h
theorem join_both (a b : ByteArray) (w : World) (hb : b.size ≤ 300) (hT : Tab w) :
    Calls Tryd.prog 13 #[.int .u32 (uv (goL 0#32 a.data.toList)), .int .u32 (uv (goL 0#32 b.data.toList)), .int .i64 b.size] w fun r w' => r = .returned (.int .u32 (uv (both a b))) ∧ w = w' := by
  have h := join_in (goL 0#32 a.data.toList) (goL 0#32 b.data.toList) b.size w (by omega) hT
  have e : b.size = b.data.toList.length := by simp
  rw [e, joinL_parts, ← e] at h
  exact h

set_option maxHeartbeats 400000 in
theorem walk_parts (a b : ByteArray) (w : World) (ha : a.size ≤ maxLen) (hb : b.size ≤ maxLen) (hT : Tab w) :
    Calls Tryd.prog 5 #[.string a, .string b] w fun r w' => r = .returned (.bool true) ∧ w = w' := by
  have H := Lib.hid hT
  have HA := Lib.hid ha
  have HB := Lib.hid hb
  clear hT
  unfold maxLen at ha hb
  by_cases hl : a.size ≤ 300
  · by_cases hm : b.size ≤ 300
    · go_enter Tryd.func5, Tryd.ntmps5
      go_wp2_with (first
        | (go_at_call 9; (with_reducible refine (sum_both _ _ _ hl hm H.out).mono ?_); rintro e w' ⟨rfl, rfl⟩)
        | (go_at_call 9; (with_reducible refine (sum_any _ _ HA.out H.out).mono ?_); rintro e w' ⟨rfl, rfl⟩)
        | (go_at_call 9; (with_reducible refine (sum_any _ _ HB.out H.out).mono ?_); rintro e w' ⟨rfl, rfl⟩)
        | (go_at_call 11; (with_reducible refine (go_both _ _ _ HB.out H.out).mono ?_); rintro e w' ⟨rfl, rfl⟩)
        | (go_at_call 11; (with_reducible refine (go_zero _ _ HA.out H.out).mono ?_); rintro e w' ⟨rfl, rfl⟩)
        | (go_at_call 13; (with_reducible refine (join_both _ _ _ hm H.out).mono ?_); rintro e w' ⟨rfl, rfl⟩)
        | (go_at_call 8; (with_reducible refine (awake_any _ H.out).mono ?_); rintro e w' ⟨rfl, rfl⟩))
      go_ret
      exact ⟨rfl, rfl⟩
    · go_enter Tryd.func5, Tryd.ntmps5
      go_wp2_with (go_at_call 8; (with_reducible refine (awake_any _ H.out).mono ?_); rintro e w' ⟨rfl, rfl⟩)
      go_ret
      exact ⟨rfl, rfl⟩
  · go_enter Tryd.func5, Tryd.ntmps5
    go_wp2_with (go_at_call 8; (with_reducible refine (awake_any _ H.out).mono ?_); rintro e w' ⟨rfl, rfl⟩)
    go_ret
    exact ⟨rfl, rfl⟩

end Go.Proofs.YtdojjpahidjjhaaDoor
