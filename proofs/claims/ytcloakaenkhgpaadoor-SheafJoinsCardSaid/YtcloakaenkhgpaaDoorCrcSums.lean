/- Contracts of Sum, Go and Join of package crc, and of the document's answer: each returns what the plain functions of the text Pure say, and leaves the world alone. -/
import Derived.Test.YtcloakaenkhgpaaDoorCrcOver
namespace Go.Proofs.YtcloakaenkhgpaaDoor.Crc
open Go.RowKit

theorem not_uv (c : BitVec 32) : bits .xor .u32 IntKind.u32.max (uv c) = uv (~~~ c) := by
  rw [show IntKind.u32.max = uv 4294967295#32 from rfl, xor_uv, not_eq]

theorem take_snoc (s : ByteArray) (k : Nat) (h : k < s.size) : s.data.toList.take (k + 1) = s.data.toList.take k ++ [s[k]] := by
  rw [List.take_succ_eq_append_getElem (by simpa using h)]; rfl

theorem over_take (c : BitVec 32) (s : ByteArray) (k : Nat) (h : k < s.size) : byteOver (overL c (s.data.toList.take k)) s[k] = overL c (s.data.toList.take (k + 1)) := by
  rw [take_snoc s k h, overL_snoc]

theorem ret_u32 {a b : BitVec 32} (h : a = b) : Ending.returned (.int .u32 (uv a)) = .returned (.int .u32 (uv b)) := by rw [h]
theorem take_all (s : ByteArray) (k : Nat) (h : ¬ k < s.size) : s.data.toList.take k = s.data.toList := List.take_of_length_le (by simp; omega)

set_option maxHeartbeats 400000 in
theorem go_any (c : BitVec 32) (s : ByteArray) (w : World) (hs : s.size ≤ maxLen) (hT : Tab w) :
    Calls Tryd.prog 50 #[.int .u32 (uv c), .string s] w fun r w' => r = .returned (.int .u32 (uv (goL c s.data.toList))) ∧ w = w' := by
  unfold maxLen at hs
  have H := Lib.hid hT
  clear hT
  have e1 := not_uv c
  unfold goL
  generalize ~~~ c = c1 at *
  go_enter Tryd.func50, Tryd.ntmps50
  go_wp2
  clear e1
  go_loop [0, 10] (fun n i => ∃ k : Nat, k ≤ s.size ∧ i = .int .i64 k ∧ n = .int .u32 (uv (overL c1 (s.data.toList.take k)))) (fun _ i => s.size - (intOf i).toNat)
  case atStart => exact ⟨0, Nat.zero_le _, rfl, rfl⟩
  case round =>
    obtain ⟨k, hk, rfl, rfl⟩ := hrel
    by_cases hlt : k < s.size
    · go_wp2_with (go_at_call 72; refine (over_any _ s[k] _ H.out).mono ?_; rintro e w' ⟨rfl, rfl⟩)
      go_round
      case rel => exact ⟨k + 1, by omega, by go_num, by rw [over_take c1 s k hlt]⟩
      case measure => simp [intOf]; omega
    · have e2 := not_uv (overL c1 (s.data.toList.take k))
      go_wp2
      go_ret
      exact ⟨ret_u32 (by rw [take_all s k hlt]), rfl⟩

theorem go_zero (s : ByteArray) (w : World) (hs : s.size ≤ maxLen) (hT : Tab w) :
    Calls Tryd.prog 50 #[.int .u32 0, .string s] w fun r w' => r = .returned (.int .u32 (uv (goL 0#32 s.data.toList))) ∧ w = w' := go_any 0#32 s w hs hT

theorem sum_any (s : ByteArray) (w : World) (hs : s.size ≤ maxLen) (hT : Tab w) :
    Calls Tryd.prog 35 #[.string s] w fun r w' => r = .returned (.int .u32 (uv (goL 0#32 s.data.toList))) ∧ w = w' := by
  have H := Lib.hid hT
  clear hT
  go_enter Tryd.func35, Tryd.ntmps35
  go_wp2_with (go_at_call 50; refine (go_zero _ _ hs H.out).mono ?_; rintro e w' ⟨rfl, rfl⟩)
  go_ret
  exact ⟨rfl, rfl⟩

theorem over_zero (c : BitVec 32) (w : World) (hT : Tab w) :
    Calls Tryd.prog 72 #[.int .u32 (uv c), .int .u8 0] w fun r w' => r = .returned (.int .u32 (uv (steps 8 c))) ∧ w = w' := by
  rw [← steps_byte]; exact over_any c 0 w hT

theorem steps_more (k : Nat) (c : BitVec 32) : steps 8 (steps (8 * k) c) = steps (8 * (k + 1)) c := by
  rw [← steps_add, show 8 * k + 8 = 8 * (k + 1) by omega]

/-- How many bytes 0 Join counts. -/
def held (n : Int) : Nat := (min (max n 0) 16000).toNat

theorem ref_step_yes {c : BitVec 32} (h : uv c % 2 = 1) : bits .xor .u32 (uv c / (2 : Int)) 3988292384 = uv (step c) := by
  have hb : c.getLsbD 0 = true := by
    rw [BitVec.getLsbD, Nat.testBit_zero]; unfold uv at h; simp; omega
  have e : uv c / (2 : Int) = uv (c >>> 1) := by unfold uv; rw [BitVec.toNat_ushiftRight, Nat.shiftRight_eq_div_pow]; omega
  rw [e, show (3988292384 : Int) = uv 3988292384#32 from rfl, xor_uv]
  unfold step
  rw [hb]; rfl

theorem ref_step_no {c : BitVec 32} (h : ¬ uv c % 2 = 1) : uv c / (2 : Int) = uv (step c) := by
  have hb : c.getLsbD 0 = false := by
    rw [BitVec.getLsbD, Nat.testBit_zero]; unfold uv at h; simp; omega
  have e : uv c / (2 : Int) = uv (c >>> 1) := by unfold uv; rw [BitVec.toNat_ushiftRight, Nat.shiftRight_eq_div_pow]; omega
  rw [e]
  unfold step
  rw [hb]
  simp

theorem div_spell (c : BitVec 32) : (uv c).tdiv 2 % 4294967296 = uv c / (2 : Int) := by
  have h := uv_nonneg c
  have h2 := uv_lt c
  rw [Int.tdiv_eq_ediv_of_nonneg h]
  omega

theorem steps_succ (k : Nat) (c : BitVec 32) : step (steps k c) = steps (k + 1) c := by rw [steps_add]; rfl

set_option maxHeartbeats 400000 in
theorem steps_any (c : BitVec 32) (w : World) :
    Calls Tryd.prog 65 #[.int .u32 (uv c)] w fun r w' => r = .returned (.int .u32 (uv (steps 8 c))) ∧ w = w' := by
  go_enter Tryd.func65, Tryd.ntmps65
  go_wp2
  go_loop [0, 3] (fun n i => ∃ k : Nat, k ≤ 8 ∧ i = .int .i64 k ∧ n = .int .u32 (uv (steps k c))) (fun _ i => 8 - (intOf i).toNat)
  case atStart => exact ⟨0, Nat.zero_le _, rfl, rfl⟩
  case round =>
    obtain ⟨k, hk, rfl, rfl⟩ := hrel
    by_cases hlt : k < 8
    · have h0 := uv_nonneg (steps k c)
      have hn := steps_succ k c
      by_cases hm : uv (steps k c) % 2 = 1
      · have e := ref_step_yes hm
        rw [hn] at e
        have E := Lib.hid e
        clear hn e
        go_wp2
        go_round
        case rel => exact ⟨k + 1, by omega, by go_num, by rw [div_spell, E.out]⟩
        case measure => simp [intOf]; omega
      · have e := ref_step_no hm
        rw [hn] at e
        have hm' : (uv (steps k c) % 2 == 1) = false := by simpa using hm
        have E := Lib.hid e
        clear hn e
        go_wp2
        go_round
        case rel => exact ⟨k + 1, by omega, by go_num, by rw [div_spell, E.out]⟩
        case measure => simp [intOf]; omega
    · obtain rfl : k = 8 := by omega
      go_wp2
      go_ret
      exact ⟨rfl, rfl⟩

/- The document's answer. -/

set_option maxHeartbeats 400000 in
theorem ref_over (c : BitVec 32) (s : ByteArray) (w : World) (hs : s.size ≤ maxLen) :
    Calls Tryd.prog 44 #[.int .u32 (uv c), .string s] w fun r w' => r = .returned (.int .u32 (uv (overL c s.data.toList))) ∧ w = w' := by
  unfold maxLen at hs
  go_enter Tryd.func44, Tryd.ntmps44
  go_wp2
  go_loop [0, 5] (fun n i => ∃ k : Nat, k ≤ s.size ∧ i = .int .i64 k ∧ n = .int .u32 (uv (overL c (s.data.toList.take k)))) (fun _ i => s.size - (intOf i).toNat)
  case atStart => exact ⟨0, Nat.zero_le _, rfl, rfl⟩
  case round =>
    obtain ⟨k, hk, rfl, rfl⟩ := hrel
    by_cases hlt : k < s.size
    · have e := xor_byte (overL c (s.data.toList.take k)) s[k]
      have hb := s[k].toNat_lt
      have hn : steps 8 (overL c (s.data.toList.take k) ^^^ wide s[k]) = overL c (s.data.toList.take (k + 1)) := over_take c s k hlt
      have HN := Lib.hid hn
      clear hn
      go_wp2_with (go_at_call 65; refine (steps_any _ _).mono ?_; rintro e w' ⟨rfl, rfl⟩)
      go_round
      case rel => exact ⟨k + 1, by omega, by go_num, by rw [HN.out]⟩
      case measure => simp [intOf]; omega
    · go_wp2
      go_ret
      exact ⟨ret_u32 (by rw [take_all s k hlt]), rfl⟩

/-- All bits 1. -/
def ones : BitVec 32 := 4294967295#32
theorem goL_ones (l : List UInt8) : ~~~ overL ones l = goL 0#32 l := rfl
theorem ref_over_ones (s : ByteArray) (w : World) (hs : s.size ≤ maxLen) :
    Calls Tryd.prog 44 #[.int .u32 4294967295, .string s] w fun r w' => r = .returned (.int .u32 (uv (overL ones s.data.toList))) ∧ w = w' := ref_over ones s w hs

theorem ref_sum (s : ByteArray) (w : World) (hs : s.size ≤ maxLen) :
    Calls Tryd.prog 31 #[.string s] w fun r w' => r = .returned (.int .u32 (uv (goL 0#32 s.data.toList))) ∧ w = w' := by
  rw [← goL_ones]
  have e := not_uv (overL ones s.data.toList)
  generalize ~~~ overL ones s.data.toList = z at *
  go_enter Tryd.func31, Tryd.ntmps31
  go_wp2_with (go_at_call 44; refine (ref_over_ones _ _ hs).mono ?_; rintro e w' ⟨rfl, rfl⟩)
  go_ret
  exact ⟨rfl, rfl⟩

end Go.Proofs.YtcloakaenkhgpaaDoor.Crc
