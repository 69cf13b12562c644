/- The walks of FaultIs and FaultWraps. -/
import Derived.Test.YtihhdognjcmbkaaDoorFltAw
namespace Go.Proofs.YtihhdognjcmbkaaDoor.Flt
open Go.RowKit

theorem R32.sm {w : World} {a : Option Addr} {n : Nat} {zs : List Int} (h : R32 w a n zs) (hn : n ≤ 40) : Sm zs := ⟨by have := h.len; omega, h.small⟩
theorem same_df (e : Int) (e0 : -32768 ≤ e) (e1 : e ≤ 32767) (a : Option Addr) (n c : Nat) (zs : List Int) (w : World) (hz : R32 w a n zs) (hn : n ≤ 40) :
    Calls Tryd.prog 9 #[.int .i16 e, .slice a n c] w fun r w' => ∃ a' c', r = .returned (.agg #[.int .i64 e, .slice a' n c']) ∧ DF w' a' n zs ∧ Below w.heap.size w w' := by
  refine (same_any e e0 e1 a n c zs w hz hn).mono ?_
  rintro r w' ⟨a', c', rfl, hr, hb⟩
  exact ⟨a', c', rfl, ⟨hr, hz.len, hz.sm hn⟩, hb⟩
theorem is_r (e k : Int) (v : Value) (zs : List Int) (w : World) (h : Er w e v (pl e zs)) : Calls Tryd.prog 16 #[v, .int .i64 k] w fun r w' => r = .returned (.bool (rcode e zs == k)) ∧ w = w' := by
  have := is_any e k v (pl e zs) w h
  rwa [rcode_pl] at this

set_option maxHeartbeats 1000000 in
theorem walk_is (e k : Int) (e0 : -32768 ≤ e) (e1 : e ≤ 32767) (k0 : -32768 ≤ k) (k1 : k ≤ 32767) (a : Option Addr) (n c : Nat) (zs : List Int) (w : World) (hT : ETab w) (hz : R32 w a n zs) :
    Calls Tryd.prog 4 #[.int .i16 e, .int .i16 k, .slice a n c] w fun r w' => r = .returned (.bool true) ∧ Below w.heap.size w w' := by
  have HT := Lib.hid hT
  have HZ := Lib.hid hz
  have HA := Lib.hid (fun W hW => awake_any W hW)
  by_cases hn : (40 : Int) < n
  · clear hT hz
    go_enter Tryd.func4, Tryd.ntmps4
    go_wp2_with (go_at_call 7; with_reducible refine (HA.out _ HT.out).mono ?_; rintro r w1 ⟨rfl, hb⟩; have B1 := Lib.hid hb; clear hb)
    go_ret
    exact ⟨rfl, B1.out⟩
  · have hn4 : n ≤ 40 := by omega
    have HM := Lib.hid (fun W hW => made_any e e0 e1 a n c zs W hW hn4)
    have HS := Lib.hid (fun W hW => same_df e e0 e1 a n c zs W hW hn4)
    have HI := Lib.hid (fun v W hW => is_r e k v zs W hW)
    have HJ := Lib.hid (fun v W hW => is_r e e v zs W hW)
    have HR := Lib.hid (fun a' c' W hW => ris_any e a' n c' k zs W hW)
    have hl := hz.len
    have i0 : IntKind.i64.wrap e = e := IntWalk.i64_in _ (by omega)
    have i1 : IntKind.i64.wrap k = k := IntWalk.i64_in _ (by omega)
    have hq : (rcode e zs == e) = ((e == 0) || decide (0 < n)) := by
      unfold rcode
      rw [hl]
      by_cases h0 : n = 0
      · subst h0
        rw [if_pos rfl, BEq.comm]
        simp
      · rw [if_neg h0]
        simp
        omega
    rw [hq] at HJ
    clear hT hz hl hq hn4
    generalize (rcode e zs == k) = x at *
    have tx : (x == x) = true := by simp
    rcases h0 : (e == 0) with _ | _ <;> by_cases hp : 0 < n
    all_goals
      first
        | (have hp' : (0 : Int) < n := by omega
           rw [h0, decide_eq_true hp] at HJ)
        | (have hp' : (n : Int) = 0 := by omega
           rw [h0, decide_eq_false hp] at HJ)
      go_enter Tryd.func4, Tryd.ntmps4
      go_wp2_with (first
        | (go_at_call 8; with_reducible refine (HM.out _ HZ.out).mono ?_; rintro r w1 ⟨v1, rfl, hE, hb⟩; have E1 := Lib.hid hE; have B1 := Lib.hid ((Bl.refl w).call hb); clear hE hb)
        | (go_at_call 16; with_reducible refine (HI.out _ _ E1.out).mono ?_; rintro r w2 ⟨rfl, rfl⟩)
        | (go_at_call 9; with_reducible refine (HS.out _ (HZ.out.call B1.out.below)).mono ?_; rintro r w2 ⟨a', c', rfl, hD, hb⟩; have D2 := Lib.hid hD; have B2 := Lib.hid (B1.out.call hb); clear hD hb)
        | (go_at_call 17; with_reducible refine (HR.out _ _ _ D2.out).mono ?_; rintro r w3 ⟨rfl, hb⟩; have B3 := Lib.hid (B2.out.call hb); clear hb)
        | (go_at_call 8; with_reducible refine (HM.out _ (HZ.out.call B3.out.below)).mono ?_; rintro r w4 ⟨v4, rfl, hE, hb⟩; have E4 := Lib.hid hE; have B4 := Lib.hid (B3.out.call hb); clear hE hb)
        | (go_at_call 16; with_reducible refine (HJ.out _ _ E4.out).mono ?_; rintro r w5 ⟨rfl, rfl⟩)
        | (go_at_call 7; with_reducible refine (HA.out _ (B4.out.tab HT.out)).mono ?_; rintro r w6 ⟨rfl, hb⟩; have B6 := Lib.hid (B4.out.call hb); clear hb))
      go_ret
      exact ⟨rfl, B6.out.below⟩

theorem Er.ch {w : World} {e : Int} {v : Value} {l : List Int} (h : Er w e v l) (hl : l ≠ []) : Ch w e v l := by
  cases h with
  | none => exact absurd rfl hl
  | some b l h => exact h
theorem pl_ne (e : Int) (zs : List Int) (he : (e == 0) = false) (hl : 0 < zs.length) : pl e zs ≠ [] := by
  unfold pl
  rw [if_neg (by simp [he])]
  intro h
  have := congrArg List.length h
  rw [List.length_reverse, List.length_nil] at this
  omega
/-- The law's fault, where there is one. -/
theorem made_ch (e : Int) (e0 : -32768 ≤ e) (e1 : e ≤ 32767) (he : (e == 0) = false) (a : Option Addr) (n c : Nat) (zs : List Int) (w : World) (hz : R32 w a n zs) (hn : n ≤ 40) (hp : 0 < n) :
    Calls Tryd.prog 8 #[.int .i16 e, .slice a n c] w fun r w' => ∃ b, r = .returned (FV b) ∧ Ch w' e (FV b) zs.reverse ∧ Below w.heap.size w w' := by
  refine (made_any e e0 e1 a n c zs w hz hn).mono ?_
  rintro r w' ⟨v, rfl, hE, hb⟩
  have hp : pl e zs = zs.reverse := by unfold pl; rw [if_neg (by simp [he])]
  have hl := hz.len
  rw [hp] at hE
  generalize zs.reverse = l at *
  cases hE with
  | none =>
    exfalso
    have := congrArg List.length hp
    unfold pl at this
    rw [if_neg (by simp [he]), List.length_reverse, List.length_nil] at this
    omega
  | some b l h => exact ⟨b, rfl, h, hb⟩
theorem eis_w (k e : Int) (b : Nat) (l : List Int) (w : World) (h : Ch w e (FV b) l) : Calls Tryd.prog 18 #[FV b, NV k] w fun r w' => r = .returned (.bool (e == k)) ∧ w = w' := eIs_any k e (FV b) l w h

set_option maxHeartbeats 1000000 in
theorem walk_wraps (e k : Int) (e0 : -32768 ≤ e) (e1 : e ≤ 32767) (k0 : -32768 ≤ k) (k1 : k ≤ 32767) (a : Option Addr) (n c : Nat) (zs : List Int) (w : World) (hT : ETab w) (hz : R32 w a n zs) :
    Calls Tryd.prog 5 #[.int .i16 e, .int .i16 k, .slice a n c] w fun r w' => r = .returned (.bool true) ∧ Below w.heap.size w w' := by
  have HT := Lib.hid hT
  have HZ := Lib.hid hz
  have HA := Lib.hid (fun W hW => awake_any W hW)
  clear hT hz
  by_cases hn : (40 : Int) < n
  · go_enter Tryd.func5, Tryd.ntmps5
    go_wp2_with (go_at_call 7; with_reducible refine (HA.out _ HT.out).mono ?_; rintro r w1 ⟨rfl, hb⟩; have B1 := Lib.hid hb; clear hb)
    go_ret
    exact ⟨rfl, B1.out⟩
  by_cases hp : (n : Int) = 0
  · go_enter Tryd.func5, Tryd.ntmps5
    go_wp2_with (go_at_call 7; with_reducible refine (HA.out _ HT.out).mono ?_; rintro r w1 ⟨rfl, hb⟩; have B1 := Lib.hid hb; clear hb)
    go_ret
    exact ⟨rfl, B1.out⟩
  have t0 : ((n : Int) == 0) = false := by rw [beq_eq_false_iff_ne]; exact hp
  rcases he : (e == 0) with _ | _
  · rcases hk : (k == 0) with _ | _
    · have hn4 : n ≤ 40 := by omega
      have HM := Lib.hid (fun W hW => made_ch e e0 e1 he a n c zs W hW hn4 (by omega))
      have HI := Lib.hid (fun b l W h => eis_w k e b l W h)
      have i1 : IntKind.i64.wrap k = k := IntWalk.i64_in _ (by omega)
      generalize hx : (e == k) = x at *
      have tx : (x == x) = true := by simp
      unfold FV at HM
      unfold FV NV at HI
      go_enter Tryd.func5, Tryd.ntmps5
      go_wp2_with (first
        | (go_at_call 8; with_reducible refine (HM.out _ HZ.out).mono ?_; rintro r w1 ⟨b1, rfl, hC, hb⟩; have C1 := Lib.hid hC; have B1 := Lib.hid ((Bl.refl w).call hb); clear hC hb)
        | (go_at_call 18; with_reducible refine (HI.out _ _ _ C1.out).mono ?_; rintro r w2 ⟨rfl, rfl⟩)
        | (go_at_call 7; with_reducible refine (HA.out _ (B1.out.tab HT.out)).mono ?_; rintro r w6 ⟨rfl, hb⟩; have B6 := Lib.hid (B1.out.call hb); clear hb))
      go_ret
      exact ⟨rfl, B6.out.below⟩
    · go_enter Tryd.func5, Tryd.ntmps5
      go_wp2_with (go_at_call 7; with_reducible refine (HA.out _ HT.out).mono ?_; rintro r w1 ⟨rfl, hb⟩; have B1 := Lib.hid hb; clear hb)
      go_ret
      exact ⟨rfl, B1.out⟩
  · go_enter Tryd.func5, Tryd.ntmps5
    go_wp2_with (go_at_call 7; with_reducible refine (HA.out _ HT.out).mono ?_; rintro r w1 ⟨rfl, hb⟩; have B1 := Lib.hid hb; clear hb)
    go_ret
    exact ⟨rfl, B1.out⟩
end Go.Proofs.YtihhdognjcmbkaaDoor.Flt
