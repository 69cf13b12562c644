/- The walk of awake. -/
import Derived.Test.YtihhdognjcmbkaaDoorFltRef
namespace Go.Proofs.YtihhdognjcmbkaaDoor.Flt
open Go.RowKit

theorem aw_new (w : World) : Calls Tryd.prog 23 #[.int .i64 4, .int .i64 3] w fun r w' => ∃ b, r = .returned (FV b) ∧ Ch w' 4 (FV b) [3] ∧ Below w.heap.size w w' := by
  refine (new_some 4 3 (by decide) w).mono ?_
  rintro r w' ⟨rfl, rfl⟩
  exact ⟨_, rfl, (Ch.num (w := w) (e := 4)).more 3 (Nat.zero_le _), new1 _ _⟩
theorem aw_in (b : Nat) (w : World) (h : Ch w 4 (FV b) [3]) : Calls Tryd.prog 22 #[FV b, .int .i64 10] w fun r w' => ∃ c, r = .returned (FV c) ∧ Ch w' 4 (FV c) [10, 3] ∧ Below w.heap.size w w' := by
  refine (in_some b 10 w).mono ?_
  rintro r w' ⟨rfl, rfl⟩
  exact ⟨_, rfl, h.more 10 h.rank, new1 _ _⟩
theorem aw_code (b : Nat) (w : World) (hE : ETab w) (h : Ch w 4 (FV b) [10, 3]) : Calls Tryd.prog 10 #[FV b] w fun r w' => r = .returned (.int .i64 4) ∧ Below w.heap.size w w' := code_any 4 (FV b) [10, 3] w hE (.some b _ h)
theorem sm3 : Sm [10, 3] := ⟨by decide, by decide⟩
theorem aw_place (b : Nat) (w : World) (hE : ETab w) (h : Ch w 4 (FV b) [10, 3]) : Calls Tryd.prog 12 #[FV b] w fun r w' => r = .returned (.int .i64 13) ∧ Below w.heap.size w w' := place_any 4 (FV b) [10, 3] w hE (.some b _ h) sm3
theorem aw_depth (b : Nat) (w : World) (hE : ETab w) (h : Ch w 4 (FV b) [10, 3]) : Calls Tryd.prog 14 #[FV b] w fun r w' => r = .returned (.int .i64 2) ∧ Below w.heap.size w w' := depth_any 4 (FV b) [10, 3] w hE (.some b _ h) sm3
theorem aw_is (b : Nat) (w : World) (h : Ch w 4 (FV b) [10, 3]) : Calls Tryd.prog 16 #[FV b, .int .i64 4] w fun r w' => r = .returned (.bool true) ∧ w = w' := is_any 4 4 (FV b) [10, 3] w (.some b _ h)
theorem aw_isnt (b : Nat) (w : World) (h : Ch w 4 (FV b) [10, 3]) : Calls Tryd.prog 16 #[FV b, .int .i64 3] w fun r w' => r = .returned (.bool false) ∧ w = w' := is_any 4 3 (FV b) [10, 3] w (.some b _ h)
theorem aw_nil (w : World) : Calls Tryd.prog 16 #[.nilIface, .int .i64 0] w fun r w' => r = .returned (.bool true) ∧ w = w' := is_any 0 0 .nilIface [] w .none

set_option maxHeartbeats 1000000 in
theorem awake_any (w : World) (hT : ETab w) : Calls Tryd.prog 7 #[] w fun r w' => r = .returned (.bool true) ∧ Below w.heap.size w w' := by
  have HT := Lib.hid hT
  clear hT
  have H1 := Lib.hid (fun W => aw_new W)
  have H2 := Lib.hid (fun b W h => aw_in b W h)
  have H3 := Lib.hid (fun b W hE h => aw_code b W hE h)
  have H4 := Lib.hid (fun b W hE h => aw_place b W hE h)
  have H5 := Lib.hid (fun b W hE h => aw_depth b W hE h)
  have H6 := Lib.hid (fun b W h => aw_is b W h)
  have H7 := Lib.hid (fun b W h => aw_isnt b W h)
  have H8 := Lib.hid (fun W => aw_nil W)
  have H9 := Lib.hid (fun W => in_nil 4 W)
  have H10 := Lib.hid (fun W => new_nil 4 W)
  unfold FV at H1 H2 H3 H4 H5 H6 H7
  go_enter Tryd.func7, Tryd.ntmps7
  go_wp2_with (first
    | (go_at_call 23; with_reducible refine (H1.out _).mono ?_; rintro e w1 ⟨b1, rfl, hc, hb⟩; have C1 := Lib.hid hc; have B1 := Lib.hid ((Bl.refl w).call hb); clear hb hc)
    | (go_at_call 22; with_reducible refine (H2.out _ _ C1.out).mono ?_; rintro e w2 ⟨b2, rfl, hc, hb⟩; have C2 := Lib.hid hc; have B2 := Lib.hid (B1.out.call hb); clear hb hc)
    | (go_at_call 10; with_reducible refine (H3.out _ _ (B2.out.tab HT.out) C2.out).mono ?_; rintro e w3 ⟨rfl, hb⟩; have C3 := Lib.hid (C2.out.call hb); have B3 := Lib.hid (B2.out.call hb); clear hb)
    | (go_at_call 12; with_reducible refine (H4.out _ _ (B3.out.tab HT.out) C3.out).mono ?_; rintro e w4 ⟨rfl, hb⟩; have C4 := Lib.hid (C3.out.call hb); have B4 := Lib.hid (B3.out.call hb); clear hb)
    | (go_at_call 14; with_reducible refine (H5.out _ _ (B4.out.tab HT.out) C4.out).mono ?_; rintro e w5 ⟨rfl, hb⟩; have C5 := Lib.hid (C4.out.call hb); have B5 := Lib.hid (B4.out.call hb); clear hb)
    | (go_at_call 16; with_reducible refine (H6.out _ _ C5.out).mono ?_; rintro e w6 ⟨rfl, rfl⟩)
    | (go_at_call 16; with_reducible refine (H7.out _ _ C5.out).mono ?_; rintro e w6 ⟨rfl, rfl⟩)
    | (go_at_call 16; with_reducible refine (H8.out _).mono ?_; rintro e w6 ⟨rfl, rfl⟩)
    | (go_at_call 22; with_reducible refine (H9.out _).mono ?_; rintro e w6 ⟨rfl, rfl⟩)
    | (go_at_call 23; with_reducible refine (H10.out _).mono ?_; rintro e w6 ⟨rfl, rfl⟩))
  go_ret
  exact ⟨rfl, B5.out.below⟩
end Go.Proofs.YtihhdognjcmbkaaDoor.Flt
