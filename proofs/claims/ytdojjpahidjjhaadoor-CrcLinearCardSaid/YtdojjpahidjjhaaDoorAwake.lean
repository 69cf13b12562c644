/- awake, which every statement of the layer ends with, returns true, and leaves the world alone. -/
import Derived.Test.YtdojjpahidjjhaaDoorSums
namespace Go.Proofs.YtdojjpahidjjhaaDoor
open Go.RowKit

def x4 : BitVec 32 := goL 0#32 [49, 50, 51, 52]
def x5 : BitVec 32 := goL 0#32 [53, 54, 55, 56, 57]

theorem ret_int {a b : Int} {P : Prop} (h : a = b) : ∀ (r : Ending) (_ : World), (r = .returned (.int .u32 a) ∧ P) → (r = .returned (.int .u32 b) ∧ P) := by
  intro r _ h2
  rw [← h]
  exact h2

theorem s9 (w : World) (hT : Tab w) : Calls Tryd.prog 9 #[.string ⟨#[49, 50, 51, 52, 53, 54, 55, 56, 57]⟩] w fun r w' => r = .returned (.int .u32 3421780262) ∧ w = w' :=
  (sum_any ⟨#[49, 50, 51, 52, 53, 54, 55, 56, 57]⟩ w (by decide) hT).mono fun r w' h => ret_int (by decide +kernel) r w' h
theorem s4 (w : World) (hT : Tab w) : Calls Tryd.prog 9 #[.string ⟨#[49, 50, 51, 52]⟩] w fun r w' => r = .returned (.int .u32 (uv x4)) ∧ w = w' :=
  sum_any ⟨#[49, 50, 51, 52]⟩ w (by decide) hT
theorem s5 (w : World) (hT : Tab w) : Calls Tryd.prog 9 #[.string ⟨#[53, 54, 55, 56, 57]⟩] w fun r w' => r = .returned (.int .u32 (uv x5)) ∧ w = w' :=
  sum_any ⟨#[53, 54, 55, 56, 57]⟩ w (by decide) hT
theorem s0 (w : World) (hT : Tab w) : Calls Tryd.prog 9 #[.string ⟨#[]⟩] w fun r w' => r = .returned (.int .u32 0) ∧ w = w' :=
  (sum_any ⟨#[]⟩ w (by decide) hT).mono fun r w' h => ret_int (by decide +kernel) r w' h
theorem g5 (w : World) (hT : Tab w) : Calls Tryd.prog 11 #[.int .u32 (uv x4), .string ⟨#[53, 54, 55, 56, 57]⟩] w fun r w' => r = .returned (.int .u32 3421780262) ∧ w = w' :=
  (go_any x4 ⟨#[53, 54, 55, 56, 57]⟩ w (by decide) hT).mono fun r w' h => ret_int (by decide +kernel) r w' h
theorem j5 (w : World) (hT : Tab w) : Calls Tryd.prog 13 #[.int .u32 (uv x4), .int .u32 (uv x5), .int .i64 5] w fun r w' => r = .returned (.int .u32 3421780262) ∧ w = w' :=
  (join_in x4 x5 5 w (by decide) hT).mono fun r w' h => ret_int (by decide +kernel) r w' h

set_option maxHeartbeats 400000 in
theorem awake_any (w : World) (hT : Tab w) : Calls Tryd.prog 8 #[] w fun r w' => r = .returned (.bool true) ∧ w = w' := by
  have H := Lib.hid hT
  clear hT
  go_enter Tryd.func8, Tryd.ntmps8
  go_wp2_with (first
    | (go_at_call 9; (with_reducible refine (s9 _ H.out).mono ?_); rintro e w' ⟨rfl, rfl⟩)
    | (go_at_call 9; (with_reducible refine (s4 _ H.out).mono ?_); rintro e w' ⟨rfl, rfl⟩)
    | (go_at_call 9; (with_reducible refine (s5 _ H.out).mono ?_); rintro e w' ⟨rfl, rfl⟩)
    | (go_at_call 9; (with_reducible refine (s0 _ H.out).mono ?_); rintro e w' ⟨rfl, rfl⟩)
    | (go_at_call 11; (with_reducible refine (g5 _ H.out).mono ?_); rintro e w' ⟨rfl, rfl⟩)
    | (go_at_call 13; (with_reducible refine (j5 _ H.out).mono ?_); rintro e w' ⟨rfl, rfl⟩))
  go_ret
  exact ⟨rfl, rfl⟩

end Go.Proofs.YtdojjpahidjjhaaDoor
