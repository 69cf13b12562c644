/- The walk of awake. -/
import Derived.Test.YtmbbjpfhdijmbaaDoorSpnOff
import Derived.Test.YtmbbjpfhdijmbaaDoorSpnBackP
namespace Go.Proofs.YtmbbjpfhdijmbaaDoor.Spn
open Go.RowKit

theorem d15 : dec 15 = [49, 53] := by rw [dec_step (by decide), show (15 : Int) / 10 = 1 by decide, dec_one (by decide) (by decide)]; decide
theorem d20 : dec 20 = [50, 48] := by rw [dec_step (by decide), show (20 : Int) / 10 = 2 by decide, dec_one (by decide) (by decide)]; decide
theorem d5 : dec 5 = [53] := by rw [dec_one (by decide) (by decide)]; decide
theorem d1 : dec 1 = [49] := by rw [dec_one (by decide) (by decide)]; decide
theorem lit_s : prT 1314020 = [80, 49, 53, 68, 84, 53, 72, 50, 48, 83] := by
  have e : prT 1314020 = 80 :: bdL 1314020 := rfl
  rw [e, bd_rest (by decide), show (1314020 : Int) / 86400 = 15 by decide, show (1314020 : Int) % 86400 = 18020 by decide, tm_some (by decide), show (18020 : Int) / 3600 = 5 by decide, show (18020 : Int) % 3600 / 60 = 0 by decide, show (18020 : Int) % 60 = 20 by decide, pt_some (by decide), pt_some (by decide), pt_zero, pt_some (by decide), d15, d5, d20]
  rfl
theorem lit_t : prT (-604800) = [45, 80, 49, 87] := by
  have e : prT (-604800) = 45 :: 80 :: (dec 1 ++ [87]) := rfl
  rw [e, d1]
  rfl
theorem lit_a : paE [80, 49, 53, 68, 84, 53, 72, 48, 77, 50, 48, 83] = 0 ∧ paV [80, 49, 53, 68, 84, 53, 72, 48, 77, 50, 48, 83] = 1314020 := by decide +kernel
theorem lit_b : paE [45, 80, 49, 87] = 0 ∧ paV [45, 80, 49, 87] = -604800 := by decide +kernel
theorem lit_k : paE [80, 49, 68, 84] = 4 := by decide +kernel
theorem lit_d : ofE [45, 48, 53, 51, 48] = 0 ∧ ofV [45, 48, 53, 51, 48] = -19800 := by decide +kernel
theorem lit_m : ofE [45, 48, 48, 48, 48] = 8 := by decide +kernel
theorem lit_u : poT (-19800) = [45, 48, 53, 51, 48] := by decide +kernel

theorem aw_a (w : World) : Calls Tryd.prog 8 #[.string ⟨#[80, 49, 53, 68, 84, 53, 72, 48, 77, 50, 48, 83]⟩] w fun r w' => r = .returned (.tuple #[.int .i64 1314020, .int .i64 0]) ∧ Below w.heap.size w w' := by
  have h := parse_l [80, 49, 53, 68, 84, 53, 72, 48, 77, 50, 48, 83] (by decide) w
  rwa [lit_a.1, lit_a.2] at h
theorem aw_b (w : World) : Calls Tryd.prog 8 #[.string ⟨#[45, 80, 49, 87]⟩] w fun r w' => r = .returned (.tuple #[.int .i64 (-604800), .int .i64 0]) ∧ Below w.heap.size w w' := by
  have h := parse_l [45, 80, 49, 87] (by decide) w
  rwa [lit_b.1, lit_b.2] at h
theorem aw_k (w : World) : Calls Tryd.prog 8 #[.string ⟨#[80, 49, 68, 84]⟩] w fun r w' => r = .returned (.tuple #[.int .i64 0, .int .i64 4]) ∧ Below w.heap.size w w' := by
  have h := parse_l [80, 49, 68, 84] (by decide) w
  rwa [paV_not (by rw [lit_k]; decide), lit_k] at h
theorem aw_d (w : World) : Calls Tryd.prog 10 #[.string ⟨#[45, 48, 53, 51, 48]⟩] w fun r w' => r = .returned (.tuple #[.int .i64 (-19800), .int .i64 0]) ∧ Below w.heap.size w w' := by
  have h := poffset_l [45, 48, 53, 51, 48] (by decide) w
  rwa [lit_d.1, lit_d.2] at h
theorem aw_m (w : World) : Calls Tryd.prog 10 #[.string ⟨#[45, 48, 48, 48, 48]⟩] w fun r w' => r = .returned (.tuple #[.int .i64 0, .int .i64 8]) ∧ Below w.heap.size w w' := by
  have h := poffset_l [45, 48, 48, 48, 48] (by decide) w
  rwa [ofV_not (by rw [lit_m]; decide), lit_m] at h
theorem aw_s (w : World) (hT : PTab w) : Calls Tryd.prog 12 #[.int .i64 1314020] w fun r w' => r = .returned (.tuple #[.string ⟨#[80, 49, 53, 68, 84, 53, 72, 50, 48, 83]⟩, .int .i64 0]) ∧ Below w.heap.size w w' := by
  have h := print_any 1314020 w hT
  obtain ⟨e1, e2⟩ := pr_ok (n := 1314020) (by decide) (by decide)
  rwa [e1, e2, lit_s] at h
theorem aw_t (w : World) (hT : PTab w) : Calls Tryd.prog 12 #[.int .i64 (-604800)] w fun r w' => r = .returned (.tuple #[.string ⟨#[45, 80, 49, 87]⟩, .int .i64 0]) ∧ Below w.heap.size w w' := by
  have h := print_any (-604800) w hT
  obtain ⟨e1, e2⟩ := pr_ok (n := -604800) (by decide) (by decide)
  rwa [e1, e2, lit_t] at h
theorem aw_u (w : World) : Calls Tryd.prog 16 #[.int .i64 (-19800)] w fun r w' => r = .returned (.tuple #[.string ⟨#[45, 48, 53, 51, 48]⟩, .int .i64 0]) ∧ w = w' := by
  have h := poff_any (-19800) w
  obtain ⟨e1, e2⟩ := po_ok (n := -19800) (by decide) (by decide)
  rwa [e1, e2, lit_u] at h
theorem aw_c (w : World) : Calls Tryd.prog 14 #[.int .i64 86400, .int .i64 (-86400)] w fun r w' => r = .returned (.tuple #[.int .i64 0, .int .i64 0]) ∧ w = w' := add_any 86400 (-86400) w
theorem aw_i (w : World) : Calls Tryd.prog 14 #[.int .i64 5, .int .i64 (-604800)] w fun r w' => r = .returned (.tuple #[.int .i64 0, .int .i64 8]) ∧ w = w' := add_any 5 (-604800) w

set_option maxRecDepth 20000 in
theorem awake_any (w : World) (hT : PTab w) : Calls Tryd.prog 7 #[] w fun r w' => r = .returned (.bool true) ∧ Below w.heap.size w w' := by
  have HT := Lib.hid hT
  clear hT
  have H1 := Lib.hid (fun W => aw_a W)
  have H2 := Lib.hid (fun W hW => aw_s W hW)
  have H3 := Lib.hid (fun W => aw_b W)
  have H4 := Lib.hid (fun W hW => aw_t W hW)
  have H5 := Lib.hid (fun W => aw_c W)
  have H6 := Lib.hid (fun W => aw_i W)
  have H7 := Lib.hid (fun W => aw_d W)
  have H8 := Lib.hid (fun W => aw_u W)
  have H9 := Lib.hid (fun W => aw_k W)
  have H10 := Lib.hid (fun W => aw_m W)
  go_enter Tryd.func7, Tryd.ntmps7
  go_wp2_with (first
    | (go_at_call 8; with_reducible refine (H1.out _).mono ?_; rintro e w1 ⟨rfl, hb⟩; have B1 := Lib.hid ((Bl.refl w).call hb); clear hb)
    | (go_at_call 12; with_reducible refine (H2.out _ (B1.out.tab HT.out)).mono ?_; rintro e w2 ⟨rfl, hb⟩; have B2 := Lib.hid (B1.out.call hb); clear hb)
    | (go_at_call 8; with_reducible refine (H3.out _).mono ?_; rintro e w3 ⟨rfl, hb⟩; have B3 := Lib.hid (B2.out.call hb); clear hb)
    | (go_at_call 12; with_reducible refine (H4.out _ (B3.out.tab HT.out)).mono ?_; rintro e w4 ⟨rfl, hb⟩; have B4 := Lib.hid (B3.out.call hb); clear hb)
    | (go_at_call 14; with_reducible refine (H5.out _).mono ?_; rintro e w0 ⟨rfl, rfl⟩)
    | (go_at_call 14; with_reducible refine (H6.out _).mono ?_; rintro e w0 ⟨rfl, rfl⟩)
    | (go_at_call 10; with_reducible refine (H7.out _).mono ?_; rintro e w5 ⟨rfl, hb⟩; have B5 := Lib.hid (B4.out.call hb); clear hb)
    | (go_at_call 16; with_reducible refine (H8.out _).mono ?_; rintro e w0 ⟨rfl, rfl⟩)
    | (go_at_call 8; with_reducible refine (H9.out _).mono ?_; rintro e w6 ⟨rfl, hb⟩; have B6 := Lib.hid (B5.out.call hb); clear hb)
    | (go_at_call 10; with_reducible refine (H10.out _).mono ?_; rintro e w7 ⟨rfl, hb⟩; have B7 := Lib.hid (B6.out.call hb); clear hb))
  go_ret
  exact ⟨rfl, B7.out.below⟩
end Go.Proofs.YtmbbjpfhdijmbaaDoor.Spn
