/- The walk of awake. -/
import Derived.Test.YtiimkkhjejcmfaaDoorMomPri
import Derived.Test.YtiimkkhjejcmfaaDoorMomBackP
namespace Go.Proofs.YtiimkkhjejcmfaaDoor.Mom
open Go.RowKit Civ

/-- A block that holds a value. -/
structure Cel (w : World) (g : Nat) (k s : Int) : Prop where
  c0 : w.cell? ⟨g, 0, none⟩ = some (.int .u8 k)
  c1 : w.cell? ⟨g, 1, none⟩ = some (.int .i64 s)
  lt : g < w.heap.size
theorem Cel.call {w w1 : World} {g : Nat} {k s : Int} (h : Cel w g k s) (hb : Below w.heap.size w w1) : Cel w1 g k s :=
  ⟨by rw [hb.cell (p := ⟨g, 0, none⟩) h.lt]; exact h.c0, by rw [hb.cell (p := ⟨g, 1, none⟩) h.lt]; exact h.c1, by have := hb.size; have := h.lt; omega⟩
theorem Cel.alloc {w : World} {g : Nat} {k s : Int} (h : Cel w g k s) (o : Obj) : Cel (w.alloc o) g k s := h.call (new1 w o)
theorem Cel.new (w : World) (k s : Int) (t : TypeId) : Cel (w.alloc (.cells #[.int .u8 k, .int .i64 s] t)) w.heap.size k s := by
  obtain ⟨a, b, c, d⟩ := Bx.new w k s t
  exact ⟨a, b, d⟩
/-- What a call may have made. -/
structure Bl (w w1 : World) : Prop where
  below : Below w.heap.size w w1
  le : w.heap.size ≤ w1.heap.size
theorem Bl.refl (w : World) : Bl w w := ⟨Below.refl _ _, Nat.le_refl _⟩
theorem Bl.call {w w1 w2 : World} (h : Bl w w1) (hb : Below w1.heap.size w1 w2) : Bl w w2 := ⟨h.below.trans (hb.mono h.le), by have := hb.size; have := h.le; omega⟩
theorem Bl.alloc {w w1 : World} (h : Bl w w1) (o : Obj) : Bl w (w1.alloc o) := h.call (new1 w1 o)
theorem Bl.tab {w w1 : World} (h : Bl w w1) (hT : CTab w) : CTab w1 := tab_below hT h.below

theorem lit_v : chkA 3 63004483800 = 0 := by decide +kernel
theorem lit_d : chkA 1 63004435200 = 0 := by decide +kernel
theorem lit_p : paE [49, 57, 57, 55, 48, 55, 49, 52, 84, 49, 51, 51, 48, 48, 48, 90] = 0 ∧ paK [49, 57, 57, 55, 48, 55, 49, 52, 84, 49, 51, 51, 48, 48, 48, 90] = 3 ∧ paS [49, 57, 57, 55, 48, 55, 49, 52, 84, 49, 51, 51, 48, 48, 48, 90] = 63004483800 := by decide +kernel
theorem lit_q : paE [49, 57, 57, 55, 48, 55, 49, 52, 84, 50, 52, 48, 48, 48, 48] = 8 := by decide +kernel
theorem lit_r : paE [49, 57, 57, 55, 48, 55, 49, 52, 84, 49, 51, 51, 48] = 4 := by decide +kernel
theorem lit_t : textL 3 63004483800 = [49, 57, 57, 55, 48, 55, 49, 52, 84, 49, 51, 51, 48, 48, 48, 90] := by decide +kernel
theorem lit_u : textL 1 63004435200 = [49, 57, 57, 55, 48, 55, 49, 52] := by decide +kernel
theorem lit_a : atE 1 63004483800 = 0 ∧ atK 1 63004483800 = 1 ∧ atS 1 63004483800 = 63004435200 := by decide +kernel

theorem aw_parse (w : World) (hT : CTab w) : Calls Tryd.prog 8 #[.string ⟨#[49, 57, 57, 55, 48, 55, 49, 52, 84, 49, 51, 51, 48, 48, 48, 90]⟩] w fun r w' => r = .returned (.tuple #[MV 3 63004483800, .int .i64 0]) ∧ Below w.heap.size w w' := by
  have h := parse_any ⟨#[49, 57, 57, 55, 48, 55, 49, 52, 84, 49, 51, 51, 48, 48, 48, 90]⟩ w hT
  obtain ⟨a, b, c⟩ := lit_p
  change Calls Tryd.prog 8 _ w fun r w' => r = .returned (.tuple #[MV (paK [49, 57, 57, 55, 48, 55, 49, 52, 84, 49, 51, 51, 48, 48, 48, 90]) (paS [49, 57, 57, 55, 48, 55, 49, 52, 84, 49, 51, 51, 48, 48, 48, 90]), .int .i64 (paE [49, 57, 57, 55, 48, 55, 49, 52, 84, 49, 51, 51, 48, 48, 48, 90])]) ∧ _ at h
  rwa [a, b, c] at h
theorem aw_late (w : World) (hT : CTab w) : Calls Tryd.prog 8 #[.string ⟨#[49, 57, 57, 55, 48, 55, 49, 52, 84, 50, 52, 48, 48, 48, 48]⟩] w fun r w' => r = .returned (.tuple #[MV 0 0, .int .i64 8]) ∧ Below w.heap.size w w' := by
  have h := parse_any ⟨#[49, 57, 57, 55, 48, 55, 49, 52, 84, 50, 52, 48, 48, 48, 48]⟩ w hT
  have a := lit_q
  change Calls Tryd.prog 8 _ w fun r w' => r = .returned (.tuple #[MV (paK [49, 57, 57, 55, 48, 55, 49, 52, 84, 50, 52, 48, 48, 48, 48]) (paS [49, 57, 57, 55, 48, 55, 49, 52, 84, 50, 52, 48, 48, 48, 48]), .int .i64 (paE [49, 57, 57, 55, 48, 55, 49, 52, 84, 50, 52, 48, 48, 48, 48])]) ∧ _ at h
  rwa [paK_not (by omega), paS_not (by omega), a] at h
theorem aw_form (w : World) (hT : CTab w) : Calls Tryd.prog 8 #[.string ⟨#[49, 57, 57, 55, 48, 55, 49, 52, 84, 49, 51, 51, 48]⟩] w fun r w' => r = .returned (.tuple #[MV 0 0, .int .i64 4]) ∧ Below w.heap.size w w' := by
  have h := parse_any ⟨#[49, 57, 57, 55, 48, 55, 49, 52, 84, 49, 51, 51, 48]⟩ w hT
  have a := lit_r
  change Calls Tryd.prog 8 _ w fun r w' => r = .returned (.tuple #[MV (paK [49, 57, 57, 55, 48, 55, 49, 52, 84, 49, 51, 51, 48]) (paS [49, 57, 57, 55, 48, 55, 49, 52, 84, 49, 51, 51, 48]), .int .i64 (paE [49, 57, 57, 55, 48, 55, 49, 52, 84, 49, 51, 51, 48])]) ∧ _ at h
  rwa [paK_not (by omega), paS_not (by omega), a] at h
theorem aw_print (w : World) (hT : CTab w) : Calls Tryd.prog 10 #[MV 3 63004483800] w fun r w' => r = .returned (.tuple #[.string ⟨#[49, 57, 57, 55, 48, 55, 49, 52, 84, 49, 51, 51, 48, 48, 48, 90]⟩, .int .i64 0]) ∧ Below w.heap.size w w' := by
  have h := print_any 3 63004483800 w hT
  rwa [pr_ok lit_v, lit_v, lit_t] at h
theorem aw_date (w : World) (hT : CTab w) : Calls Tryd.prog 10 #[MV 1 63004435200] w fun r w' => r = .returned (.tuple #[.string ⟨#[49, 57, 57, 55, 48, 55, 49, 52]⟩, .int .i64 0]) ∧ Below w.heap.size w w' := by
  have h := print_any 1 63004435200 w hT
  rwa [pr_ok lit_d, lit_d, lit_u] at h
theorem aw_at (w : World) : Calls Tryd.prog 14 #[.int .u8 1, .int .i64 63004483800] w fun r w' => r = .returned (.tuple #[MV 1 63004435200, .int .i64 0]) ∧ Below w.heap.size w w' := by
  have h := at_any 1 63004483800 w
  obtain ⟨a, b, c⟩ := lit_a
  rwa [a, b, c] at h
theorem aw_split (w : World) : Calls Tryd.prog 12 #[MV 3 63004483800] w fun r w' => r = .returned (.tuple #[.int .i64 729218, .int .i64 48600]) ∧ Below w.heap.size w w' := by
  have h := split_any 3 63004483800 w
  unfold spD spS at h
  rw [if_pos lit_v, if_pos lit_v] at h
  exact h
theorem aw_bef (w : World) : Calls Tryd.prog 18 #[MV 1 63004435200, MV 3 63004483800] w fun r w' => r = .returned (.bool true) ∧ Below w.heap.size w w' := before_any 1 63004435200 3 63004483800 w
theorem aw_self (w : World) : Calls Tryd.prog 18 #[MV 3 63004483800, MV 3 63004483800] w fun r w' => r = .returned (.bool false) ∧ Below w.heap.size w w' := before_any 3 63004483800 3 63004483800 w
theorem aw_none (w : World) : Calls Tryd.prog 16 #[MV 0 0] w fun r w' => r = .returned (.int .i64 11) ∧ Below w.heap.size w w' := check_any 0 0 w

set_option maxRecDepth 20000 in
theorem awake_any (w : World) (hT : CTab w) : Calls Tryd.prog 7 #[] w fun r w' => r = .returned (.bool true) ∧ Below w.heap.size w w' := by
  have HT := Lib.hid hT
  clear hT
  have H1 := Lib.hid (fun W hW => aw_parse W hW)
  have H2 := Lib.hid (fun W hW => aw_print W hW)
  have H3 := Lib.hid (fun W => aw_at W)
  have H4 := Lib.hid (fun W hW => aw_date W hW)
  have H5 := Lib.hid (fun W => aw_split W)
  have H6 := Lib.hid (fun W hW => aw_late W hW)
  have H7 := Lib.hid (fun W hW => aw_form W hW)
  have H8 := Lib.hid (fun W => aw_bef W)
  have H9 := Lib.hid (fun W => aw_self W)
  have H10 := Lib.hid (fun W => aw_none W)
  go_enter Tryd.func7, Tryd.ntmps7
  go_wp2_with (first
    | (go_at_call 8; with_reducible refine (H1.out _ HT.out).mono ?_; rintro e w1 ⟨rfl, hb⟩; have B1 := Lib.hid ((Bl.refl w).call hb); clear hb)
    | (go_at_call 10; with_reducible refine (H2.out _ ((B1.out.alloc _).tab HT.out)).mono ?_; rintro e w2 ⟨rfl, hb⟩; have B2 := Lib.hid ((B1.out.alloc _).call hb); have V2 := Lib.hid ((Cel.new w1 3 63004483800 24).call hb); clear hb; obtain ⟨v0, v1, vz⟩ := V2.out)
    | (go_at_call 14; with_reducible refine (H3.out _).mono ?_; rintro e w3 ⟨rfl, hb⟩; have B3 := Lib.hid (B2.out.call hb); have V3 := Lib.hid (V2.out.call hb); clear hb v0 v1 vz; obtain ⟨v0, v1, vz⟩ := V3.out)
    | (go_at_call 10; with_reducible refine (H4.out _ ((B3.out.alloc _).tab HT.out)).mono ?_; rintro e w4 ⟨rfl, hb⟩; have B4 := Lib.hid ((B3.out.alloc _).call hb); have V4 := Lib.hid ((V3.out.alloc _).call hb); have D4 := Lib.hid ((Cel.new w3 1 63004435200 24).call hb); clear hb v0 v1 vz; obtain ⟨v0, v1, vz⟩ := V4.out; obtain ⟨d0, d1, dz⟩ := D4.out)
    | (go_at_call 12; with_reducible refine (H5.out _).mono ?_; rintro e w5 ⟨rfl, hb⟩; have B5 := Lib.hid (B4.out.call hb); have V5 := Lib.hid (V4.out.call hb); have D5 := Lib.hid (D4.out.call hb); clear hb v0 v1 vz d0 d1 dz)
    | (go_at_call 8; with_reducible refine (H6.out _ (B5.out.tab HT.out)).mono ?_; rintro e w6 ⟨rfl, hb⟩; have B6 := Lib.hid (B5.out.call hb); have V6 := Lib.hid (V5.out.call hb); have D6 := Lib.hid (D5.out.call hb); clear hb)
    | (go_at_call 8; with_reducible refine (H7.out _ ((B6.out.alloc _).tab HT.out)).mono ?_; rintro e w7 ⟨rfl, hb⟩; have B7 := Lib.hid ((B6.out.alloc _).call hb); have V7 := Lib.hid ((V6.out.alloc _).call hb); have D7 := Lib.hid ((D6.out.alloc _).call hb); clear hb; obtain ⟨v0, v1, vz⟩ := V7.out; obtain ⟨d0, d1, dz⟩ := D7.out)
    | (go_at_call 18; with_reducible refine (H8.out _).mono ?_; rintro e w8 ⟨rfl, hb⟩; have B8 := Lib.hid ((B7.out.alloc _).call hb); have V8 := Lib.hid ((V7.out.alloc _).call hb); clear hb v0 v1 vz d0 d1 dz; obtain ⟨v0, v1, vz⟩ := V8.out)
    | (go_at_call 18; with_reducible refine (H9.out _).mono ?_; rintro e w9 ⟨rfl, hb⟩; have B9 := Lib.hid (B8.out.call hb); clear hb v0 v1 vz)
    | (go_at_call 16; with_reducible refine (H10.out _).mono ?_; rintro e w10 ⟨rfl, hb⟩; have B10 := Lib.hid (B9.out.call hb); clear hb))
  go_ret
  exact ⟨rfl, B10.out.below⟩
end Go.Proofs.YtiimkkhjejcmfaaDoor.Mom
