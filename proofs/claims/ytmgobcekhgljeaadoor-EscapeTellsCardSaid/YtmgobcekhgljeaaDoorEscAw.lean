/- The walk of awake. -/
import Derived.Test.YtmgobcekhgljeaaDoorEscProB
set_option linter.unusedVariables false
namespace Go.Proofs.YtmgobcekhgljeaaDoor.Esc
open Go.RowKit Go.Deep Go.Proofs.YtmgobcekhgljeaaDoor.Byt Go.Proofs.YtmgobcekhgljeaaDoor.Utf Go.Proofs.YtmgobcekhgljeaaDoor.Tre Go.Proofs.YtmgobcekhgljeaaDoor.Txt Go.Proofs.YtmgobcekhgljeaaDoor.Ero

theorem aw_u1 : une [97, 92, 44, 98, 92, 78, 92, 92] 0 [] = ([97, 44, 98, 10, 92], 0, 0) := by
  rw [une_byte (by decide), une_told (by decide) (show tl 44 = some 44 by decide), une_byte (by decide), une_told (by decide) (show tl 78 = some 10 by decide), une_told (by decide) (show tl 92 = some 92 by decide), une_nil]
  rfl
theorem aw_s1 : spl [97, 92, 44, 98, 44, 44, 99] 0 [] [] = ([[97, 44, 98], [], [99]], 0, 0) := by
  rw [spl_byte (by decide), spl_told (by decide) (show tl 44 = some 44 by decide), spl_byte (by decide), spl_comma (by decide), spl_comma (by decide), spl_byte (by decide), spl_nil]
  rfl
theorem aw_u2 : une [97, 98, 92, 120] 0 [] = ([], 4, 2) := by
  rw [une_byte (by decide), une_byte (by decide), une_bad (by decide) (show tl 120 = none by decide)]
  rfl
theorem aw_u3 : une [97, 44, 98] 0 [] = ([], 4, 1) := by
  rw [une_byte (by decide), une_stop (by decide)]
  rfl
def tA : List ByteArray := [⟨#[97, 44, 98]⟩, ⟨#[]⟩, ⟨#[99]⟩]
theorem aw_U1 (w : World) : Calls Tryd.prog 12 #[.string ⟨#[97, 92, 44, 98, 92, 78, 92, 92]⟩] w fun r w' => r = .returned (.tuple #[.string ⟨#[97, 44, 98, 10, 92]⟩, .nilIface]) ∧ Below w.heap.size w w' := by
  refine (unesc_any ⟨#[97, 92, 44, 98, 92, 78, 92, 92]⟩ (by decide) w).mono ?_
  rintro r w' ⟨ev, rfl, h1, h2⟩
  rw [show (ByteArray.mk #[97, 92, 44, 98, 92, 78, 92, 92]).data.toList = [97, 92, 44, 98, 92, 78, 92, 92] from rfl, aw_u1] at *
  obtain rfl := Ee.nil h1
  exact ⟨rfl, h2⟩
theorem aw_S1 (w : World) : Calls Tryd.prog 14 #[.string ⟨#[97, 92, 44, 98, 44, 44, 99]⟩] w fun r w' => ∃ a c, r = .returned (.tuple #[.slice a 3 c, .nilIface]) ∧ Rd w' (txD tA) (.slice a tA.length c) ∧ Below w.heap.size w w' := by
  refine (split_any ⟨#[97, 92, 44, 98, 44, 44, 99]⟩ (by decide) w).mono ?_
  rintro r w' ⟨a, c, ev, rfl, h1, h2, h3⟩
  rw [show (ByteArray.mk #[97, 92, 44, 98, 44, 44, 99]).data.toList = [97, 92, 44, 98, 44, 44, 99] from rfl, aw_s1] at *
  obtain rfl := Ee.nil h2
  exact ⟨a, c, rfl, h1, h3⟩
theorem aw_U2 (w : World) : Calls Tryd.prog 12 #[.string ⟨#[97, 98, 92, 120]⟩] w fun r w' => ∃ ev, r = .returned (.tuple #[.string ⟨#[]⟩, ev]) ∧ Ee w' 4 2 ev ∧ Below w.heap.size w w' := by
  refine (unesc_any ⟨#[97, 98, 92, 120]⟩ (by decide) w).mono ?_
  rintro r w' ⟨ev, rfl, h1, h2⟩
  rw [show (ByteArray.mk #[97, 98, 92, 120]).data.toList = [97, 98, 92, 120] from rfl, aw_u2] at *
  exact ⟨ev, rfl, h1, h2⟩
theorem aw_U3 (w : World) : Calls Tryd.prog 12 #[.string ⟨#[97, 44, 98]⟩] w fun r w' => ∃ ev, r = .returned (.tuple #[.string ⟨#[]⟩, ev]) ∧ Ee w' 4 1 ev ∧ Below w.heap.size w w' := by
  refine (unesc_any ⟨#[97, 44, 98]⟩ (by decide) w).mono ?_
  rintro r w' ⟨ev, rfl, h1, h2⟩
  rw [show (ByteArray.mk #[97, 44, 98]).data.toList = [97, 44, 98] from rfl, aw_u3] at *
  exact ⟨ev, rfl, h1, h2⟩
theorem aw_E (w : World) : Calls Tryd.prog 8 #[.string ⟨#[97, 44, 98, 10, 59, 92]⟩] w fun r w' => r = .returned (.string ⟨#[97, 92, 44, 98, 92, 110, 92, 59, 92, 92]⟩) ∧ Below w.heap.size w w' := by
  refine (esc_any ⟨#[97, 44, 98, 10, 59, 92]⟩ (by decide) w).mono ?_
  rintro r w' ⟨rfl, h⟩
  exact ⟨by rw [show esc (ByteArray.mk #[97, 44, 98, 10, 59, 92]).data.toList = [97, 92, 44, 98, 92, 110, 92, 59, 92, 92] by decide], h⟩
theorem aw_J (w : World) (a : Option Addr) (c : Nat) (h : Rd w (txD tA) (.slice a tA.length c)) : Calls Tryd.prog 10 #[.slice a 3 c] w fun r w' => r = .returned (.string ⟨#[97, 92, 44, 98, 44, 44, 99]⟩) ∧ Below w.heap.size w w' := by
  refine (join_any tA (by decide) (by decide) a c w h).mono ?_
  rintro r w' ⟨rfl, h⟩
  exact ⟨by rw [show joinE (lists tA) = [97, 92, 44, 98, 44, 44, 99] by decide], h⟩
theorem aw_T (w : World) (a : Option Addr) (c : Nat) (h : Rd w (txD tA) (.slice a tA.length c)) : Calls Tryd.prog 18 #[.slice a 3 c, .slice (some ⟨w.heap.size, 0, none⟩) 3 3] (w.alloc (.cells #[.string ⟨#[97, 44, 98]⟩, .string ⟨#[]⟩, .string ⟨#[99]⟩] 9)) fun r w' => r = .returned (.bool true) ∧ Below w.heap.size w w' := by
  refine (same_any tA (by decide) a _ c 3 _ (h.call (new1 _ _)) (texts_lit w tA (by decide))).mono ?_
  rintro r w' ⟨rfl, hb⟩
  exact ⟨rfl, (((Bl.refl w).alloc _).call hb).below⟩
set_option maxRecDepth 20000 in
set_option maxHeartbeats 1000000 in
theorem awake_any (w : World) (hT : Flt.ETab w) : Calls Tryd.prog 7 #[] w fun r w' => r = .returned (.bool true) ∧ Below w.heap.size w w' := by
  have HT := Lib.hid hT
  clear hT
  have H1 := Lib.hid (fun W => aw_U1 W)
  have H2 := Lib.hid (fun W => aw_S1 W)
  have H3 := Lib.hid (fun W => aw_U2 W)
  have H4 := Lib.hid (fun W => aw_U3 W)
  have H5 := Lib.hid (fun W => aw_E W)
  have H6 := Lib.hid (fun W a c h => aw_T W a c h)
  have H7 := Lib.hid (fun W a c h => aw_J W a c h)
  have H8 := Lib.hid (fun W v (h : Ee W 4 2 v) hT => place_any h hT (by decide) (by decide) (by decide))
  have H9 := Lib.hid (fun W v (h : Ee W 4 2 v) hT => code_any h hT)
  have H10 := Lib.hid (fun W v (h : Ee W 4 1 v) hT => place_any h hT (by decide) (by decide) (by decide))
  go_enter Tryd.func7, Tryd.ntmps7
  go_wp2_with (first
    | (go_at_call 12; with_reducible refine (H1.out _).mono ?_; rintro r w1 ⟨rfl, hb⟩; have B1 := Lib.hid ((Bl.refl w).call hb); clear hb)
    | (go_at_call 14; with_reducible refine (H2.out _).mono ?_; rintro r w2 ⟨a, c, rfl, hr, hb⟩; have B2 := Lib.hid (B1.out.call hb); have R2 := Lib.hid hr; clear hr hb)
    | (go_at_call 12; with_reducible refine (H3.out _).mono ?_; rintro r w3 ⟨e3, rfl, he, hb⟩; have B3 := Lib.hid (B2.out.call hb); have R3 := Lib.hid (R2.out.call hb); have E3 := Lib.hid he; clear he hb)
    | (go_at_call 12; with_reducible refine (H4.out _).mono ?_; rintro r w4 ⟨e4, rfl, he, hb⟩; have B4 := Lib.hid (B3.out.call hb); have R4 := Lib.hid (R3.out.call hb); have E3' := Lib.hid (E3.out.call hb); have E4 := Lib.hid he; clear he hb)
    | (go_at_call 8; with_reducible refine (H5.out _).mono ?_; rintro r w5 ⟨rfl, hb⟩; have B5 := Lib.hid (B4.out.call hb); have R5 := Lib.hid (R4.out.call hb); have F5 := Lib.hid (E3'.out.call hb); have G5 := Lib.hid (E4.out.call hb); clear hb)
    | (go_at_call 18; with_reducible refine (H6.out _ _ _ R5.out).mono ?_; rintro r w6 ⟨rfl, hb⟩; have B6 := Lib.hid (B5.out.call hb); have R6 := Lib.hid (R5.out.call hb); have F6 := Lib.hid (F5.out.call hb); have G6 := Lib.hid (G5.out.call hb); clear hb)
    | (go_at_call 10; with_reducible refine (H7.out _ _ _ R6.out).mono ?_; rintro r w7 ⟨rfl, hb⟩; have B7 := Lib.hid (B6.out.call hb); have F7 := Lib.hid (F6.out.call hb); have G7 := Lib.hid (G6.out.call hb); clear hb)
    | (go_at_call 17; with_reducible refine (H8.out _ _ F7.out (HT.out.call B7.out.below)).mono ?_; rintro r w8 ⟨rfl, hb⟩; have B8 := Lib.hid (B7.out.call hb); have F8 := Lib.hid (F7.out.call hb); have G8 := Lib.hid (G7.out.call hb); clear hb)
    | (go_at_call 16; with_reducible refine (H9.out _ _ F8.out (HT.out.call B8.out.below)).mono ?_; rintro r w9 ⟨rfl, hb⟩; have B9 := Lib.hid (B8.out.call hb); have G9 := Lib.hid (G8.out.call hb); clear hb)
    | (go_at_call 17; with_reducible refine (H10.out _ _ G9.out (HT.out.call B9.out.below)).mono ?_; rintro r w10 ⟨rfl, hb⟩; have B10 := Lib.hid (B9.out.call hb); clear hb))
  go_ret
  exact ⟨rfl, B10.out.below⟩
end Go.Proofs.YtmgobcekhgljeaaDoor.Esc
