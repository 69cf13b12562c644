/- The walks of the laws of layer 10 (week), over the contracts of the program's package and of the document's answers. -/
import Derived.Test.YtldpnidegicmeaaDoorWeekPro
namespace Go.Proofs.YtldpnidegicmeaaDoor.Wk
open Go.RowKit Civ

theorem awake_any (w : World) (hT : CTab w) :
    Calls Tryd.prog 13 #[] w fun r w' => r = .returned (.bool true) ∧ w = w' := by
  have HT := Lib.hid hT
  have H1 := Lib.hid (fun W hW => number_any 737790 0 W hW)
  have H2 := Lib.hid (fun W hW => number_any 719162 0 W hW)
  have H3 := Lib.hid (fun W hW => number_any 0 1 W hW)
  have H4 := Lib.hid (fun W hW => back_any 737790 0 W hW)
  have H5 := Lib.hid (fun W => beg_any 719162 0 W)
  have H6 := Lib.hid (fun W => beg_any 0 6 W)
  have H7 := Lib.hid (fun W hW => first_week 1 0 W hW)
  have H8 := Lib.hid (fun W hW => weeks_any 2020 0 W hW)
  have H9 := Lib.hid (fun W hW => weeks_any 2021 0 W hW)
  have H10 := Lib.hid (fun W hW => weeks_any 2021 7 W hW)
  rw [show numY 737790 0 = 2020 by decide, show numK 737790 0 = 53 by decide] at H1
  rw [show numY 719162 0 = 1970 by decide, show numK 719162 0 = 1 by decide] at H2
  rw [show numY 0 1 = 0 by decide, show numK 0 1 = 52 by decide] at H3
  rw [show bckA 737790 0 = -1 by decide] at H4
  rw [show begA 719162 0 = 719159 by decide] at H5
  rw [show begA 0 6 = -1 by decide] at H6
  rw [show fstA 1 0 = 0 by decide] at H7
  rw [show wksA 2020 0 = 53 by decide] at H8
  rw [show wksA 2021 0 = 52 by decide] at H9
  rw [show wksA 2021 7 = 0 by decide] at H10
  clear hT
  go_enter Tryd.func13, Tryd.ntmps13
  go_wp2_with (first | (go_at_call 7; first | (with_reducible refine (H1.out _ HT.out).mono ?_; rintro e w' ⟨rfl, rfl⟩) | (with_reducible refine (H2.out _ HT.out).mono ?_; rintro e w' ⟨rfl, rfl⟩) | (with_reducible refine (H3.out _ HT.out).mono ?_; rintro e w' ⟨rfl, rfl⟩)) | (go_at_call 11; with_reducible refine (H4.out _ HT.out).mono ?_; rintro e w' ⟨rfl, rfl⟩) | (go_at_call 9; first | (with_reducible refine (H5.out _).mono ?_; rintro e w' ⟨rfl, rfl⟩) | (with_reducible refine (H6.out _).mono ?_; rintro e w' ⟨rfl, rfl⟩)) | (go_at_call 14; with_reducible refine (H7.out _ HT.out).mono ?_; rintro e w' ⟨rfl, rfl⟩) | (go_at_call 16; first | (with_reducible refine (H8.out _ HT.out).mono ?_; rintro e w' ⟨rfl, rfl⟩) | (with_reducible refine (H9.out _ HT.out).mono ?_; rintro e w' ⟨rfl, rfl⟩) | (with_reducible refine (H10.out _ HT.out).mono ?_; rintro e w' ⟨rfl, rfl⟩)))
  go_ret
  exact ⟨rfl, rfl⟩

theorem walk_tells (n x : Int) (w : World) (hT : CTab w) :
    Calls Tryd.prog 3 #[.int .i64 n, .int .i64 x] w fun r w' => r = .returned (.bool true) ∧ w = w' := by
  have HT := Lib.hid hT
  have H1 := Lib.hid (fun W hW => number_any n x W hW)
  have H2 := Lib.hid (fun W => rNumber_any n x W)
  have H3 := Lib.hid (fun W => beg_any n x W)
  have H4 := Lib.hid (fun W => rBegin_any n x W)
  have H5 := Lib.hid (fun W hW => back_any n x W hW)
  have H6 := Lib.hid (fun W => rBack_any n x W)
  have H9 := Lib.hid (fun W hW => awake_any W hW)
  clear hT
  generalize numY n x = a1 at *
  generalize numK n x = a2 at *
  generalize begA n x = a3 at *
  generalize bckA n x = a4 at *
  go_enter Tryd.func3, Tryd.ntmps3
  go_wp2_with (first | (go_at_call 7; with_reducible refine (H1.out _ HT.out).mono ?_; rintro e w' ⟨rfl, rfl⟩) | (go_at_call 8; with_reducible refine (H2.out _).mono ?_; rintro e w' ⟨rfl, rfl⟩) | (go_at_call 9; with_reducible refine (H3.out _).mono ?_; rintro e w' ⟨rfl, rfl⟩) | (go_at_call 10; with_reducible refine (H4.out _).mono ?_; rintro e w' ⟨rfl, rfl⟩) | (go_at_call 11; with_reducible refine (H5.out _ HT.out).mono ?_; rintro e w' ⟨rfl, rfl⟩) | (go_at_call 12; with_reducible refine (H6.out _).mono ?_; rintro e w' ⟨rfl, rfl⟩) | (go_at_call 13; with_reducible refine (H9.out _ HT.out).mono ?_; rintro e w' ⟨rfl, rfl⟩))
  go_ret
  exact ⟨rfl, rfl⟩

theorem walk_years (y x : Int) (w : World) (hT : CTab w) :
    Calls Tryd.prog 4 #[.int .i64 y, .int .i64 x] w fun r w' => r = .returned (.bool true) ∧ w = w' := by
  have HT := Lib.hid hT
  have H1 := Lib.hid (fun W hW => first_week y x W hW)
  have H2 := Lib.hid (fun W => rFirst_any y x W)
  have H3 := Lib.hid (fun W hW => weeks_any y x W hW)
  have H4 := Lib.hid (fun W => rWeeks_any y x W)
  have H9 := Lib.hid (fun W hW => awake_any W hW)
  clear hT
  generalize fstA y x = a1 at *
  generalize wksA y x = a2 at *
  go_enter Tryd.func4, Tryd.ntmps4
  go_wp2_with (first | (go_at_call 14; with_reducible refine (H1.out _ HT.out).mono ?_; rintro e w' ⟨rfl, rfl⟩) | (go_at_call 15; with_reducible refine (H2.out _).mono ?_; rintro e w' ⟨rfl, rfl⟩) | (go_at_call 16; with_reducible refine (H3.out _ HT.out).mono ?_; rintro e w' ⟨rfl, rfl⟩) | (go_at_call 17; with_reducible refine (H4.out _).mono ?_; rintro e w' ⟨rfl, rfl⟩) | (go_at_call 13; with_reducible refine (H9.out _ HT.out).mono ?_; rintro e w' ⟨rfl, rfl⟩))
  go_ret
  exact ⟨rfl, rfl⟩
end Go.Proofs.YtldpnidegicmeaaDoor.Wk
