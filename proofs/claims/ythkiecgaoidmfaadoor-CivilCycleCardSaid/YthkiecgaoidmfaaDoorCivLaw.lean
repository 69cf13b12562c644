/- The walks of the laws of layer 9 (civil), over the contracts of the program's package and of the document's answers. -/
import Derived.Test.YthkiecgaoidmfaaDoorCivPro
namespace Go.Proofs.YthkiecgaoidmfaaDoor.Civ
open Go.RowKit

theorem awake_any (w : World) (hT : CTab w) :
    Calls Tryd.prog 15 #[] w fun r w' => r = .returned (.bool true) ∧ w = w' := by
  have HT := Lib.hid hT
  have H1 := Lib.hid (fun W hW => day_any 1970 1 1 W hW)
  have H2 := Lib.hid (fun W hW => date_any 3652058 W hW)
  have H3 := Lib.hid (fun W hW => day_any 1900 2 29 W hW)
  have H4 := Lib.hid (fun W hW => date_any (-1) W hW)
  have H5 := Lib.hid (fun W => weekday_any 719162 W)
  have H6 := Lib.hid (fun W => leap_any 2000 W)
  have H7 := Lib.hid (fun W => leap_any 1900 W)
  have H8 := Lib.hid (fun W hW => days_any 2024 W hW)
  have H9 := Lib.hid (fun W hW => len_any 2023 2 W hW)
  have H10 := Lib.hid (fun W => place_any 719162 W)
  rw [show dayA 1970 1 1 = 719162 by decide, show dayE 1970 1 1 = 0 by decide] at H1
  rw [show dateY 3652058 = 9999 by decide, show dateM 3652058 = 12 by decide, show dateD 3652058 = 31 by decide, show dateE 3652058 = 0 by decide] at H2
  rw [show dayA 1900 2 29 = 0 by decide, show dayE 1900 2 29 = 8 by decide] at H3
  rw [show dateY (-1) = 0 by decide, show dateM (-1) = 0 by decide, show dateD (-1) = 0 by decide, show dateE (-1) = 8 by decide] at H4
  rw [show wkA 719162 = 3 by decide] at H5
  rw [show leapY 2000 = true by decide] at H6
  rw [show leapY 1900 = false by decide] at H7
  rw [show daysY 2024 = 366 by decide] at H8
  rw [show lenM 2023 2 = 28 by decide] at H9
  rw [show plA 719162 = 1 by decide] at H10
  clear hT
  go_enter Tryd.func15, Tryd.ntmps15
  go_wp2_with (first | (go_at_call 7; first | (with_reducible refine (H1.out _ HT.out).mono ?_; rintro e w' ⟨rfl, rfl⟩) | (with_reducible refine (H3.out _ HT.out).mono ?_; rintro e w' ⟨rfl, rfl⟩)) | (go_at_call 16; first | (with_reducible refine (H2.out _ HT.out).mono ?_; rintro e w' ⟨rfl, rfl⟩) | (with_reducible refine (H4.out _ HT.out).mono ?_; rintro e w' ⟨rfl, rfl⟩)) | (go_at_call 18; with_reducible refine (H5.out _).mono ?_; rintro e w' ⟨rfl, rfl⟩) | (go_at_call 9; first | (with_reducible refine (H6.out _).mono ?_; rintro e w' ⟨rfl, rfl⟩) | (with_reducible refine (H7.out _).mono ?_; rintro e w' ⟨rfl, rfl⟩)) | (go_at_call 11; with_reducible refine (H8.out _ HT.out).mono ?_; rintro e w' ⟨rfl, rfl⟩) | (go_at_call 13; with_reducible refine (H9.out _ HT.out).mono ?_; rintro e w' ⟨rfl, rfl⟩) | (go_at_call 20; with_reducible refine (H10.out _).mono ?_; rintro e w' ⟨rfl, rfl⟩))
  go_ret
  exact ⟨rfl, rfl⟩

theorem walk_dates (y m d : Int) (w : World) (hT : CTab w) :
    Calls Tryd.prog 3 #[.int .i64 y, .int .i64 m, .int .i64 d] w fun r w' => r = .returned (.bool true) ∧ w = w' := by
  have HT := Lib.hid hT
  have H1 := Lib.hid (fun W hW => day_any y m d W hW)
  have H2 := Lib.hid (fun W => rday_any y m d W)
  have H3 := Lib.hid (fun W => leap_any y W)
  have H4 := Lib.hid (fun W => rleap_any y W)
  have H5 := Lib.hid (fun W hW => days_any y W hW)
  have H6 := Lib.hid (fun W => rdays_any y W)
  have H7 := Lib.hid (fun W hW => len_any y m W hW)
  have H8 := Lib.hid (fun W => rlen_any y m W)
  have H9 := Lib.hid (fun W hW => awake_any W hW)
  clear hT
  generalize dayA y m d = a1 at *
  generalize dayE y m d = a2 at *
  generalize leapY y = a3 at *
  generalize daysY y = a4 at *
  generalize lenM y m = a5 at *
  go_enter Tryd.func3, Tryd.ntmps3
  go_wp2_with (first | (go_at_call 7; with_reducible refine (H1.out _ HT.out).mono ?_; rintro e w' ⟨rfl, rfl⟩) | (go_at_call 8; with_reducible refine (H2.out _).mono ?_; rintro e w' ⟨rfl, rfl⟩) | (go_at_call 9; with_reducible refine (H3.out _).mono ?_; rintro e w' ⟨rfl, rfl⟩) | (go_at_call 10; with_reducible refine (H4.out _).mono ?_; rintro e w' ⟨rfl, rfl⟩) | (go_at_call 11; with_reducible refine (H5.out _ HT.out).mono ?_; rintro e w' ⟨rfl, rfl⟩) | (go_at_call 12; with_reducible refine (H6.out _).mono ?_; rintro e w' ⟨rfl, rfl⟩) | (go_at_call 13; with_reducible refine (H7.out _ HT.out).mono ?_; rintro e w' ⟨rfl, rfl⟩) | (go_at_call 14; with_reducible refine (H8.out _).mono ?_; rintro e w' ⟨rfl, rfl⟩) | (go_at_call 15; with_reducible refine (H9.out _ HT.out).mono ?_; rintro e w' ⟨rfl, rfl⟩))
  go_ret
  exact ⟨rfl, rfl⟩

theorem walk_days (n : Int) (w : World) (hT : CTab w) :
    Calls Tryd.prog 4 #[.int .i64 n] w fun r w' => r = .returned (.bool true) ∧ w = w' := by
  have HT := Lib.hid hT
  have H1 := Lib.hid (fun W hW => date_any n W hW)
  have H2 := Lib.hid (fun W => rdate_any n W)
  have H3 := Lib.hid (fun W => weekday_any n W)
  have H4 := Lib.hid (fun W => rweekday_any n W)
  have H5 := Lib.hid (fun W => place_any n W)
  have H6 := Lib.hid (fun W => rplace_any n W)
  have H9 := Lib.hid (fun W hW => awake_any W hW)
  clear hT
  generalize dateY n = a1 at *
  generalize dateM n = a2 at *
  generalize dateD n = a3 at *
  generalize dateE n = a4 at *
  generalize wkA n = a5 at *
  generalize plA n = a6 at *
  go_enter Tryd.func4, Tryd.ntmps4
  go_wp2_with (first | (go_at_call 16; with_reducible refine (H1.out _ HT.out).mono ?_; rintro e w' ⟨rfl, rfl⟩) | (go_at_call 17; with_reducible refine (H2.out _).mono ?_; rintro e w' ⟨rfl, rfl⟩) | (go_at_call 18; with_reducible refine (H3.out _).mono ?_; rintro e w' ⟨rfl, rfl⟩) | (go_at_call 19; with_reducible refine (H4.out _).mono ?_; rintro e w' ⟨rfl, rfl⟩) | (go_at_call 20; with_reducible refine (H5.out _).mono ?_; rintro e w' ⟨rfl, rfl⟩) | (go_at_call 21; with_reducible refine (H6.out _).mono ?_; rintro e w' ⟨rfl, rfl⟩) | (go_at_call 15; with_reducible refine (H9.out _ HT.out).mono ?_; rintro e w' ⟨rfl, rfl⟩))
  go_ret
  exact ⟨rfl, rfl⟩
end Go.Proofs.YthkiecgaoidmfaaDoor.Civ
