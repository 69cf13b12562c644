/- awake, which every statement of the layer ends with, returns true; it writes nothing that was there. -/
import Derived.Test.YtaafkkmcpedeaaaSeal
import Derived.Test.YtaafkkmcpedeaaaOpenC
namespace Go.Proofs.Ytaafkkmcpedeaaa
open Go.RowKit Go.Proofs.Ytaafkkmcpedeaaa.Oct

/-- The sheet of 258 and "ab". -/
def S64 : ByteArray := ⟨#[0, 0, 0, 0, 1, 2, 97, 98, 0, 0, 0, 0, 0, 0, 0, 0, 0, 0, 0, 0, 0, 0, 0, 0, 0, 0, 0, 0, 0, 0, 0, 0, 0, 0, 0, 0, 0, 0, 0, 0, 0, 0, 0, 0, 0, 0, 0, 0, 0, 0, 0, 0, 0, 0, 0, 0, 0, 0, 0, 0, 0, 0, 1, 2]⟩

theorem e_seal : sealR 258 ⟨#[97, 98]⟩ = (S64, 0) := by kernel_rfl
theorem e_open : openR S64 = (258, S64.extract 6 58, 0) := by kernel_rfl
theorem e_open2 : openR (⟨#[120]⟩ ++ S64.extract (min 1 64 : Int).toNat 64) = (0, ⟨#[]⟩, 3) := by kernel_rfl
theorem e_seal0 : sealR 0 ⟨#[]⟩ = (⟨#[]⟩, 8) := by kernel_rfl
theorem e_top : topR S64 = 258 := by kernel_rfl
theorem e_whole0 : openR ⟨#[]⟩ = (0, ⟨#[]⟩, 4) := by kernel_rfl
theorem e_size : S64.size = 64 := by kernel_rfl
theorem e_size2 : (S64.extract 6 58).size = 52 := by kernel_rfl
theorem e_ahead : S64.extract 0 8 = ⟨#[0, 0, 0, 0, 1, 2, 97, 98]⟩ := by kernel_rfl
theorem e_ahead2 : (S64.extract 6 58).extract 0 3 = ⟨#[97, 98, 0]⟩ := by kernel_rfl
theorem e_x : (⟨#[120]⟩ : ByteArray).size = 1 := rfl

set_option maxRecDepth 20000 in
theorem awake_any (w : World) : Calls Try.prog 7 #[] w fun e w' => e = .returned (.bool true) ∧ Below w.heap.size w w' := by
  have H1 := Lib.hid (fun W => seal_any 258 ⟨#[97, 98]⟩ W)
  have H2 := Lib.hid (fun W => open_any S64 W)
  have H3 := Lib.hid (fun W => open_any (⟨#[120]⟩ ++ S64.extract (min 1 64 : Int).toNat 64) W)
  have H4 := Lib.hid (fun W => seal_any 0 ⟨#[]⟩ W)
  have H5 := Lib.hid (fun W => top_any S64 W)
  have H6 := Lib.hid (fun W => whole_any S64 W)
  have H7 := Lib.hid (fun W => whole_any ⟨#[]⟩ W)
  rw [e_seal] at H1
  rw [e_open] at H2 H6
  rw [e_open2] at H3
  rw [e_seal0] at H4
  rw [e_top] at H5
  rw [e_whole0] at H7
  have s1 := e_size
  have s2 := e_size2
  have s3 := e_ahead
  have s4 := e_ahead2
  generalize S64.extract 6 58 = B at *
  generalize S64 = S at *
  go_enter Try.func7, Try.ntmps7
  go_wp2_with fail
  with_reducible refine (H1.out _).mono ?_
  rintro r w1 ⟨rfl, hb⟩
  have HB1 := Lib.hid hb
  clear hb
  go_wp2_with fail
  with_reducible refine (H2.out _).mono ?_
  rintro r w2 ⟨rfl, hb⟩
  have HB2 := Lib.hid (HB1.out.call hb)
  clear hb
  go_wp2_with fail
  with_reducible refine (H3.out _).mono ?_
  rintro r w3 ⟨rfl, hb⟩
  have HB3 := Lib.hid (HB2.out.call hb)
  clear hb
  go_wp2_with fail
  with_reducible refine (H4.out _).mono ?_
  rintro r w4 ⟨rfl, hb⟩
  have HB4 := Lib.hid (HB3.out.call hb)
  clear hb
  go_wp2_with fail
  with_reducible refine (H5.out _).mono ?_
  rintro r w5 ⟨rfl, hb⟩
  have HB5 := Lib.hid (HB4.out.call hb)
  clear hb
  go_wp2_with fail
  with_reducible refine (H6.out _).mono ?_
  rintro r w6 ⟨rfl, hb⟩
  have HB6 := Lib.hid (HB5.out.call hb)
  clear hb
  go_wp2_with fail
  with_reducible refine (H7.out _).mono ?_
  rintro r w7 ⟨rfl, hb⟩
  have HB7 := Lib.hid (HB6.out.call hb)
  clear hb
  go_wp2_with fail
  go_ret
  exact ⟨rfl, HB7.out⟩

end Go.Proofs.Ytaafkkmcpedeaaa
