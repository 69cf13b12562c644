/- The walks of SheetSeals and SheetOpens. -/
import Derived.Test.YtaafkkmcpedeaaaRefS
import Derived.Test.YtaafkkmcpedeaaaAwake
namespace Go.Proofs.Ytaafkkmcpedeaaa
open Go.RowKit Go.Proofs.Ytaafkkmcpedeaaa.Oct

set_option maxRecDepth 20000 in
theorem walk_seals (n : Int) (b : ByteArray) (w : World) (hs : b.size ≤ maxLen) :
    Calls Try.prog 3 #[.int .i64 n, .string b] w fun e w' => e = .returned (.bool true) ∧ Below w.heap.size w w' := by
  have H1 := Lib.hid (fun W => seal_any n b W)
  have H2 := Lib.hid (fun W => rseal_any n b W)
  generalize sealR n b = r at *
  obtain ⟨x, y⟩ := r
  unfold maxLen at hs
  by_cases h : (100 : Int) < b.size
  · go_enter Try.func3, Try.ntmps3
    go_wp2_with (go_at_call 7; refine (awake_any _).mono ?_; rintro e w' ⟨rfl, hb⟩)
    go_ret
    exact ⟨rfl, hb⟩
  · have d : decide ((100 : Int) < b.size) = false := decide_eq_false h
    go_enter Try.func3, Try.ntmps3
    go_wp2_with fail
    with_reducible refine (H1.out _).mono ?_
    rintro r w1 ⟨rfl, hb⟩
    have HB1 := Lib.hid hb
    clear hb
    go_wp2_with fail
    with_reducible refine (H2.out _).mono ?_
    rintro r w2 ⟨rfl, hb⟩
    have HB2 := Lib.hid (HB1.out.call hb)
    clear hb
    go_wp2_with fail
    refine (awake_any _).mono ?_
    rintro r w3 ⟨rfl, hb⟩
    have HB3 := Lib.hid (HB2.out.call hb)
    clear hb
    go_wp2_with fail
    go_ret
    exact ⟨rfl, HB3.out⟩

set_option maxRecDepth 20000 in
theorem walk_opens (s : ByteArray) (w : World) (hs : s.size ≤ maxLen) :
    Calls Try.prog 4 #[.string s] w fun e w' => e = .returned (.bool true) ∧ Below w.heap.size w w' := by
  have H1 := Lib.hid (fun W => open_any s W)
  have H2 := Lib.hid (fun W => ropen_any s W)
  have H3 := Lib.hid (fun W => top_any s W)
  have H4 := Lib.hid (fun W => rtop_any s W)
  have H5 := Lib.hid (fun W => whole_any s W)
  have H6 := Lib.hid (fun W => rwhole_any s W)
  generalize openR s = r at *
  generalize topR s = t at *
  obtain ⟨x, y, z⟩ := r
  simp only at H5 H6
  generalize (z == 0) = b at *
  unfold maxLen at hs
  by_cases h : (100 : Int) < s.size
  · go_enter Try.func4, Try.ntmps4
    go_wp2_with (go_at_call 7; refine (awake_any _).mono ?_; rintro e w' ⟨rfl, hb⟩)
    go_ret
    exact ⟨rfl, hb⟩
  · have d : decide ((100 : Int) < s.size) = false := decide_eq_false h
    go_enter Try.func4, Try.ntmps4
    go_wp2_with fail
    with_reducible refine (H1.out _).mono ?_
    rintro r w1 ⟨rfl, hb⟩
    have HB1 := Lib.hid hb
    clear hb
    go_wp2_with fail
    with_reducible refine (H2.out _).mono ?_
    rintro r w2 ⟨rfl, hb⟩
    have HB2 := Lib.hid (HB1.out.call hb)
    clear hb
    go_wp2_with fail
    with_reducible refine (H3.out _).mono ?_
    rintro r w3 ⟨rfl, hb⟩
    have HB3 := Lib.hid (HB2.out.call hb)
    clear hb
    go_wp2_with fail
    with_reducible refine (H4.out _).mono ?_
    rintro r w4 ⟨rfl, hb⟩
    have HB4 := Lib.hid (HB3.out.call hb)
    clear hb
    go_wp2_with fail
    with_reducible refine (H5.out _).mono ?_
    rintro r w5 ⟨rfl, hb⟩
    have HB5 := Lib.hid (HB4.out.call hb)
    clear hb
    go_wp2_with fail
    with_reducible refine (H6.out _).mono ?_
    rintro r w6 ⟨rfl, hb⟩
    have HB6 := Lib.hid (HB5.out.call hb)
    clear hb
    go_wp2_with fail
    refine (awake_any _).mono ?_
    rintro r w7 ⟨rfl, hb⟩
    have HB7 := Lib.hid (HB6.out.call hb)
    clear hb
    go_wp2_with fail
    go_ret
    exact ⟨rfl, HB7.out⟩

end Go.Proofs.Ytaafkkmcpedeaaa
