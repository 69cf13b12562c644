/- The walk of SheetBack. -/
import Derived.Test.YtaafkkmcpedeaaaBackP
import Derived.Test.YtaafkkmcpedeaaaAwake
import Derived.Test.YtaafkkmcpedeaaaDiskSame
namespace Go.Proofs.Ytaafkkmcpedeaaa
open Go.RowKit Go.Proofs.Ytaafkkmcpedeaaa.Oct

theorem zeros_yes (s : ByteArray) (w : World) (hs : s.size ≤ 52) (h : ∀ i, (hi : i < s.size) → s[i] = 0) :
    Calls Try.prog 16 #[.string s] w fun e w' => e = .returned (.bool true) ∧ w = w' := by
  have H := Lib.hid h
  clear h
  go_enter Try.func16, Try.ntmps16
  go_wp2_with fail
  go_loop [3] (fun i => ∃ k : Nat, k ≤ s.size ∧ i = .int .i64 k) (fun i => s.size - (intOf i).toNat)
  case atStart => exact ⟨0, by omega, rfl⟩
  case round =>
    obtain ⟨k, hk, rfl⟩ := hrel
    by_cases hlt : k < s.size
    · have hz := H.out k hlt
      go_wp2
      go_round
      case rel => exact ⟨k + 1, by omega, by go_num⟩
      case measure => simp [intOf]; omega
    · obtain rfl : k = s.size := by omega
      go_wp2
      go_ret
      exact ⟨rfl, rfl⟩

theorem zeros_rep (k : Nat) (w : World) (hk : k ≤ 52) : Calls Try.prog 16 #[.string ⟨(List.replicate k 0).toArray⟩] w fun e w' => e = .returned (.bool true) ∧ w = w' :=
  zeros_yes _ w (by rw [rep_size]; exact hk) (fun i hi => by
    show (List.replicate k (0 : UInt8)).toArray[i]'_ = 0
    simp)

set_option maxRecDepth 20000 in
theorem walk_back (z : Int) (a b : ByteArray) (w : World) (h0 : 0 ≤ z) (h1 : z ≤ 4294967295) :
    Calls Try.prog 5 #[.int .u32 z, .string a, .string b] w fun e w' => e = .returned (.bool true) ∧ Below w.heap.size w w' := by
  by_cases hla : (52 : Int) < a.size
  · go_enter Try.func5, Try.ntmps5
    go_wp2_with (go_at_call 7; refine (awake_any _).mono ?_; rintro e w' ⟨rfl, hb⟩)
    go_ret
    exact ⟨rfl, hb⟩
  by_cases hlb : (52 : Int) < b.size
  · have d1 : decide ((52 : Int) < a.size) = false := decide_eq_false hla
    go_enter Try.func5, Try.ntmps5
    go_wp2_with (go_at_call 7; refine (awake_any _).mono ?_; rintro e w' ⟨rfl, hb⟩)
    go_ret
    exact ⟨rfl, hb⟩
  have d1 : decide ((52 : Int) < a.size) = false := decide_eq_false hla
  have d2 : decide ((52 : Int) < b.size) = false := decide_eq_false hlb
  obtain ⟨n, rfl⟩ := Int.eq_ofNat_of_zero_le h0
  have sa : a.size ≤ 52 := by omega
  have sb : b.size ≤ 52 := by omega
  have H1 := Lib.hid (fun W => seal_ok (n + 1) a W (by omega) (by omega) sa)
  have H2 := Lib.hid (fun W => seal_ok (n + 1) b W (by omega) (by omega) sb)
  have H3 := Lib.hid (fun W => open_any (sheetB (n + 1) a) W)
  have H4 := Lib.hid (fun W => open_any (sheetB (n + 1) b) W)
  have H5 := Lib.hid (fun W => top_any (sheetB (n + 1) a) W)
  rw [open_sheet (n + 1) a (by omega) (by omega) sa] at H3
  rw [open_sheet (n + 1) b (by omega) (by omega) sb] at H4
  rw [top_sheet (n + 1) a (by omega) sa] at H5
  have H6 := Lib.hid (fun W => zeros_rep (52 - a.size) W (by omega))
  have H7 := Lib.hid (fun W => zeros_rep (52 - b.size) W (by omega))
  rw [← body_rest] at H6 H7
  have z1 := bodyB_size a sa
  have z2 := bodyB_size b sb
  have f1 := body_front a
  have f2 := body_front b
  have hs := sheet_same (n + 1) a b
  have eA : (⟨(sealB (n + 1) a).toArray⟩ : ByteArray) = sheetB (n + 1) a := rfl
  have eB : (⟨(sealB (n + 1) b).toArray⟩ : ByteArray) = sheetB (n + 1) b := rfl
  rw [eA] at H1
  rw [eB] at H2
  generalize sheetB (n + 1) a = S at *
  generalize sheetB (n + 1) b = T at *
  generalize bodyB a = x at *
  generalize bodyB b = y at *
  rw [show ((n + 1 : Nat) : Int) = 1 + (n : Int) from by omega] at H1 H2 H3 H4 H5
  go_enter Try.func5, Try.ntmps5
  go_wp2_with fail
  have q1 : (0 : Int) ≤ a.size := by omega
  have q2 : (a.size : Int) ≤ 52 := by omega
  have q3 : (b.size : Int) ≤ 52 := by omega
  clear eA eB h0 h1 sa sb hla hlb
  with_reducible refine (H1.out _).mono ?_
  rintro r w1 ⟨rfl, hb⟩
  have HB1 := Lib.hid hb
  clear hb
  go_wp2_with fail
  with_reducible refine (H2.out _).mono ?_
  rintro r w2 ⟨rfl, hb⟩
  have HB2 := Lib.hid (HB1.out.call hb)
  clear hb
  go_wp2_with fail
  with_reducible refine (H3.out _).mono ?_
  rintro r w3 ⟨rfl, hb⟩
  have HB3 := Lib.hid (HB2.out.call hb)
  clear hb
  go_wp2_with fail
  with_reducible refine (H4.out _).mono ?_
  rintro r w4 ⟨rfl, hb⟩
  have HB4 := Lib.hid (HB3.out.call hb)
  clear hb
  go_wp2_with fail
  with_reducible refine (H5.out _).mono ?_
  rintro r w5 ⟨rfl, hb⟩
  have HB5 := Lib.hid (HB4.out.call hb)
  clear hb
  go_wp2_with fail
  with_reducible refine (H6.out _).mono ?_
  rintro r w6 ⟨rfl, rfl⟩
  go_wp2_with fail
  with_reducible refine (H7.out _).mono ?_
  rintro r w7 ⟨rfl, rfl⟩
  go_wp2_with fail
  · refine (awake_any _).mono ?_
    rintro r w8 ⟨rfl, hb⟩
    have HB8 := Lib.hid (HB5.out.call hb)
    clear hb
    go_wp2_with fail
    go_ret
    exact ⟨rfl, HB8.out⟩
  · rename_i hne
    refine absurd ?_ hne
    by_cases he : x = y
    · rw [he, hs.2 he, Dsk.str_eq, Dsk.str_eq]
    · rw [Dsk.str_ne he, Dsk.str_ne (fun h => he (hs.1 h))]

end Go.Proofs.Ytaafkkmcpedeaaa
