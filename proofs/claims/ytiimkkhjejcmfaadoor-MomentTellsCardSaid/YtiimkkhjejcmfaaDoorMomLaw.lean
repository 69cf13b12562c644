/- The walks of MomentParses and of MomentBack. -/
import Derived.Test.YtiimkkhjejcmfaaDoorMomAw
import Derived.Test.YtiimkkhjejcmfaaDoorMomRPar
namespace Go.Proofs.YtiimkkhjejcmfaaDoor.Mom
open Go.RowKit Civ

theorem walk_parses (s : ByteArray) (w : World) (hT : CTab w) :
    Calls Tryd.prog 3 #[.string s] w fun r w' => r = .returned (.bool true) ∧ Below w.heap.size w w' := by
  have HT := Lib.hid hT
  clear hT
  have HA := Lib.hid (fun W hW => awake_any W hW)
  by_cases h : (40 : Int) < s.size
  · go_enter Tryd.func3, Tryd.ntmps3
    go_wp2_with (go_at_call 7; with_reducible refine (HA.out _ HT.out).mono ?_; rintro e w1 ⟨rfl, hb⟩; have B1 := Lib.hid hb; clear hb)
    go_ret
    exact ⟨rfl, B1.out⟩
  · have H1 := Lib.hid (fun W hW => parse_any s W hW)
    have H2 := Lib.hid (fun W => rparse_any s W)
    generalize paK s.data.toList = k at *
    generalize paS s.data.toList = z at *
    generalize paE s.data.toList = e at *
    have t1 : (k == k) = true := by simp
    have t2 : (z == z) = true := by simp
    have t3 : (e == e) = true := by simp
    go_enter Tryd.func3, Tryd.ntmps3
    go_wp2_with (first
      | (go_at_call 8; with_reducible refine (H1.out _ HT.out).mono ?_; rintro e w1 ⟨rfl, hb⟩; have B1 := Lib.hid ((Bl.refl w).call hb); clear hb)
      | (go_at_call 9; with_reducible refine (H2.out _).mono ?_; rintro e w2 ⟨rfl, hb⟩; have B2 := Lib.hid ((B1.out.alloc _).call hb); have V2 := Lib.hid ((Cel.new w1 k z 24).call hb); clear hb; obtain ⟨v0, v1, vz⟩ := V2.out)
      | (go_at_call 7; with_reducible refine (HA.out _ ((B2.out.alloc _).tab HT.out)).mono ?_; rintro e w3 ⟨rfl, hb⟩; have B3 := Lib.hid ((B2.out.alloc _).call hb); clear hb))
    go_ret
    exact ⟨rfl, B3.out.below⟩

theorem to_list (s : ByteArray) : s.toList = s.data.toList := ByteArray.toList_eq s
/-- A text whose letters are known. -/
theorem mk_list (s : ByteArray) : ByteArray.mk s.data.toList.toArray = s := by
  cases s; simp

theorem at_ok {k s : Int} (h1 : 1 ≤ k) (h2 : k ≤ 3) (h3 : 0 ≤ s) (h4 : s ≤ 315537897599) : atE k s = 0 ∧ atK k s = k ∧ chkA k (atS k s) = 0 := by
  have hE := atE_of (kB_of ⟨h1, h2⟩) (sB_of ⟨h3, h4⟩)
  have hK : atK k s = k := if_pos hE
  have := at_chk (kB_of ⟨h1, h2⟩) (sB_of ⟨h3, h4⟩)
  rw [hK] at this
  exact ⟨hE, hK, this⟩

theorem walk_back (kd sec : Int) (s : ByteArray) (k0 : 0 ≤ kd) (s0 : 0 ≤ sec) (w : World) (hT : CTab w) :
    Calls Tryd.prog 5 #[.int .u8 kd, .int .u64 sec, .string s] w fun r w' => r = .returned (.bool true) ∧ Below w.heap.size w w' := by
  have HT := Lib.hid hT
  clear hT
  have HA := Lib.hid (fun W hW => awake_any W hW)
  by_cases h : (40 : Int) < s.size
  · go_enter Tryd.func5, Tryd.ntmps5
    go_wp2_with (go_at_call 7; with_reducible refine (HA.out _ HT.out).mono ?_; rintro e w1 ⟨rfl, hb⟩; have B1 := Lib.hid hb; clear hb)
    go_ret
    exact ⟨rfl, B1.out⟩
  · have et : kd.tmod 3 = kd % 3 := Int.tmod_eq_emod_of_nonneg k0
    have eu : sec.tmod 315537897600 = sec % 315537897600 := Int.tmod_eq_emod_of_nonneg s0
    have a1 : 1 ≤ 1 + kd % 3 := by omega
    have a2 : 1 + kd % 3 ≤ 3 := by omega
    have a3 : 0 ≤ sec % 315537897600 := by omega
    have a4 : sec % 315537897600 ≤ 315537897599 := by omega
    generalize hk : 1 + kd % 3 = k at *
    generalize hz : sec % 315537897600 = z0 at *
    have HK := Lib.hid hk
    have HZ := Lib.hid hz
    clear hk hz
    obtain ⟨q1, q2, q3⟩ := at_ok a1 a2 a3 a4
    have H1 := Lib.hid (fun W => at_any k z0 W)
    rw [q1, q2] at H1
    clear q1 q2
    generalize atS k z0 = z at *
    have H2 := Lib.hid (fun W hW => print_any k z W hW)
    rw [pr_ok q3, q3] at H2
    obtain ⟨p1, p2, p3⟩ := text_parse q3
    have H3 := Lib.hid (fun W hW => parse_any ⟨(textL k z).toArray⟩ W hW)
    rw [show (ByteArray.mk (textL k z).toArray).data.toList = textL k z by simp, p1, p2, p3] at H3
    have H4 := Lib.hid (fun W => check_any k z W)
    rw [q3] at H4
    have H5 := Lib.hid (fun W hW => parse_any s W hW)
    clear p1 p2 p3 q3
    generalize ByteArray.mk (textL k z).toArray = t at *
    have t1 : (k == k) = true := by simp
    have t2 : (z == z) = true := by simp
    by_cases hp : paE s.data.toList = 0
    · obtain ⟨c1, c2⟩ := parse_text hp
      have H6 := Lib.hid (fun W hW => print_any (paK s.data.toList) (paS s.data.toList) W hW)
      rw [pr_ok c1, c1, c2, mk_list] at H6
      rw [hp] at H5
      clear c1 c2 hp
      generalize paK s.data.toList = xk at *
      generalize paS s.data.toList = xs at *
      have t3 : (s.toList == s.toList) = true := by simp
      go_enter Tryd.func5, Tryd.ntmps5
      have ek : 1 + kd % 3 = k := HK.out
      have ez : sec % 315537897600 = z0 := HZ.out
      go_wp2_with (first
        | (go_at_call 14; with_reducible refine (H1.out _).mono ?_; rintro e w1 ⟨rfl, hb⟩; have B1 := Lib.hid ((Bl.refl w).call hb); clear hb)
        | (go_at_call 10; with_reducible refine (H2.out _ ((B1.out.alloc _).tab HT.out)).mono ?_; rintro e w2 ⟨rfl, hb⟩; have B2 := Lib.hid ((B1.out.alloc _).call hb); have V2 := Lib.hid ((Cel.new w1 k z 24).call hb); clear hb)
        | (go_at_call 8; with_reducible refine (H3.out _ (B2.out.tab HT.out)).mono ?_; rintro e w3 ⟨rfl, hb⟩; have B3 := Lib.hid (B2.out.call hb); have V3 := Lib.hid (V2.out.call hb); clear hb; obtain ⟨v0, v1, vz⟩ := V3.out)
        | (go_at_call 16; with_reducible refine (H4.out _).mono ?_; rintro e w4 ⟨rfl, hb⟩; have B4 := Lib.hid ((B3.out.alloc _).call hb); clear hb v0 v1 vz)
        | (go_at_call 8; with_reducible refine (H5.out _ (B4.out.tab HT.out)).mono ?_; rintro e w5 ⟨rfl, hb⟩; have B5 := Lib.hid (B4.out.call hb); clear hb)
        | (go_at_call 10; with_reducible refine (H6.out _ ((B5.out.alloc _).tab HT.out)).mono ?_; rintro e w6 ⟨rfl, hb⟩; have B6 := Lib.hid ((B5.out.alloc _).call hb); clear hb)
        | (go_at_call 7; with_reducible refine (HA.out _ (B6.out.tab HT.out)).mono ?_; rintro e w7 ⟨rfl, hb⟩; have B7 := Lib.hid (B6.out.call hb); clear hb))
      go_ret
      exact ⟨rfl, B7.out.below⟩
    · rw [paK_not hp, paS_not hp] at H5
      have t3 : (paE s.data.toList != 0) = true := by simp; omega
      clear hp
      generalize paE s.data.toList = xe at *
      go_enter Tryd.func5, Tryd.ntmps5
      have ek : 1 + kd % 3 = k := HK.out
      have ez : sec % 315537897600 = z0 := HZ.out
      go_wp2_with (first
        | (go_at_call 14; with_reducible refine (H1.out _).mono ?_; rintro e w1 ⟨rfl, hb⟩; have B1 := Lib.hid ((Bl.refl w).call hb); clear hb)
        | (go_at_call 10; with_reducible refine (H2.out _ ((B1.out.alloc _).tab HT.out)).mono ?_; rintro e w2 ⟨rfl, hb⟩; have B2 := Lib.hid ((B1.out.alloc _).call hb); have V2 := Lib.hid ((Cel.new w1 k z 24).call hb); clear hb)
        | (go_at_call 8; with_reducible refine (H3.out _ (B2.out.tab HT.out)).mono ?_; rintro e w3 ⟨rfl, hb⟩; have B3 := Lib.hid (B2.out.call hb); have V3 := Lib.hid (V2.out.call hb); clear hb; obtain ⟨v0, v1, vz⟩ := V3.out)
        | (go_at_call 16; with_reducible refine (H4.out _).mono ?_; rintro e w4 ⟨rfl, hb⟩; have B4 := Lib.hid ((B3.out.alloc _).call hb); clear hb v0 v1 vz)
        | (go_at_call 8; with_reducible refine (H5.out _ (B4.out.tab HT.out)).mono ?_; rintro e w5 ⟨rfl, hb⟩; have B5 := Lib.hid (B4.out.call hb); clear hb)
        | (go_at_call 7; with_reducible refine (HA.out _ ((B5.out.alloc _).tab HT.out)).mono ?_; rintro e w7 ⟨rfl, hb⟩; have B7 := Lib.hid ((B5.out.alloc _).call hb); clear hb))
      go_ret
      exact ⟨rfl, B7.out.below⟩
end Go.Proofs.YtiimkkhjejcmfaaDoor.Mom
