/- The walk of SpanBack. -/
import Derived.Test.YtmbbjpfhdijmbaaDoorSpnLaw
namespace Go.Proofs.YtmbbjpfhdijmbaaDoor.Spn
open Go.RowKit

theorem tm_in {n m : Int} (hm : 0 < m) : -m < n.tmod m ∧ n.tmod m < m := by
  have h1 := Int.tmod_lt_of_pos n hm
  have h2 := Int.lt_tmod_of_pos n hm
  omega
/-- A span that is printed and parsed. -/
theorem round_p {k : Int} (k0 : -maxS ≤ k) (k1 : k ≤ maxS) : ∃ t : ByteArray, t.size ≤ 42 ∧ t.toList.isEmpty = false ∧ (∀ w, PTab w → Calls Tryd.prog 12 #[.int .i64 k] w fun r w' => r = .returned (.tuple #[.string t, .int .i64 0]) ∧ Below w.heap.size w w') ∧
    (∀ w, Calls Tryd.prog 8 #[.string t] w fun r w' => r = .returned (.tuple #[.int .i64 k, .int .i64 0]) ∧ Below w.heap.size w w') := by
  obtain ⟨e1, e2⟩ := pr_ok k0 k1
  obtain ⟨f1, f2⟩ := pa_back k0 k1
  obtain ⟨l1, l2⟩ := pr_len k0 k1
  refine ⟨⟨(prT k).toArray⟩, by rw [size_mk]; exact l1, by rw [isE_mk]; simpa using l2, fun w hw => ?_, fun w => ?_⟩
  · have h := print_any k w hw
    rwa [e1, e2] at h
  · have h := parse_l (prT k) (by omega) w
    rwa [f1, f2] at h
/-- An offset that is printed and parsed. -/
theorem round_o {k : Int} (k0 : -86399 ≤ k) (k1 : k ≤ 86399) : ∃ t : ByteArray, t.size ≤ 42 ∧ t.toList.isEmpty = false ∧ (∀ w, Calls Tryd.prog 16 #[.int .i64 k] w fun r w' => r = .returned (.tuple #[.string t, .int .i64 0]) ∧ w = w') ∧
    (∀ w, Calls Tryd.prog 10 #[.string t] w fun r w' => r = .returned (.tuple #[.int .i64 k, .int .i64 0]) ∧ Below w.heap.size w w') := by
  obtain ⟨e1, e2⟩ := po_ok k0 k1
  obtain ⟨f1, f2⟩ := of_back k0 k1
  obtain ⟨l1, l2⟩ := po_len k
  refine ⟨⟨(poT k).toArray⟩, by rw [size_mk]; omega, by rw [isE_mk]; simpa using l2, fun w => ?_, fun w => ?_⟩
  · have h := poff_any k w
    rwa [e1, e2] at h
  · have h := poffset_l (poT k) (by omega) w
    rwa [f1, f2] at h

theorem walk_back (n off : Int) (s : ByteArray) (w : World) (hT : PTab w) :
    Calls Tryd.prog 5 #[.int .i64 n, .int .i32 off, .string s] w fun r w' => r = .returned (.bool true) ∧ Below w.heap.size w w' := by
  have HT := Lib.hid hT
  clear hT
  have HA := Lib.hid (fun W hW => awake_any W hW)
  by_cases h : (60 : Int) < s.size
  · go_enter Tryd.func5, Tryd.ntmps5
    go_wp2_with (go_at_call 7; with_reducible refine (HA.out _ HT.out).mono ?_; rintro e w1 ⟨rfl, hb⟩; have B1 := Lib.hid hb; clear hb)
    go_ret
    exact ⟨rfl, B1.out⟩
  · have hs : s.size ≤ 60 := by omega
    obtain ⟨k0, k1⟩ := tm_in (n := n) (m := 86399913601) (by omega)
    obtain ⟨o0, o1⟩ := tm_in (n := off) (m := 86400) (by omega)
    generalize hk : n.tmod 86399913601 = k at *
    generalize ho : off.tmod 86400 = o at *
    obtain ⟨t, tz, te, P1, P2⟩ := round_p (k := k) (by unfold maxS; omega) (by unfold maxS; omega)
    obtain ⟨u, uz, ue, Q1, Q2⟩ := round_o (k := o) (by omega) (by omega)
    have H1 := Lib.hid P1
    have H2 := Lib.hid P2
    have H3 := Lib.hid Q1
    have H4 := Lib.hid Q2
    clear P1 P2 Q1 Q2
    have H5 := Lib.hid (fun W => parse_s s hs W)
    have t1 : (k != k) = false := by simp
    have t2 : (o != o) = false := by simp
    by_cases hp : paE s.data.toList = 0
    · obtain ⟨x0, x1⟩ := paV_in s.data.toList
      rw [hp] at H5
      obtain ⟨t', tz', te', P1, P2⟩ := round_p x0 x1
      have H6 := Lib.hid P1
      have H7 := Lib.hid P2
      clear P1 P2 hp te' x0 x1
      generalize paV s.data.toList = x at *
      have t3 : (x == x) = true := by simp
      go_enter Tryd.func5, Tryd.ntmps5
      go_wp2_with (first
        | (go_at_call 12; with_reducible refine (H1.out _ HT.out).mono ?_; rintro e w1 ⟨rfl, hb⟩; have B1 := Lib.hid ((Bl.refl w).call hb); clear hb)
        | (go_at_call 8; with_reducible refine (H2.out _).mono ?_; rintro e w2 ⟨rfl, hb⟩; have B2 := Lib.hid (B1.out.call hb); clear hb)
        | (go_at_call 16; with_reducible refine (H3.out _).mono ?_; rintro e w0 ⟨rfl, rfl⟩)
        | (go_at_call 10; with_reducible refine (H4.out _).mono ?_; rintro e w3 ⟨rfl, hb⟩; have B3 := Lib.hid (B2.out.call hb); clear hb)
        | (go_at_call 8; with_reducible refine (H5.out _).mono ?_; rintro e w4 ⟨rfl, hb⟩; have B4 := Lib.hid (B3.out.call hb); clear hb)
        | (go_at_call 12; with_reducible refine (H6.out _ (B4.out.tab HT.out)).mono ?_; rintro e w5 ⟨rfl, hb⟩; have B5 := Lib.hid (B4.out.call hb); clear hb)
        | (go_at_call 8; with_reducible refine (H7.out _).mono ?_; rintro e w6 ⟨rfl, hb⟩; have B6 := Lib.hid (B5.out.call hb); clear hb)
        | (go_at_call 7; with_reducible refine (HA.out _ (B6.out.tab HT.out)).mono ?_; rintro e w7 ⟨rfl, hb⟩; have B7 := Lib.hid (B6.out.call hb); clear hb))
      go_ret
      exact ⟨rfl, B7.out.below⟩
    · rw [paV_not hp] at H5
      have t3 : (paE s.data.toList != 0) = true := by simp [hp]
      clear hp
      generalize paE s.data.toList = e at *
      go_enter Tryd.func5, Tryd.ntmps5
      go_wp2_with (first
        | (go_at_call 12; with_reducible refine (H1.out _ HT.out).mono ?_; rintro e w1 ⟨rfl, hb⟩; have B1 := Lib.hid ((Bl.refl w).call hb); clear hb)
        | (go_at_call 8; with_reducible refine (H2.out _).mono ?_; rintro e w2 ⟨rfl, hb⟩; have B2 := Lib.hid (B1.out.call hb); clear hb)
        | (go_at_call 16; with_reducible refine (H3.out _).mono ?_; rintro e w0 ⟨rfl, rfl⟩)
        | (go_at_call 10; with_reducible refine (H4.out _).mono ?_; rintro e w3 ⟨rfl, hb⟩; have B3 := Lib.hid (B2.out.call hb); clear hb)
        | (go_at_call 8; with_reducible refine (H5.out _).mono ?_; rintro e w4 ⟨rfl, hb⟩; have B4 := Lib.hid (B3.out.call hb); clear hb)
        | (go_at_call 7; with_reducible refine (HA.out _ (B4.out.tab HT.out)).mono ?_; rintro e w5 ⟨rfl, hb⟩; have B5 := Lib.hid (B4.out.call hb); clear hb))
      go_ret
      exact ⟨rfl, B5.out.below⟩
end Go.Proofs.YtmbbjpfhdijmbaaDoor.Spn
