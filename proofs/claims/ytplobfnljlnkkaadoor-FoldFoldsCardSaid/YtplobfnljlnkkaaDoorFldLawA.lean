/- The walks of FoldUnfolds and FoldPlaces. -/
import Derived.Test.YtplobfnljlnkkaaDoorFldAw
import Derived.Test.YtplobfnljlnkkaaDoorFldBackP
import Derived.Test.YtplobfnljlnkkaaDoorFldBack
set_option linter.unusedVariables false
namespace Go.Proofs.YtplobfnljlnkkaaDoor.Fld
open Go.RowKit Go.Deep Go.Proofs.YtplobfnljlnkkaaDoor.Byt Go.Proofs.YtplobfnljlnkkaaDoor.Utf Go.Proofs.YtplobfnljlnkkaaDoor.Tre

/-- Unfold, where it finds no error. -/
theorem unf_ok (s : ByteArray) (hs : s.size ≤ 10000) (h0 : (unfR s.data.toList).2.1 = 0) (w : World) : Calls Tryd.prog 9 #[.string s] w fun r w' => ∃ a c, r = .returned (.tuple #[.slice a (unfR s.data.toList).1.length c, .nilIface]) ∧ Rd w' (lsD 46 61 (unfR s.data.toList).1) (.slice a (unfR s.data.toList).1.length c) ∧ Below w.heap.size w w' := by
  refine (unf_any s hs w).mono ?_
  rintro r w' ⟨v, ev, rfl, h1, h2, h3⟩
  obtain ⟨a, c, rfl, _⟩ := lines_at h1
  have : ev = .nilIface := by
    unfold errL at h2
    rw [if_pos h0] at h2
    cases h2 with
    | none => rfl
    | some b l h => cases h
  subst this
  exact ⟨a, c, rfl, h1, h3⟩
/-- Unfold, where it finds an error. -/
theorem unf_err (s : ByteArray) (hs : s.size ≤ 10000) (h0 : (unfR s.data.toList).2.1 ≠ 0) (w : World) : Calls Tryd.prog 9 #[.string s] w fun r w' => ∃ a c b, r = .returned (.tuple #[.slice a (unfR s.data.toList).1.length c, Flt.FV b]) ∧ Rd w' (lsD 46 61 (unfR s.data.toList).1) (.slice a (unfR s.data.toList).1.length c) ∧ Flt.Er w' (unfR s.data.toList).2.1 (Flt.FV b) [(unfR s.data.toList).2.2] ∧ Below w.heap.size w w' := by
  refine (unf_any s hs w).mono ?_
  rintro r w' ⟨v, ev, rfl, h1, h2, h3⟩
  obtain ⟨a, c, rfl, _⟩ := lines_at h1
  unfold errL at h2
  rw [if_neg h0] at h2
  generalize (unfR s.data.toList).2.1 = e at *
  generalize (unfR s.data.toList).2.2 = k at *
  obtain ⟨b, rfl⟩ : ∃ b, ev = Flt.FV b := by
    cases h2 with
    | some b l h => exact ⟨b, rfl⟩
  exact ⟨a, c, b, rfl, h1, h2, h3⟩
theorem runf_sl (s : ByteArray) (hs : s.size ≤ 10000) (w : World) : Calls Tryd.prog 10 #[.string s] w fun r w' => ∃ a c, r = .returned (.tuple #[.slice a (unfR s.data.toList).1.length c, .int .i64 (unfR s.data.toList).2.1, .int .i64 (unfR s.data.toList).2.2]) ∧ Rd w' (lsD 40 60 (unfR s.data.toList).1) (.slice a (unfR s.data.toList).1.length c) ∧ Below w.heap.size w w' := by
  refine (runf_any s hs w).mono ?_
  rintro r w' ⟨v, rfl, h1, h3⟩
  obtain ⟨a, c, rfl, _⟩ := lines_at h1
  exact ⟨a, c, rfl, h1, h3⟩
/-- An error that Unfold answers, as one thing. -/
structure Eu (W : World) (e k : Int) (b : Nat) : Prop where
  er : Flt.Er W e (Flt.FV b) [k]
theorem Eu.call {W W' : World} {e k : Int} {b : Nat} (h : Eu W e k b) (hb : Below W.heap.size W W') : Eu W' e k b := ⟨h.er.call hb⟩

set_option maxRecDepth 20000 in
set_option maxHeartbeats 2000000 in
theorem walk_unfolds (s : ByteArray) (w : World) (hT : Flt.ETab w) : Calls Tryd.prog 3 #[.string s] w fun r w' => r = .returned (.bool true) ∧ Below w.heap.size w w' := by
  have HT := Lib.hid hT
  have HA := Lib.hid (fun W hW => awake_any W hW)
  clear hT
  by_cases hn : (6100 : Int) < s.size
  · go_enter Tryd.func3, Tryd.ntmps3
    go_wp2_with (go_at_call 8; with_reducible refine (HA.out _ HT.out).mono ?_; rintro r w1 ⟨rfl, hb⟩; have B1 := Lib.hid hb; clear hb)
    go_ret
    exact ⟨rfl, B1.out⟩
  have hs : s.size ≤ 10000 := by omega
  have hU := unfR_unf s.data.toList
  have HF := Lib.hid (hU.few (by rw [len_list]; omega))
  have H2 := Lib.hid (fun W => runf_sl s hs W)
  by_cases h0 : (unfR s.data.toList).2.1 = 0
  · have e2 : (unfR s.data.toList).2.2 = 0 := by
      rcases hU.e with ⟨_, h⟩ | ⟨_, h, _⟩ | ⟨_, h, _⟩
      · exact h
      · omega
      · omega
    have H1 := Lib.hid (fun W => unf_ok s hs h0 W)
    rw [h0, e2] at H2
    clear hU h0 e2
    generalize (unfR s.data.toList).1 = ls at *
    have H3 := Lib.hid (fun a c W h => back_any ls HF.out a c W h)
    have H4 := Lib.hid (fun a b c d W h1 h2 => same_any ls HF.out a b c d W h1 h2)
    have H5 := Lib.hid (fun W hT => (Flt.code_any 0 .nilIface [] W hT .none : Calls Tryd.prog 13 #[.nilIface] W fun r w' => r = .returned (.int .i64 0) ∧ Below W.heap.size W w'))
    have H6 := Lib.hid (fun W hT => (Flt.place_any 0 .nilIface [] W hT .none ⟨by decide, by decide⟩ : Calls Tryd.prog 14 #[.nilIface] W fun r w' => r = .returned (.int .i64 0) ∧ Below W.heap.size W w'))
    go_enter Tryd.func3, Tryd.ntmps3
    go_wp2_with (first
      | (go_at_call 9; with_reducible refine (H1.out _).mono ?_; rintro r w1 ⟨a1, c1, rfl, hr, hb⟩; have R1 := Lib.hid hr; have B1 := Lib.hid ((Bl.refl w).call hb); clear hr hb)
      | (go_at_call 10; with_reducible refine (H2.out _).mono ?_; rintro r w2 ⟨a2, c2, rfl, hr, hb⟩; have R2 := Lib.hid hr; have R1' := Lib.hid (R1.out.call hb); have B2 := Lib.hid (B1.out.call hb); clear hr hb)
      | (go_at_call 12; with_reducible refine (H3.out _ _ _ R1'.out).mono ?_; rintro r w3 ⟨a3, c3, rfl, hr, hb⟩; have R3 := Lib.hid hr; have R2' := Lib.hid (R2.out.call hb); have B3 := Lib.hid (B2.out.call hb); clear hr hb)
      | (go_at_call 11; with_reducible refine (H4.out _ _ _ _ _ R3.out R2'.out).mono ?_; rintro r w4 ⟨rfl, hb⟩; have B4 := Lib.hid (B3.out.call hb); clear hb)
      | (go_at_call 13; with_reducible refine (H5.out _ (HT.out.call B4.out.below)).mono ?_; rintro r w5 ⟨rfl, hb⟩; have B5 := Lib.hid (B4.out.call hb); clear hb)
      | (go_at_call 14; with_reducible refine (H6.out _ (HT.out.call B5.out.below)).mono ?_; rintro r w6 ⟨rfl, hb⟩; have B6 := Lib.hid (B5.out.call hb); clear hb)
      | (go_at_call 8; with_reducible refine (HA.out _ (HT.out.call B6.out.below)).mono ?_; rintro r w7 ⟨rfl, hb⟩; have B7 := Lib.hid (B6.out.call hb); clear hb))
    go_ret
    exact ⟨rfl, B7.out.below⟩
  · have H1 := Lib.hid (fun W => unf_err s hs h0 W)
    have hsm : Flt.Sm [(unfR s.data.toList).2.2] := by
      refine ⟨by simp, fun x hx => ?_⟩
      have : x = (unfR s.data.toList).2.2 := by simpa using hx
      have hl := len_list s
      rcases hU.e with ⟨h, _⟩ | ⟨_, _, h1, h2⟩ | ⟨_, _, h⟩ <;> omega
    have HSM := Lib.hid hsm
    clear hU hsm
    generalize (unfR s.data.toList).1 = ls at *
    generalize (unfR s.data.toList).2.1 = e at *
    generalize (unfR s.data.toList).2.2 = k at *
    have t0 : (e == 0) = false := by rw [beq_eq_false_iff_ne]; exact h0
    have te : (e == e) = true := by simp
    have tk : (k == k) = true := by simp
    have H3 := Lib.hid (fun a c W h => back_any ls HF.out a c W h)
    have H4 := Lib.hid (fun a b c d W h1 h2 => same_any ls HF.out a b c d W h1 h2)
    have H5 := Lib.hid (fun b W hT (h : Eu W e k b) => (Flt.code_any e (Flt.FV b) [k] W hT h.er : Calls Tryd.prog 13 #[Flt.FV b] W fun r w' => r = .returned (.int .i64 e) ∧ Below W.heap.size W w'))
    have hsum : [k].sum = k := by simp
    have H6 := Lib.hid (fun b W hT (h : Eu W e k b) => Flt.place_any e (Flt.FV b) [k] W hT h.er HSM.out)
    rw [hsum] at H6
    unfold Flt.FV at H5 H6
    have H1' : Hid (∀ W, Calls Tryd.prog 9 #[.string s] W fun r w' => ∃ a c b, r = .returned (.tuple #[.slice a ls.length c, .iface 64 (.pointer (some ⟨b, 0, none⟩))]) ∧ Rd w' (lsD 46 61 ls) (.slice a ls.length c) ∧ Eu w' e k b ∧ Below W.heap.size W w') := Lib.hid (fun W => (H1.out W).mono (by
      rintro r w' ⟨a, c, b, rfl, h1, h2, h3⟩
      exact ⟨a, c, b, rfl, h1, ⟨h2⟩, h3⟩))
    clear H1 h0 hsum
    go_enter Tryd.func3, Tryd.ntmps3
    go_wp2_with (first
      | (go_at_call 9; with_reducible refine (H1'.out _).mono ?_; rintro r w1 ⟨a1, c1, b1, rfl, hr, he, hb⟩; have E1 := Lib.hid he; have R1 := Lib.hid hr; have B1 := Lib.hid ((Bl.refl w).call hb); clear hr he hb)
      | (go_at_call 10; with_reducible refine (H2.out _).mono ?_; rintro r w2 ⟨a2, c2, rfl, hr, hb⟩; have R2 := Lib.hid hr; have E2 := Lib.hid (E1.out.call hb); have R1' := Lib.hid (R1.out.call hb); have B2 := Lib.hid (B1.out.call hb); clear hr hb)
      | (go_at_call 12; with_reducible refine (H3.out _ _ _ R1'.out).mono ?_; rintro r w3 ⟨a3, c3, rfl, hr, hb⟩; have R3 := Lib.hid hr; have E3 := Lib.hid (E2.out.call hb); have R2' := Lib.hid (R2.out.call hb); have B3 := Lib.hid (B2.out.call hb); clear hr hb)
      | (go_at_call 11; with_reducible refine (H4.out _ _ _ _ _ R3.out R2'.out).mono ?_; rintro r w4 ⟨rfl, hb⟩; have E4 := Lib.hid (E3.out.call hb); have B4 := Lib.hid (B3.out.call hb); clear hb)
      | (go_at_call 13; with_reducible refine (H5.out _ _ (HT.out.call B4.out.below) E4.out).mono ?_; rintro r w5 ⟨rfl, hb⟩; have E5 := Lib.hid (E4.out.call hb); have B5 := Lib.hid (B4.out.call hb); clear hb)
      | (go_at_call 14; with_reducible refine (H6.out _ _ (HT.out.call B5.out.below) E5.out).mono ?_; rintro r w6 ⟨rfl, hb⟩; have B6 := Lib.hid (B5.out.call hb); clear hb)
      | (go_at_call 8; with_reducible refine (HA.out _ (HT.out.call B6.out.below)).mono ?_; rintro r w7 ⟨rfl, hb⟩; have B7 := Lib.hid (B6.out.call hb); clear hb))
    go_ret
    exact ⟨rfl, B7.out.below⟩
end Go.Proofs.YtplobfnljlnkkaaDoor.Fld
