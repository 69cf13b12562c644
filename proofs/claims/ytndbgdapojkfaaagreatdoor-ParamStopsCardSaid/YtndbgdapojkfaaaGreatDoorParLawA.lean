/- The walks of ParamParses and ParamStops. -/
import Derived.Test.YtndbgdapojkfaaaGreatDoorParAw
set_option linter.unusedVariables false
namespace Go.Proofs.YtndbgdapojkfaaaGreatDoor.Par
open Go.RowKit Go.Deep Go.Proofs.YtndbgdapojkfaaaGreatDoor.Byt Go.Proofs.YtndbgdapojkfaaaGreatDoor.Utf Go.Proofs.YtndbgdapojkfaaaGreatDoor.Tre Go.Proofs.YtndbgdapojkfaaaGreatDoor.Txt Go.Proofs.YtndbgdapojkfaaaGreatDoor.Ero

set_option maxRecDepth 20000 in
set_option maxHeartbeats 2000000 in
theorem walk_parses (s : ByteArray) (w : World) (hT : Flt.ETab w) : Calls Tryz.prog 3 #[.string s] w fun r w' => r = .returned (.bool true) ∧ Below w.heap.size w w' := by
  have HT := Lib.hid hT
  have HA := Lib.hid (fun W hW => awake_any W hW)
  clear hT
  by_cases hn : (500 : Int) < s.size
  · go_enter Tryz.func3, Tryz.ntmps3
    go_wp2_with (go_at_call 7; with_reducible refine (HA.out _ HT.out).mono ?_; rintro r w1 ⟨rfl, hb⟩; have B1 := Lib.hid hb; clear hb)
    go_ret
    exact ⟨rfl, B1.out⟩
  have hs : s.size ≤ 500 := by omega
  have hsm := prs_sm s.data.toList
  have hpl := prs_place s.data.toList
  rw [len_list] at hpl
  have hno := prs_no (L := s.data.toList)
  rcases hx : prs s.data.toList [] with ⟨ps, m, e⟩
  rw [hx] at hsm hpl hno
  replace hsm : SmA ps := hsm
  have hpl' : m ≤ s.size := hpl
  have H2 := Lib.hid (fun W => rp_any (by omega) hx W)
  have HS := Lib.hid (fun a b c d W h1 h2 => rsame_self ps hsm a b c d W h1 h2)
  have HK := Lib.hid (fun a c W h => back_any ps (by have := hsm.1; omega) a c W h)
  by_cases he : e = 0
  · subst he
    have H1 := Lib.hid (fun W => pp_ok (by omega) hx W)
    have HC := Lib.hid (fun W hT => code_any (Ee.none W 0) hT)
    clear hno hsm hx hpl
    generalize ps.length = n at *
    have qm : ((m : Int) == m) = true := by simp
    go_enter Tryz.func3, Tryz.ntmps3
    go_wp2_with (first
      | (go_at_call 8; with_reducible refine (H1.out _).mono ?_; rintro r w1 ⟨a1, c1, rfl, _, hr, hb⟩; have R1 := Lib.hid hr; have B1 := Lib.hid ((Bl.refl w).call hb); clear hr hb)
      | (go_at_call 9; with_reducible refine (H2.out _).mono ?_; rintro r w2 ⟨a2, c2, rfl, _, hr, hb⟩; have R2 := Lib.hid (R1.out.call hb); have S2 := Lib.hid hr; have B2 := Lib.hid (B1.out.call hb); clear hr hb)
      | (go_at_call 11; with_reducible refine (HK.out _ _ _ R2.out).mono ?_; rintro r w3 ⟨a3, c3, rfl, _, hr, hb⟩; have R3 := Lib.hid hr; have S3 := Lib.hid (S2.out.call hb); have B3 := Lib.hid (B2.out.call hb); clear hr hb)
      | (go_at_call 10; with_reducible refine (HS.out _ _ _ _ _ R3.out S3.out).mono ?_; rintro r w4 ⟨rfl, hb⟩; have B4 := Lib.hid (B3.out.call hb); clear hb)
      | (go_at_call 12; with_reducible refine (HC.out _ (HT.out.call B4.out.below)).mono ?_; rintro r w5 ⟨rfl, hb⟩; have B5 := Lib.hid (B4.out.call hb); clear hb)
      | (go_at_call 7; with_reducible refine (HA.out _ (HT.out.call B5.out.below)).mono ?_; rintro r w6 ⟨rfl, hb⟩; have B6 := Lib.hid (B5.out.call hb); clear hb))
    go_ret
    exact ⟨rfl, B6.out.below⟩
  · obtain rfl : ps = [] := hno he
    have H1 : Hid (∀ W, Calls Tryz.prog 8 #[.string s] W fun r w' => ∃ a c ev, r = .returned (.tuple #[.slice a 0 c, .int .i64 0, ev]) ∧ Rd w' (psD 46 []) (.slice a 0 c) ∧ Ee w' e m ev ∧ Below W.heap.size W w') := Lib.hid (fun W => pp_no (by omega) he hx W)
    have H2' : Hid (∀ W, Calls Tryz.prog 9 #[.string s] W fun r w' => ∃ a c, r = .returned (.tuple #[.slice a 0 c, .int .i64 m, .int .i64 e]) ∧ ((0 : Nat) : Int) ≤ c ∧ Rd w' (psD 49 []) (.slice a 0 c) ∧ Below W.heap.size W w') := H2
    have HK' : Hid (∀ a c W, Rd W (psD 46 []) (.slice a 0 c) → Calls Tryz.prog 11 #[.slice a 0 c] W fun r w' => ∃ a' c', r = .returned (.slice a' 0 c') ∧ ((0 : Nat) : Int) ≤ c' ∧ Rd w' (psD 49 []) (.slice a' 0 c') ∧ Below W.heap.size W w') := HK
    have HS' : Hid (∀ a b c d W, Rd W (psD 49 []) (.slice a 0 c) → Rd W (psD 49 []) (.slice b 0 d) → Calls Tryz.prog 10 #[.slice a 0 c, .slice b 0 d] W fun r w' => r = .returned (.bool true) ∧ Below W.heap.size W w') := HS
    clear H2 HK HS
    have HC := Lib.hid (fun W v (h : Ee W e m v) hT => code_any h hT)
    have HP := Lib.hid (fun W v (h : Ee W e m v) hT => place_any h hT (fun h => absurd h he) (by omega) (by omega))
    have e0 : (e == 0) = false := by rw [beq_eq_false_iff_ne]; exact he
    have e1 : (e != 0) = true := by simpa using he
    have e2 : (e != e) = false := by simp
    have qm : ((m : Int) == m) = true := by simp
    clear hno hsm hx hpl
    go_enter Tryz.func3, Tryz.ntmps3
    go_wp2_with (first
      | (go_at_call 8; with_reducible refine (H1.out _).mono ?_; rintro r w1 ⟨a1, c1, v1, rfl, hr, hE, hb⟩; have R1 := Lib.hid hr; have E1 := Lib.hid hE; have B1 := Lib.hid ((Bl.refl w).call hb); have z1 := fun W => hE.eql W; have y1 := fun o W => hE.ask o W; clear hr hE hb)
      | (go_at_call 9; with_reducible refine (H2'.out _).mono ?_; rintro r w2 ⟨a2, c2, rfl, _, hr, hb⟩; have R2 := Lib.hid (R1.out.call hb); have E2 := Lib.hid (E1.out.call hb); have S2 := Lib.hid hr; have B2 := Lib.hid (B1.out.call hb); clear hr hb)
      | (go_at_call 11; with_reducible refine (HK'.out _ _ _ R2.out).mono ?_; rintro r w3 ⟨a3, c3, rfl, _, hr, hb⟩; have R3 := Lib.hid hr; have S3 := Lib.hid (S2.out.call hb); have E3 := Lib.hid (E2.out.call hb); have B3 := Lib.hid (B2.out.call hb); clear hr hb)
      | (go_at_call 10; with_reducible refine (HS'.out _ _ _ _ _ R3.out S3.out).mono ?_; rintro r w4 ⟨rfl, hb⟩; have E4 := Lib.hid (E3.out.call hb); have B4 := Lib.hid (B3.out.call hb); clear hb)
      | (go_at_call 12; with_reducible refine (HC.out _ _ E4.out (HT.out.call B4.out.below)).mono ?_; rintro r w5 ⟨rfl, hb⟩; have E5 := Lib.hid (E4.out.call hb); have B5 := Lib.hid (B4.out.call hb); clear hb)
      | (go_at_call 13; with_reducible refine (HP.out _ _ E5.out (HT.out.call B5.out.below)).mono ?_; rintro r w6 ⟨rfl, hb⟩; have B6 := Lib.hid (B5.out.call hb); clear hb)
      | (go_at_call 7; with_reducible refine (HA.out _ (HT.out.call B6.out.below)).mono ?_; rintro r w7 ⟨rfl, hb⟩; have B7 := Lib.hid (B6.out.call hb); clear hb))
    go_ret
    exact ⟨rfl, B7.out.below⟩
/-- The parameters' text, a colon, and more. -/
theorem front_list (s more : ByteArray) (m : Nat) : (s.extract 0 m ++ ByteArray.mk #[58] ++ more).data.toList = s.data.toList.take m ++ 58 :: more.data.toList := by
  rw [list_app, list_app]
  simp
set_option maxRecDepth 20000 in
set_option maxHeartbeats 2000000 in
theorem walk_stops (s more : ByteArray) (w : World) (hT : Flt.ETab w) : Calls Tryz.prog 6 #[.string s, .string more] w fun r w' => r = .returned (.bool true) ∧ Below w.heap.size w w' := by
  have HT := Lib.hid hT
  have HA := Lib.hid (fun W hW => awake_any W hW)
  clear hT
  by_cases hn : (300 : Int) < s.size
  · go_enter Tryz.func6, Tryz.ntmps6
    go_wp2_with (go_at_call 7; with_reducible refine (HA.out _ HT.out).mono ?_; rintro r w1 ⟨rfl, hb⟩; have B1 := Lib.hid hb; clear hb)
    go_ret
    exact ⟨rfl, B1.out⟩
  by_cases hn2 : (300 : Int) < more.size
  · go_enter Tryz.func6, Tryz.ntmps6
    go_wp2_with (go_at_call 7; with_reducible refine (HA.out _ HT.out).mono ?_; rintro r w1 ⟨rfl, hb⟩; have B1 := Lib.hid hb; clear hb)
    go_ret
    exact ⟨rfl, B1.out⟩
  have hs : s.size ≤ 300 := by omega
  have hm : more.size ≤ 300 := by omega
  have hsm := prs_sm s.data.toList
  have hno := prs_no (L := s.data.toList)
  rcases hx : prs s.data.toList [] with ⟨ps, m, e⟩
  rw [hx] at hsm hno
  by_cases he : e = 0
  · subst he
    have H1 := Lib.hid (fun W => pp_ok (by omega) hx W)
    obtain ⟨m1, m2, m3, m4⟩ := prs_ends hx
    rw [len_list] at m1 m3
    have hz : (s.extract 0 m ++ ByteArray.mk #[58] ++ more).size ≤ 700 := by rw [ByteArray.size_append, ByteArray.size_append, ByteArray.size_extract]; show _ + 1 + _ ≤ _; omega
    have H2 := Lib.hid (fun W => pp_ok (s := s.extract 0 m ++ ByteArray.mk #[58] ++ more) (by omega) (by rw [front_list]; exact m4 _) W)
    have HS := Lib.hid (fun a b c d W h1 h2 => psame_self ps hsm a b c d W h1 h2)
    have hm' : (m : Int) ≤ s.size := by omega
    have qm : ((m : Int) == m) = true := by simp
    have hx1 : (s.extract 0 m).size ≤ 300 := by rw [ByteArray.size_extract]; omega
    clear hno hsm hx m4
    by_cases h0 : m = 0
    · have hps := congrArg List.length (m2 h0)
      rw [List.length_nil] at hps
      have n0 : ((m : Int) == 0) = true := by rw [beq_iff_eq]; omega
      have n1 : ¬ (0 : Int) < m := by omega
      have n2 : ¬ (0 : Int) < ps.length := by omega
      clear m1 m2 m3 hps h0
      generalize ps.length = n at *
      go_enter Tryz.func6, Tryz.ntmps6
      go_wp2_with (first
        | (go_at_call 8; with_reducible refine (H1.out _).mono ?_; rintro r w1 ⟨a1, c1, rfl, _, hr, hb⟩; have R1 := Lib.hid hr; have B1 := Lib.hid ((Bl.refl w).call hb); clear hr hb)
        | (go_at_call 8; with_reducible refine (H2.out _).mono ?_; rintro r w2 ⟨a2, c2, rfl, _, hr, hb⟩; have R2 := Lib.hid (R1.out.call hb); have S2 := Lib.hid hr; have B2 := Lib.hid (B1.out.call hb); clear hr hb)
        | (go_at_call 24; with_reducible refine (HS.out _ _ _ _ _ R2.out S2.out).mono ?_; rintro r w3 ⟨rfl, hb⟩; have B3 := Lib.hid (B2.out.call hb); clear hb)
        | (go_at_call 7; with_reducible refine (HA.out _ (HT.out.call B3.out.below)).mono ?_; rintro r w4 ⟨rfl, hb⟩; have B4 := Lib.hid (B3.out.call hb); clear hb))
      all_goals
        go_ret
        exact ⟨rfl, B4.out.below⟩
    · have n0 : ((m : Int) == 0) = false := by rw [beq_eq_false_iff_ne]; omega
      have n1 : (0 : Int) < m := by omega
      generalize ps.length = n at *
      by_cases hl : m < s.size
      · have hl' : (m : Int) < s.size := by omega
        have h58 := m3 (by omega) hl
        rw [at_get hl] at h58
        have t58 : (((s[m]'hl).toNat : Int) != 58) = false := by simp; omega
        clear m2 m3 h58
        go_enter Tryz.func6, Tryz.ntmps6
        go_wp2_with (first
          | (go_at_call 8; with_reducible refine (H1.out _).mono ?_; rintro r w1 ⟨a1, c1, rfl, _, hr, hb⟩; have R1 := Lib.hid hr; have B1 := Lib.hid ((Bl.refl w).call hb); clear hr hb)
          | (go_at_call 8; with_reducible refine (H2.out _).mono ?_; rintro r w2 ⟨a2, c2, rfl, _, hr, hb⟩; have R2 := Lib.hid (R1.out.call hb); have S2 := Lib.hid hr; have B2 := Lib.hid (B1.out.call hb); clear hr hb)
          | (go_at_call 24; with_reducible refine (HS.out _ _ _ _ _ R2.out S2.out).mono ?_; rintro r w3 ⟨rfl, hb⟩; have B3 := Lib.hid (B2.out.call hb); clear hb)
          | (go_at_call 7; with_reducible refine (HA.out _ (HT.out.call B3.out.below)).mono ?_; rintro r w4 ⟨rfl, hb⟩; have B4 := Lib.hid (B3.out.call hb); clear hb))
        go_ret
        exact ⟨rfl, B4.out.below⟩
      · have hl' : ¬ (m : Int) < s.size := by omega
        clear m1 m2 m3 hl
        go_enter Tryz.func6, Tryz.ntmps6
        go_wp2_with (first
          | (go_at_call 8; with_reducible refine (H1.out _).mono ?_; rintro r w1 ⟨a1, c1, rfl, _, hr, hb⟩; have R1 := Lib.hid hr; have B1 := Lib.hid ((Bl.refl w).call hb); clear hr hb)
          | (go_at_call 8; with_reducible refine (H2.out _).mono ?_; rintro r w2 ⟨a2, c2, rfl, _, hr, hb⟩; have R2 := Lib.hid (R1.out.call hb); have S2 := Lib.hid hr; have B2 := Lib.hid (B1.out.call hb); clear hr hb)
          | (go_at_call 24; with_reducible refine (HS.out _ _ _ _ _ R2.out S2.out).mono ?_; rintro r w3 ⟨rfl, hb⟩; have B3 := Lib.hid (B2.out.call hb); clear hb)
          | (go_at_call 7; with_reducible refine (HA.out _ (HT.out.call B3.out.below)).mono ?_; rintro r w4 ⟨rfl, hb⟩; have B4 := Lib.hid (B3.out.call hb); clear hb))
        go_ret
        exact ⟨rfl, B4.out.below⟩
  · obtain rfl : ps = [] := hno he
    have H1 := Lib.hid (fun W => pp_no (by omega) he hx W)
    have e1 : (e != 0) = true := by simpa using he
    clear hno hsm hx
    go_enter Tryz.func6, Tryz.ntmps6
    go_wp2_with (first
      | (go_at_call 8; with_reducible refine (H1.out _).mono ?_; rintro r w1 ⟨a1, c1, v1, rfl, hr, hE, hb⟩; have B1 := Lib.hid ((Bl.refl w).call hb); have z1 := fun W => hE.neq W; have y1 := fun o W => hE.asks o W; clear hr hE hb)
      | (go_at_call 7; with_reducible refine (HA.out _ (HT.out.call B1.out.below)).mono ?_; rintro r w2 ⟨rfl, hb⟩; have B2 := Lib.hid (B1.out.call hb); clear hb))
    go_ret
    exact ⟨rfl, B2.out.below⟩
end Go.Proofs.YtndbgdapojkfaaaGreatDoor.Par
