/- The walk of ParamBack. -/
import Derived.Test.YtndbgdapojkfaaaGreatDoorParAw
set_option linter.unusedVariables false
namespace Go.Proofs.YtndbgdapojkfaaaGreatDoor.Par
open Go.RowKit Go.Deep Go.Proofs.YtndbgdapojkfaaaGreatDoor.Byt Go.Proofs.YtndbgdapojkfaaaGreatDoor.Utf Go.Proofs.YtndbgdapojkfaaaGreatDoor.Tre Go.Proofs.YtndbgdapojkfaaaGreatDoor.Txt Go.Proofs.YtndbgdapojkfaaaGreatDoor.Ero

set_option maxRecDepth 20000 in
set_option maxHeartbeats 4000000 in
theorem walk_back (ps : List PP) (a : Option Addr) (c : Nat) (more s : ByteArray) (w : World) (hT : Flt.ETab w) (ha : Rd w (psD 49 ps) (.slice a ps.length c)) : Calls Tryz.prog 5 #[.slice a ps.length c, .string more, .string s] w fun r w' => r = .returned (.bool true) ∧ Below w.heap.size w w' := by
  have HT := Lib.hid hT
  have HR := Lib.hid ha
  have HA := Lib.hid (fun W hW => awake_any W hW)
  have HM := Lib.hid (fun W hW => small_any ps a c W hW)
  clear hT ha
  by_cases hf : FewA ps
  case neg =>
    rw [decide_eq_false hf] at HM
    go_enter Tryz.func5, Tryz.ntmps5
    go_wp2_with (first
      | (go_at_call 14; with_reducible refine (HM.out _ HR.out).mono ?_; rintro r w' ⟨rfl, rfl⟩)
      | (go_at_call 7; with_reducible refine (HA.out _ HT.out).mono ?_; rintro r w1 ⟨rfl, hb⟩; have B1 := Lib.hid hb; clear hb))
    go_ret
    exact ⟨rfl, B1.out⟩
  rw [decide_eq_true hf] at HM
  by_cases hn : (300 : Int) < more.size
  · clear hf
    go_enter Tryz.func5, Tryz.ntmps5
    go_wp2_with (first
      | (go_at_call 14; with_reducible refine (HM.out _ HR.out).mono ?_; rintro r w' ⟨rfl, rfl⟩)
      | (go_at_call 7; with_reducible refine (HA.out _ HT.out).mono ?_; rintro r w1 ⟨rfl, hb⟩; have B1 := Lib.hid hb; clear hb))
    go_ret
    exact ⟨rfl, B1.out⟩
  by_cases hn2 : (300 : Int) < s.size
  · clear hf
    go_enter Tryz.func5, Tryz.ntmps5
    go_wp2_with (first
      | (go_at_call 14; with_reducible refine (HM.out _ HR.out).mono ?_; rintro r w' ⟨rfl, rfl⟩)
      | (go_at_call 7; with_reducible refine (HA.out _ HT.out).mono ?_; rintro r w1 ⟨rfl, hb⟩; have B1 := Lib.hid hb; clear hb))
    go_ret
    exact ⟨rfl, B1.out⟩
  have hm : more.size ≤ 300 := by omega
  have hs : s.size ≤ 300 := by omega
  have hsp := hf.sm
  have HO := Lib.hid (fun a c W h => own_any ps (by have := hsp.1; omega) (fun p hp => by have := (hsp.2 p hp).2.1; omega) a c W h)
  have HS := Lib.hid (fun a b c d W h1 h2 => psame_self ps hsp a b c d W h1 h2)
  have hno := prs_no (L := s.data.toList)
  rcases hx : prs s.data.toList [] with ⟨qs, m, e⟩
  rw [hx] at hno
  have qm : ((m : Int) == m) = true := by simp
  by_cases hc : chkA ps = 0
  · have HP := Lib.hid (fun a c hc' W h => pprt_may ps hc a c hc' W h)
    have hz := prt_size hc
    have hl : (ByteArray.mk (prtA ps).toArray).size = (prtA ps).length := size_mk _
    have hback : prs (ByteArray.mk (prtA ps).toArray ++ ByteArray.mk #[58] ++ more).data.toList [] = (ps, (ByteArray.mk (prtA ps).toArray).size, 0) := by
      rw [hl, list_app, list_app, List.append_assoc]
      exact prs_back hc (by rfl) (by rw [show (ByteArray.mk #[58]).data.toList ++ more.data.toList = 58 :: more.data.toList from rfl, at_cons0]; decide) (by rw [show (ByteArray.mk #[58]).data.toList ++ more.data.toList = 58 :: more.data.toList from rfl, at_cons0]; decide)
    have hzz : (ByteArray.mk (prtA ps).toArray ++ ByteArray.mk #[58] ++ more).size ≤ 5000 := by rw [ByteArray.size_append, ByteArray.size_append, hl]; show _ + 1 + _ ≤ _; omega
    have hzy : (ByteArray.mk (prtA ps).toArray).size ≤ 4584 := by omega
    have H1 := Lib.hid (fun W => pp_ok (s := ByteArray.mk (prtA ps).toArray ++ ByteArray.mk #[58] ++ more) hzz hback W)
    clear hf hsp hc hz hl hback hzz
    generalize ByteArray.mk (prtA ps).toArray = y at *
    have qy0 : ((y.size : Int) == y.size) = true := by simp
    by_cases he : e = 0
    · subst he
      have hq := prs_may hx
      have hml : (m : Int) ≤ s.size := by have := (prs_ends hx).1; rw [len_list] at this; omega
      have H2 := Lib.hid (fun W => pp_ok (by omega) hx W)
      have hqs := sm_chk hq
      have HP2 := Lib.hid (fun a c hc W h => pprt_may qs hq a c hc W h)
      have hb2 := back_none hq
      have hz2 := prt_size hq
      have hl2 : (ByteArray.mk (prtA qs).toArray).size = (prtA qs).length := size_mk _
      rw [← hl2] at hb2
      have H3 := Lib.hid (fun W => pp_ok (s := ⟨(prtA qs).toArray⟩) (by omega) (by simpa using hb2) W)
      have HS2 := Lib.hid (fun a b c d W h1 h2 => psame_self qs hqs a b c d W h1 h2)
      clear hq hx hqs hb2 hz2 hl2
      generalize ByteArray.mk (prtA qs).toArray = y2 at *
      generalize qs.length = n2 at *
      have qy : ((y2.size : Int) == y2.size) = true := by simp
      go_enter Tryz.func5, Tryz.ntmps5
      go_wp2_with (first
        | (go_at_call 14; with_reducible refine (HM.out _ HR.out).mono ?_; rintro r w' ⟨rfl, rfl⟩)
        | (go_at_call 15; with_reducible refine (HO.out _ _ _ HR.out).mono ?_; rintro r w1 ⟨a1, c1, rfl, hc, hr, hb⟩; have C1 := Lib.hid hc; have R1 := Lib.hid hr; have Q1 := Lib.hid (HR.out.call hb); have B1 := Lib.hid ((Bl.refl w).call hb); clear hc hr hb)
        | (go_at_call 16; with_reducible refine (HP.out _ _ C1.out _ R1.out).mono ?_; rintro r w2 ⟨rfl, hb⟩; have Q2 := Lib.hid (Q1.out.call hb); have B2 := Lib.hid (B1.out.call hb); clear hb)
        | (go_at_call 8; with_reducible refine (H1.out _).mono ?_; rintro r w3 ⟨a3, c3, rfl, _, hr, hb⟩; have R3 := Lib.hid hr; have Q3 := Lib.hid (Q2.out.call hb); have B3 := Lib.hid (B2.out.call hb); clear hr hb)
        | (go_at_call 15; with_reducible refine (HO.out _ _ _ Q3.out).mono ?_; rintro r w4 ⟨a4, c4, rfl, _, hr, hb⟩; have R4 := Lib.hid hr; have S4 := Lib.hid (R3.out.call hb); have B4 := Lib.hid (B3.out.call hb); clear hr hb)
        | (go_at_call 24; with_reducible refine (HS.out _ _ _ _ _ S4.out R4.out).mono ?_; rintro r w5 ⟨rfl, hb⟩; have B5 := Lib.hid (B4.out.call hb); clear hb)
        | (go_at_call 8; with_reducible refine (H2.out _).mono ?_; rintro r w6 ⟨a6, c6, rfl, hc, hr, hb⟩; have C6 := Lib.hid hc; have R6 := Lib.hid hr; have B6 := Lib.hid (B5.out.call hb); clear hc hr hb)
        | (go_at_call 16; with_reducible refine (HP2.out _ _ C6.out _ R6.out).mono ?_; rintro r w7 ⟨rfl, hb⟩; have R7 := Lib.hid (R6.out.call hb); have B7 := Lib.hid (B6.out.call hb); clear hb)
        | (go_at_call 8; with_reducible refine (H3.out _).mono ?_; rintro r w8 ⟨a8, c8, rfl, _, hr, hb⟩; have S8 := Lib.hid hr; have R8 := Lib.hid (R7.out.call hb); have B8 := Lib.hid (B7.out.call hb); clear hr hb)
        | (go_at_call 24; with_reducible refine (HS2.out _ _ _ _ _ R8.out S8.out).mono ?_; rintro r w10 ⟨rfl, hb⟩; have B10 := Lib.hid (B8.out.call hb); clear hb)
        | (go_at_call 7; with_reducible refine (HA.out _ (HT.out.call B10.out.below)).mono ?_; rintro r w9 ⟨rfl, hb⟩; have B9 := Lib.hid (B10.out.call hb); clear hb))
      go_ret
      exact ⟨rfl, B9.out.below⟩
    · obtain rfl : qs = [] := hno he
      have H2 := Lib.hid (fun W => pp_no (by omega) he hx W)
      have e1 : (e != 0) = true := by simpa using he
      clear hno hx
      go_enter Tryz.func5, Tryz.ntmps5
      go_wp2_with (first
        | (go_at_call 14; with_reducible refine (HM.out _ HR.out).mono ?_; rintro r w' ⟨rfl, rfl⟩)
        | (go_at_call 15; with_reducible refine (HO.out _ _ _ HR.out).mono ?_; rintro r w1 ⟨a1, c1, rfl, hc, hr, hb⟩; have C1 := Lib.hid hc; have R1 := Lib.hid hr; have Q1 := Lib.hid (HR.out.call hb); have B1 := Lib.hid ((Bl.refl w).call hb); clear hc hr hb)
        | (go_at_call 16; with_reducible refine (HP.out _ _ C1.out _ R1.out).mono ?_; rintro r w2 ⟨rfl, hb⟩; have Q2 := Lib.hid (Q1.out.call hb); have B2 := Lib.hid (B1.out.call hb); clear hb)
        | (go_at_call 8; with_reducible refine (H1.out _).mono ?_; rintro r w3 ⟨a3, c3, rfl, _, hr, hb⟩; have R3 := Lib.hid hr; have Q3 := Lib.hid (Q2.out.call hb); have B3 := Lib.hid (B2.out.call hb); clear hr hb)
        | (go_at_call 15; with_reducible refine (HO.out _ _ _ Q3.out).mono ?_; rintro r w4 ⟨a4, c4, rfl, _, hr, hb⟩; have R4 := Lib.hid hr; have S4 := Lib.hid (R3.out.call hb); have B4 := Lib.hid (B3.out.call hb); clear hr hb)
        | (go_at_call 24; with_reducible refine (HS.out _ _ _ _ _ S4.out R4.out).mono ?_; rintro r w5 ⟨rfl, hb⟩; have B5 := Lib.hid (B4.out.call hb); clear hb)
        | (go_at_call 8; with_reducible refine (H2.out _).mono ?_; rintro r w6 ⟨a6, c6, v6, rfl, hr, hE, hb⟩; have B6 := Lib.hid (B5.out.call hb); have z6 := fun W => hE.neq W; have y6 := fun o W => hE.asks o W; clear hr hE hb)
        | (go_at_call 7; with_reducible refine (HA.out _ (HT.out.call B6.out.below)).mono ?_; rintro r w9 ⟨rfl, hb⟩; have B9 := Lib.hid (B6.out.call hb); clear hb))
      go_ret
      exact ⟨rfl, B9.out.below⟩
  · have HP := Lib.hid (fun a c hc' W h => pprt_not ps hsp hc a c hc' W h)
    have c0 : (chkA ps == 0) = false := by rw [beq_eq_false_iff_ne]; exact hc
    clear hf hsp hc
    generalize chkA ps = k at *
    by_cases he : e = 0
    · subst he
      have hq := prs_may hx
      have hml : (m : Int) ≤ s.size := by have := (prs_ends hx).1; rw [len_list] at this; omega
      have H2 := Lib.hid (fun W => pp_ok (by omega) hx W)
      have hqs := sm_chk hq
      have HP2 := Lib.hid (fun a c hc W h => pprt_may qs hq a c hc W h)
      have hb2 := back_none hq
      have hz2 := prt_size hq
      have hl2 : (ByteArray.mk (prtA qs).toArray).size = (prtA qs).length := size_mk _
      rw [← hl2] at hb2
      have H3 := Lib.hid (fun W => pp_ok (s := ⟨(prtA qs).toArray⟩) (by omega) (by simpa using hb2) W)
      have HS2 := Lib.hid (fun a b c d W h1 h2 => psame_self qs hqs a b c d W h1 h2)
      clear hq hx hqs hb2 hz2 hl2
      generalize ByteArray.mk (prtA qs).toArray = y2 at *
      generalize qs.length = n2 at *
      have qy : ((y2.size : Int) == y2.size) = true := by simp
      go_enter Tryz.func5, Tryz.ntmps5
      go_wp2_with (first
        | (go_at_call 14; with_reducible refine (HM.out _ HR.out).mono ?_; rintro r w' ⟨rfl, rfl⟩)
        | (go_at_call 15; with_reducible refine (HO.out _ _ _ HR.out).mono ?_; rintro r w1 ⟨a1, c1, rfl, hc, hr, hb⟩; have C1 := Lib.hid hc; have R1 := Lib.hid hr; have Q1 := Lib.hid (HR.out.call hb); have B1 := Lib.hid ((Bl.refl w).call hb); clear hc hr hb)
        | (go_at_call 16; with_reducible refine (HP.out _ _ C1.out _ R1.out).mono ?_; rintro r w2 ⟨rfl, hb⟩; have Q2 := Lib.hid (Q1.out.call hb); have B2 := Lib.hid (B1.out.call hb); clear hb)
        | (go_at_call 8; with_reducible refine (H2.out _).mono ?_; rintro r w6 ⟨a6, c6, rfl, hc, hr, hb⟩; have C6 := Lib.hid hc; have R6 := Lib.hid hr; have B6 := Lib.hid (B2.out.call hb); clear hc hr hb)
        | (go_at_call 16; with_reducible refine (HP2.out _ _ C6.out _ R6.out).mono ?_; rintro r w7 ⟨rfl, hb⟩; have R7 := Lib.hid (R6.out.call hb); have B7 := Lib.hid (B6.out.call hb); clear hb)
        | (go_at_call 8; with_reducible refine (H3.out _).mono ?_; rintro r w8 ⟨a8, c8, rfl, _, hr, hb⟩; have S8 := Lib.hid hr; have R8 := Lib.hid (R7.out.call hb); have B8 := Lib.hid (B7.out.call hb); clear hr hb)
        | (go_at_call 24; with_reducible refine (HS2.out _ _ _ _ _ R8.out S8.out).mono ?_; rintro r w10 ⟨rfl, hb⟩; have B10 := Lib.hid (B8.out.call hb); clear hb)
        | (go_at_call 7; with_reducible refine (HA.out _ (HT.out.call B10.out.below)).mono ?_; rintro r w9 ⟨rfl, hb⟩; have B9 := Lib.hid (B10.out.call hb); clear hb))
      go_ret
      exact ⟨rfl, B9.out.below⟩
    · obtain rfl : qs = [] := hno he
      have H2 := Lib.hid (fun W => pp_no (by omega) he hx W)
      have e1 : (e != 0) = true := by simpa using he
      clear hno hx
      go_enter Tryz.func5, Tryz.ntmps5
      go_wp2_with (first
        | (go_at_call 14; with_reducible refine (HM.out _ HR.out).mono ?_; rintro r w' ⟨rfl, rfl⟩)
        | (go_at_call 15; with_reducible refine (HO.out _ _ _ HR.out).mono ?_; rintro r w1 ⟨a1, c1, rfl, hc, hr, hb⟩; have C1 := Lib.hid hc; have R1 := Lib.hid hr; have Q1 := Lib.hid (HR.out.call hb); have B1 := Lib.hid ((Bl.refl w).call hb); clear hc hr hb)
        | (go_at_call 16; with_reducible refine (HP.out _ _ C1.out _ R1.out).mono ?_; rintro r w2 ⟨rfl, hb⟩; have Q2 := Lib.hid (Q1.out.call hb); have B2 := Lib.hid (B1.out.call hb); clear hb)
        | (go_at_call 8; with_reducible refine (H2.out _).mono ?_; rintro r w6 ⟨a6, c6, v6, rfl, hr, hE, hb⟩; have B6 := Lib.hid (B2.out.call hb); have z6 := fun W => hE.neq W; have y6 := fun o W => hE.asks o W; clear hr hE hb)
        | (go_at_call 7; with_reducible refine (HA.out _ (HT.out.call B6.out.below)).mono ?_; rintro r w9 ⟨rfl, hb⟩; have B9 := Lib.hid (B6.out.call hb); clear hb))
      go_ret
      exact ⟨rfl, B9.out.below⟩
end Go.Proofs.YtndbgdapojkfaaaGreatDoor.Par
