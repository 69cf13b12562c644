/- Contract of the document's param (errandref17): Same. -/
import Derived.Test.YtndbgdapojkfaaaGreatDoorParRefH
import Derived.BigQuiet
import Derived.Deep.QuietTactic
set_option linter.unusedVariables false
namespace Go.Proofs.YtndbgdapojkfaaaGreatDoor.Par
open Go.RowKit Go.Deep Go.Proofs.YtndbgdapojkfaaaGreatDoor.Byt Go.Proofs.YtndbgdapojkfaaaGreatDoor.Utf Go.Proofs.YtndbgdapojkfaaaGreatDoor.Tre Go.Proofs.YtndbgdapojkfaaaGreatDoor.Txt

deriving instance DecidableEq for PP
theorem PP.ext' {p q : PP} (h1 : p.n = q.n) (h2 : p.v = q.v) : p = q := by cases p; cases q; simp_all
theorem ne_of_get {α : Type} {l m : List α} {k : Nat} (h : k < l.length) (h' : k < m.length) (hne : l[k] ≠ m[k]) : l ≠ m := by
  intro e; subst e; exact hne rfl
theorem take_eq {α : Type} {l m : List α} {k : Nat} (h : k < l.length) (h' : k < m.length) (e : l.take k = m.take k) (he : l[k] = m[k]) : l.take (k + 1) = m.take (k + 1) := by
  rw [List.take_succ_eq_append_getElem h, List.take_succ_eq_append_getElem h', e, he]
theorem tl_ne (a b : List UInt8) : ((ByteArray.mk a.toArray).toList == (ByteArray.mk b.toArray).toList) = decide (a = b) := by
  rw [ByteArray.toList_eq, ByteArray.toList_eq, mk_back, mk_back]
  by_cases h : a = b
  · subst h; simp
  · simp [h]
set_option maxRecDepth 20000 in
set_option maxHeartbeats 1000000 in
theorem rsame_any (ps qs : List PP) (hp : SmA ps) (hq : SmA qs) (a b : Option Addr) (c d : Nat) (w : World) (ha : Rd w (psD 49 ps) (.slice a ps.length c)) (hb : Rd w (psD 49 qs) (.slice b qs.length d)) :
    Calls Tryz.prog 10 #[.slice a ps.length c, .slice b qs.length d] w fun r w' => r = .returned (.bool (decide (ps = qs))) ∧ Below w.heap.size w w' := by
  have HA := Lib.hid ha
  have HB := Lib.hid hb
  have HP := Lib.hid hp
  have HQ := Lib.hid hq
  have h1 := hp.1
  have h2 := hq.1
  clear ha hb hp hq
  by_cases hl : ps.length = qs.length
  · have tn : ((ps.length : Int) != qs.length) = false := by simp [hl]
    have HL := Lib.hid hl
    clear hl
    go_enter Tryz.func10, Tryz.ntmps10
    go_wp2_with fail
    go_loopw [5] (fun i wr => ∃ k : Nat, k ≤ ps.length ∧ i = .int .i64 k ∧ Hid (ps.take k = qs.take k) ∧ Hid (Bl w wr)) (fun i _ => ps.length - (intOf i).toNat)
    case atStart => exact ⟨0, Nat.zero_le _, rfl, Lib.hid rfl, Lib.hid (Bl.refl w)⟩
    case round =>
      obtain ⟨i, hi, rfl, he, hbl⟩ := hrel
      by_cases h : i < ps.length
      · have h' : (i : Int) < ps.length := by omega
        have g : i < qs.length := by have := HL.out; omega
        have g' : (i : Int) < qs.length := by omega
        obtain ⟨ba, oa, rfl, a0, pa, ca, a1, pra⟩ := param_at (HA.out.call hbl.out.below) h
        obtain ⟨bb, ob, rfl, b0, pb, cb, b1, prb⟩ := param_at (HB.out.call hbl.out.below) g
        have PA := Lib.hid pra
        have PB := Lib.hid prb
        have sp := (HP.out.2 ps[i] (List.getElem_mem h)).2.1
        have sq := (HQ.out.2 qs[i] (List.getElem_mem g)).2.1
        have HNE := Lib.hid (fun x => ne_of_get h g x)
        have HTE := Lib.hid (fun x => take_eq h g he.out x)
        have tt := tl_ne ps[i].n qs[i].n
        have Bq := fun q => Lib.hid (hbl.out.drewN q)
        clear pra prb he
        generalize ps[i] = p at *
        generalize qs[i] = q at *
        by_cases e1 : p.n = q.n
        · rw [decide_eq_true e1] at tt
          by_cases e2 : p.v.length = q.v.length
          · have tl : ((p.v.length : Int) != q.v.length) = false := by simp [e2]
            have E2 := Lib.hid e2
            have A1 := Lib.hid a1
            clear e2
            have B1 := Lib.hid b1
            have l1 := Byt.cell_lt a1
            have l2 := Byt.cell_lt b1
            generalize ByteArray.mk p.n.toArray = np at *
            generalize ByteArray.mk q.n.toArray = nq at *
            go_wp2_with fail
            go_quiet (fail)
            go_wp2_with fail
            clear a0 a1 b0 b1
            go_loopw [6] (fun j wq => ∃ k : Nat, k ≤ p.v.length ∧ j = .int .i64 k ∧ Hid (p.v.take k = q.v.take k) ∧ Hid (Bl wr wq)) (fun j _ => p.v.length - (intOf j).toNat)
            case atStart => exact ⟨0, Nat.zero_le _, rfl, Lib.hid rfl, Lib.hid ((Bl.refl wr).drewN _)⟩
            case round =>
              obtain ⟨k, hk, rfl, hv, hbq⟩ := hrel
              have a1 := (hbq.out.below.cell (p := ⟨ba, oa + i * 2 + 1, none⟩) l1).trans A1.out
              have b1 := (hbq.out.below.cell (p := ⟨bb, ob + i * 2 + 1, none⟩) l2).trans B1.out
              by_cases hlt : k < p.v.length
              · have hk' : (k : Int) < p.v.length := by omega
                have gk : k < q.v.length := by have := E2.out; omega
                have gk' : (k : Int) < q.v.length := by omega
                obtain ⟨bp, op, rfl, p0⟩ := text_in (PA.out.call hbq.out.below) hlt
                obtain ⟨bs, os, rfl, s0⟩ := text_in (PB.out.call hbq.out.below) gk
                have tv := tl_ne p.v[k] q.v[k]
                have HNV := Lib.hid (fun x => ne_of_get hlt gk x)
                have HTV := Lib.hid (fun x => take_eq hlt gk hv.out x)
                have Bp := fun z => Lib.hid (hbq.out.drewN z)
                clear hv
                generalize p.v[k] = x at *
                generalize q.v[k] = y at *
                by_cases e3 : x = y
                · rw [decide_eq_true e3] at tv
                  have HN := Lib.hid (HTV.out e3)
                  clear HTV HNV e3 HNE HTE
                  generalize ByteArray.mk x.toArray = tx at *
                  generalize ByteArray.mk y.toArray = ty at *
                  go_wp2_with fail
                  go_quiet (fail)
                  go_wp2_with fail
                  go_roundw
                  case rel => exact ⟨k + 1, by omega, by go_num, HN, Bp _⟩
                  case measure => simp [intOf]; omega
                · rw [decide_eq_false e3] at tv
                  have HX := Lib.hid (decide_eq_false (HNE.out (fun z => HNV.out e3 (congrArg PP.v z))))
                  clear HTV HNV e3 HNE HTE
                  generalize ByteArray.mk x.toArray = tx at *
                  generalize ByteArray.mk y.toArray = ty at *
                  go_wp2_with fail
                  go_quiet (fail)
                  go_wp2_with fail
                  go_ret
                  exact ⟨by rw [HX.out]; rfl, (hbl.out.call (Bp _).out.below).below⟩
              · obtain rfl : k = p.v.length := by omega
                have hv' := hv.out
                rw [List.take_of_length_le (Nat.le_refl _), E2.out, List.take_of_length_le (Nat.le_refl _)] at hv'
                have HN := Lib.hid (HTE.out (PP.ext' e1 hv'))
                clear hv hv' HTE HNE
                go_wp2_with fail
                go_roundw
                case rel => exact ⟨i + 1, by omega, by go_num, HN, Lib.hid (hbl.out.call hbq.out.below)⟩
                case measure => simp [intOf]; omega
          · have tl : ((p.v.length : Int) != q.v.length) = true := by simp; omega
            have HX := Lib.hid (decide_eq_false (HNE.out (fun z => e2 (congrArg (fun r => r.v.length) z))))
            clear HNE HTE
            generalize ByteArray.mk p.n.toArray = np at *
            generalize ByteArray.mk q.n.toArray = nq at *
            go_wp2_with fail
            go_quiet (fail)
            go_wp2_with fail
            go_ret
            exact ⟨by rw [HX.out]; rfl, (Bq _).out.below⟩
        · rw [decide_eq_false e1] at tt
          have HX := Lib.hid (decide_eq_false (HNE.out (fun z => e1 (congrArg PP.n z))))
          clear HNE HTE
          generalize ByteArray.mk p.n.toArray = np at *
          generalize ByteArray.mk q.n.toArray = nq at *
          go_wp2_with fail
          go_quiet (fail)
          go_wp2_with fail
          go_ret
          exact ⟨by rw [HX.out]; rfl, (Bq _).out.below⟩
      · obtain rfl : i = ps.length := by omega
        have he' := he.out
        rw [List.take_of_length_le (Nat.le_refl _), List.take_of_length_le (by have := HL.out; omega)] at he'
        have HX := Lib.hid (decide_eq_true he')
        clear he he'
        go_wp2_with fail
        go_ret
        exact ⟨by rw [HX.out]; rfl, hbl.out.below⟩
  · have tn : ((ps.length : Int) != qs.length) = true := by simp; omega
    have HX := Lib.hid (decide_eq_false (fun z : ps = qs => hl (congrArg List.length z)))
    go_enter Tryz.func10, Tryz.ntmps10
    go_wp2_with fail
    go_ret
    exact ⟨by rw [HX.out]; rfl, (Bl.refl w).below⟩
end Go.Proofs.YtndbgdapojkfaaaGreatDoor.Par
