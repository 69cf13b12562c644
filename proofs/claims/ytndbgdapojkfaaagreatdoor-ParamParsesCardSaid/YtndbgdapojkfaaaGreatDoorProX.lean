import Derived.Test.YtndbgdapojkfaaaGreatDoorParProA
import Derived.Test.YtndbgdapojkfaaaGreatDoorParLibC
import Derived.Test.YtndbgdapojkfaaaGreatDoorParRefE
import Derived.Test.YtndbgdapojkfaaaGreatDoorCls
import Derived.Lib.JoinLaws
import Derived.Deep.LoopGhost

/- Contracts of package param: checkValue, Check, CheckAll. -/
set_option linter.unusedVariables false
namespace Go.Proofs.YtndbgdapojkfaaaGreatDoor.Par
open Go.RowKit Go.Deep Go.Proofs.YtndbgdapojkfaaaGreatDoor.Byt Go.Proofs.YtndbgdapojkfaaaGreatDoor.Utf Go.Proofs.YtndbgdapojkfaaaGreatDoor.Tre Go.Proofs.YtndbgdapojkfaaaGreatDoor.Txt

theorem pcv_any (v : ByteArray) (hs : v.size ≤ 1000) (w : World) : Calls Tryz.prog 46 #[.string v] w fun r w' => r = .returned (.int .i64 (chkV v.data.toList)) ∧ Below w.heap.size w w' := by
  by_cases c1 : 60 < v.size
  · have HX : Hid (chkV v.data.toList = 5) := Lib.hid (by unfold chkV; rw [if_pos (by rw [len_list]; exact c1)])
    have c2 : (60 : Int) < v.size := by omega
    clear c1
    go_enter Tryz.func46, Tryz.ntmps46
    go_wp2_with fail
    go_ret
    exact ⟨by rw [HX.out]; rfl, Below.refl _ _⟩
  · have hX : chkV v.data.toList = if fineB v.data.toList = true then 0 else 10 := by unfold chkV; rw [if_neg (by rw [len_list]; exact c1)]
    have c2 : ¬ (60 : Int) < v.size := by omega
    have HR := Lib.hid (replaceall_any v (by omega) w)
    have hO : ∀ W, Calls Tryz.prog 64 #[.string ⟨(v.data.toList.map sp).toArray⟩] W fun r w' => r = .returned (.int .i64 (oddI (v.data.toList.map sp) 0)) ∧ Below W.heap.size W w' := fun W => by
      have := odd_any' ⟨(v.data.toList.map sp).toArray⟩ (by rw [size_mk, List.length_map, len_list]; exact hs) W
      rwa [mk_back] at this
    have HO := Lib.hid hO
    have hf : fineB v.data.toList = decide (oddI (v.data.toList.map sp) 0 = -1) := rfl
    have hg := oddI_ge (v.data.toList.map sp) 0 (Int.le_refl _)
    have hz : (oddI (v.data.toList.map sp) 0 = -1 ∧ chkV v.data.toList = 0) ∨ ((0 : Int) ≤ oddI (v.data.toList.map sp) 0 ∧ chkV v.data.toList = 10) := by
      rw [hX, hf]
      rcases hg with hg | hg
      · exact .inl ⟨hg, by rw [decide_eq_true hg]; rfl⟩
      · exact .inr ⟨by omega, by rw [decide_eq_false (by omega)]; rfl⟩
    have HB := Lib.hid (Bl.refl w)
    clear hX hO hf hg c1
    generalize ByteArray.mk (v.data.toList.map sp).toArray = y at *
    generalize oddI (v.data.toList.map sp) 0 = z at *
    rcases hz with ⟨rfl, hx⟩ | ⟨z0, hx⟩
    · have HX := Lib.hid hx
      clear hx
      go_enter Tryz.func46, Tryz.ntmps46
      go_wp2_with (first
        | (go_at_call 65; with_reducible refine (HR.out).mono ?_; rintro r w1 ⟨rfl, hb⟩; have B1 := Lib.hid (HB.out.call hb); clear hb)
        | (go_at_call 64; with_reducible refine (HO.out _).mono ?_; rintro r w2 ⟨rfl, hb⟩; have B2 := Lib.hid (B1.out.call hb); clear hb))
      go_ret
      exact ⟨by rw [HX.out]; rfl, B2.out.below⟩
    · have HX := Lib.hid hx
      clear hx
      go_enter Tryz.func46, Tryz.ntmps46
      go_wp2_with (first
        | (go_at_call 65; with_reducible refine (HR.out).mono ?_; rintro r w1 ⟨rfl, hb⟩; have B1 := Lib.hid (HB.out.call hb); clear hb)
        | (go_at_call 64; with_reducible refine (HO.out _).mono ?_; rintro r w2 ⟨rfl, hb⟩; have B2 := Lib.hid (B1.out.call hb); clear hb))
      go_ret
      exact ⟨by rw [HX.out]; rfl, B2.out.below⟩
set_option maxRecDepth 20000 in
set_option maxHeartbeats 1000000 in
theorem pchk_any (p : PP) (hp : Sm p) (a : Option Addr) (c : Nat) (w : World) (h : Rd w (txD (mks p.v)) (.slice a (mks p.v).length c)) :
    Calls Tryz.prog 27 #[.agg #[.string ⟨p.n.toArray⟩, .slice a p.v.length c]] w fun r w' => r = .returned (.int .i64 (chkP p)) ∧ Below w.heap.size w w' := by
  have Z0 := Lib.hid (Bp.new 46 h)
  have HN : ∀ W, Calls Tryz.prog 22 #[.string ⟨p.n.toArray⟩] W fun r w' => r = .returned (.bool (nmB p.n)) ∧ W = w' := fun W => by
    have := pname_any' ⟨p.n.toArray⟩ (by rw [size_mk]; exact hp.1) W
    rwa [mk_back] at this
  have HN2 := Lib.hid HN
  have HP := Lib.hid hp
  have hl := hp.2.1
  clear HN h hp
  have x0 := Z0.out.box.cell (i := 0) rfl
  have x1 := Z0.out.box.cell (i := 1) rfl
  by_cases n1 : nmB p.n = false
  · have HX : chkP p = 4 := by unfold chkP; rw [if_pos n1]
    have HX2 := Lib.hid HX
    rw [n1] at HN2
    have HB := Lib.hid Z0.out.bl
    clear HX n1
    go_enter Tryz.func27, Tryz.ntmps27
    go_wp2_with (go_at_call 22; with_reducible refine (HN2.out _).mono ?_; rintro r w' ⟨rfl, rfl⟩)
    go_ret
    exact ⟨by rw [HX2.out]; rfl, HB.out.below⟩
  · have n1' : nmB p.n = true := by simpa using n1
    rw [n1'] at HN2
    by_cases n2 : p.v.length < 1 ∨ 6 < p.v.length
    · have HX : chkP p = 20 := by unfold chkP; rw [if_neg n1, if_pos n2]
      have HX2 := Lib.hid HX
      have HB := Lib.hid Z0.out.bl
      clear HX n1 n1'
      go_enter Tryz.func27, Tryz.ntmps27
      rcases n2 with n2 | n2
      · have n3 : ((p.v.length : Int) == 0) = true := by rw [beq_iff_eq]; omega
        generalize p.v.length = q at *
        go_wp2_with (go_at_call 22; with_reducible refine (HN2.out _).mono ?_; rintro r w' ⟨rfl, rfl⟩)
        go_ret
        exact ⟨by rw [HX2.out]; rfl, HB.out.below⟩
      · have n3 : (6 : Int) < p.v.length := by omega
        have n4 : ((p.v.length : Int) == 0) = false := by rw [beq_eq_false_iff_ne]; omega
        generalize p.v.length = q at *
        go_wp2_with (go_at_call 22; with_reducible refine (HN2.out _).mono ?_; rintro r w' ⟨rfl, rfl⟩)
        go_ret
        exact ⟨by rw [HX2.out]; rfl, HB.out.below⟩
    · have HX : chkP p = chkVs p.v := by unfold chkP; rw [if_neg n1, if_neg n2]
      have HX2 := Lib.hid HX
      have n3 : ¬ (6 : Int) < p.v.length := by omega
      have n4 : ((p.v.length : Int) == 0) = false := by rw [beq_eq_false_iff_ne]; omega
      clear HX n1 n1' n2
      go_enter Tryz.func27, Tryz.ntmps27
      go_wp2_with (go_at_call 22; with_reducible refine (HN2.out _).mono ?_; rintro r w' ⟨rfl, rfl⟩)
      clear x0 x1
      go_loopw [4, 5, 23] (fun _ _ i wr => ∃ k : Nat, k ≤ p.v.length ∧ i = .int .i64 k ∧ Hid (chkVs (p.v.take k) = 0) ∧ Hid (Bp w wr 46 p a c)) (fun _ _ i _ => p.v.length - (intOf i).toNat)
      case atStart => exact ⟨0, Nat.zero_le _, rfl, Lib.hid rfl, Z0⟩
      case round =>
        obtain ⟨k, hk, rfl, hq, hb⟩ := hrel
        by_cases h : k < p.v.length
        · have h' : (k : Int) < p.v.length := by omega
          obtain ⟨bb, off, rfl, c0⟩ := text_in hb.out.vs h
          have hs := HP.out.2.2 p.v[k] (List.getElem_mem h)
          have hz := size_mk p.v[k]
          have HF : ∀ W, Calls Tryz.prog 46 #[.string ⟨p.v[k].toArray⟩] W fun r w' => r = .returned (.int .i64 (chkV p.v[k])) ∧ Below W.heap.size W w' := fun W => by
            have := pcv_any ⟨p.v[k].toArray⟩ (by rw [hz]; exact hs) W
            rwa [mk_back] at this
          have HF2 := Lib.hid HF
          clear HF
          have HGO := Lib.hid (chkVs_go h hq.out)
          have HST := Lib.hid (chkVs_stop h hq.out)
          clear hq
          generalize ByteArray.mk p.v[k].toArray = y at *
          generalize chkV p.v[k] = z at *
          by_cases d1 : z = 0
          · subst d1
            have HQ := Lib.hid (HGO.out rfl)
            clear HGO HST
            go_wp2_with (go_at_call 46; with_reducible refine (HF2.out _).mono ?_; rintro r w1 ⟨rfl, hbw⟩; have HBW := Lib.hid hbw; clear hbw)
            go_roundw
            case rel => exact ⟨k + 1, by omega, by go_num, HQ, Lib.hid (hb.out.keep HBW.out)⟩
            case measure => simp [intOf]; omega
          · have HX3 := Lib.hid (HX2.out.trans (HST.out d1))
            have d2 : (z != 0) = true := by simpa using d1
            clear HGO HST d1
            go_wp2_with (go_at_call 46; with_reducible refine (HF2.out _).mono ?_; rintro r w1 ⟨rfl, hbw⟩; have HBW := Lib.hid hbw; clear hbw)
            go_ret
            exact ⟨by rw [HX3.out]; rfl, (hb.out.bl.call HBW.out).below⟩
        · obtain rfl : k = p.v.length := by omega
          have hq' := hq.out
          rw [List.take_of_length_le (Nat.le_refl _)] at hq'
          have HX3 := Lib.hid (HX2.out.trans hq')
          clear hq hq'
          go_wp2_with fail
          go_ret
          exact ⟨by rw [HX3.out]; rfl, hb.out.bl.below⟩
set_option maxRecDepth 20000 in
set_option maxHeartbeats 1000000 in
theorem pchks_any (ps : List PP) (hp : SmA ps) (a : Option Addr) (c : Nat) (hcap : (ps.length : Int) ≤ c) (w : World) (h : Rd w (psD 46 ps) (.slice a ps.length c)) :
    Calls Tryz.prog 20 #[.slice a ps.length c] w fun r w' => r = .returned (.int .i64 (chkA ps)) ∧ Below w.heap.size w w' := by
  have HR := Lib.hid h
  have HP := Lib.hid hp
  have hl := hp.1
  clear h hp
  by_cases n1 : 6 < ps.length
  · have HX : chkA ps = 20 := by unfold chkA; rw [if_pos n1]
    have n2 : (6 : Int) < ps.length := by omega
    have HX2 := Lib.hid HX
    clear HX n1
    go_enter Tryz.func20, Tryz.ntmps20
    go_wp2_with fail
    go_ret
    exact ⟨by rw [HX2.out]; rfl, (Bl.refl w).below⟩
  · have HX : chkA ps = if chkPs ps ≠ 0 then chkPs ps else if twc [] ps = true then 19 else 0 := by unfold chkA; rw [if_neg n1]
    have n2 : ¬ (6 : Int) < ps.length := by omega
    have HX2 := Lib.hid HX
    clear HX n1
    go_enter Tryz.func20, Tryz.ntmps20
    go_wp2_with fail
    go_loopw [4, 5, 13] (fun _ _ i wr => ∃ k : Nat, k ≤ ps.length ∧ i = .int .i64 k ∧ Hid (chkPs (ps.take k) = 0) ∧ Hid (Bl w wr)) (fun _ _ i _ => ps.length - (intOf i).toNat)
    case atStart => exact ⟨0, Nat.zero_le _, rfl, Lib.hid rfl, Lib.hid (Bl.refl w)⟩
    case round =>
      obtain ⟨k, hk, rfl, hq, hb⟩ := hrel
      by_cases h : k < ps.length
      · have h' : (k : Int) < ps.length := by omega
        obtain ⟨bb, off, rfl, c0, a1, d1, c1, hv⟩ := param_at (HR.out.call hb.out.below) h
        have HC := Lib.hid (fun W (hW : Rd W (txD (mks ps[k].v)) (.slice a1 (mks ps[k].v).length d1)) => pchk_any ps[k] (HP.out.2 ps[k] (List.getElem_mem h)) a1 d1 W hW)
        have HV := Lib.hid (hv.call (new1 wr (.cells #[.string ⟨ps[k].n.toArray⟩, .slice a1 ps[k].v.length d1] 46)))
        have HB := Lib.hid (hb.out.alloc (.cells #[.string ⟨ps[k].n.toArray⟩, .slice a1 ps[k].v.length d1] 46))
        have HGO := Lib.hid (chkPs_go h hq.out)
        have HST := Lib.hid (chkPs_stop h hq.out)
        clear hq hv
        generalize ps[k] = p at *
        by_cases hc : chkP p = 0
        · have HQ := Lib.hid (HGO.out hc)
          rw [hc] at HC
          clear HGO HST hc
          go_wp2_with (go_at_call 27; with_reducible refine (HC.out _ HV.out).mono ?_; rintro r w1 ⟨rfl, hbw⟩; have HBW := Lib.hid hbw; clear hbw)
          go_roundw
          case rel => exact ⟨k + 1, by omega, by go_num, HQ, Lib.hid (HB.out.call HBW.out)⟩
          case measure => simp [intOf]; omega
        · have HX3 := Lib.hid (HX2.out.trans (by rw [HST.out hc, if_pos hc]))
          generalize chkP p = q at *
          have d2 : (q != 0) = true := by simpa using hc
          clear HGO HST hc
          go_wp2_with (go_at_call 27; with_reducible refine (HC.out _ HV.out).mono ?_; rintro r w1 ⟨rfl, hbw⟩; have HBW := Lib.hid hbw; clear hbw)
          go_ret
          exact ⟨by rw [HX3.out]; rfl, (HB.out.call HBW.out).below⟩
      · obtain rfl : k = ps.length := by omega
        have hq' := hq.out
        rw [List.take_of_length_le (Nat.le_refl _)] at hq'
        have HX3 := Lib.hid (HX2.out.trans (if_neg (by rw [hq']; decide)))
        clear hq hq' HX2
        go_wp2_with fail
        go_loopw [6, 7, 25] (fun _ _ i wq => ∃ k : Nat, k ≤ ps.length ∧ i = .int .i64 k ∧ Hid (twc [] (ps.take k) = false) ∧ Hid (Bl w wq)) (fun _ _ i _ => ps.length - (intOf i).toNat)
        case atStart => exact ⟨0, Nat.zero_le _, rfl, Lib.hid rfl, hb⟩
        case round =>
          obtain ⟨k, hk, rfl, hq, hbq⟩ := hrel
          by_cases h : k < ps.length
          · have h' : (k : Int) < ps.length := by omega
            obtain ⟨bb, off, rfl, c0, a1, d1, c1, hv⟩ := param_at (HR.out.call hbq.out.below) h
            have hpl := plc_lt h
            have HH : Hid (∀ W, Bl w W → Calls Tryz.prog 39 #[.slice (some ⟨bb, off, none⟩) ps.length c, .string ⟨ps[k].n.toArray⟩] W fun r w' => r = .returned (.int .i64 (plc ps ps[k].n)) ∧ Below W.heap.size W w') := Lib.hid (fun W hW => by
              have := pplace_any ps hl ⟨ps[k].n.toArray⟩ _ c W (HR.out.call hW.below)
              rwa [mk_back] at this)
            have HB := Lib.hid (hbq.out.alloc (.cells #[.string ⟨ps[k].n.toArray⟩, .slice a1 ps[k].v.length d1] 46))
            have HGO := Lib.hid (fun x => twc_go (acc := []) h hq.out x)
            have HST := Lib.hid (fun x => twc_stop (acc := []) h x)
            rw [List.nil_append] at HGO HST
            clear hq hv
            generalize plc ps ps[k].n = z at *
            generalize ps[k] = p at *
            rcases hh : hasN (ps.take k) p.n with _ | _
            · have HQ := Lib.hid (HGO.out hh)
              rw [hh] at hpl
              have z0 : ¬ z < (k : Int) := of_decide_eq_false hpl
              clear HGO HST hh hpl
              go_wp2_with (go_at_call 39; with_reducible refine (HH.out _ HB.out).mono ?_; rintro r w1 ⟨rfl, hbw⟩; have HBW := Lib.hid (HB.out.call hbw); clear hbw)
              go_roundw
              case rel => exact ⟨k + 1, by omega, by go_num, HQ, HBW⟩
              case measure => simp [intOf]; omega
            · have HX4 := Lib.hid (HX3.out.trans (if_pos (HST.out hh)))
              rw [hh] at hpl
              have z0 : z < (k : Int) := of_decide_eq_true hpl
              clear HGO HST hh hpl
              go_wp2_with (go_at_call 39; with_reducible refine (HH.out _ HB.out).mono ?_; rintro r w1 ⟨rfl, hbw⟩; have HBW := Lib.hid (HB.out.call hbw); clear hbw)
              go_ret
              exact ⟨by rw [HX4.out]; rfl, HBW.out.below⟩
          · obtain rfl : k = ps.length := by omega
            have hq' := hq.out
            rw [List.take_of_length_le (Nat.le_refl _)] at hq'
            have HX4 := Lib.hid (HX3.out.trans (if_neg (by rw [hq']; decide)))
            go_wp2_with fail
            go_ret
            exact ⟨by rw [HX4.out]; rfl, hbq.out.below⟩
end Go.Proofs.YtndbgdapojkfaaaGreatDoor.Par

/- Contracts of package param: write, text, Print, PrintAll. -/
set_option linter.unusedVariables false
namespace Go.Proofs.YtndbgdapojkfaaaGreatDoor.Par
open Go.RowKit Go.Deep Go.Proofs.YtndbgdapojkfaaaGreatDoor.Byt Go.Proofs.YtndbgdapojkfaaaGreatDoor.Utf Go.Proofs.YtndbgdapojkfaaaGreatDoor.Tre Go.Proofs.YtndbgdapojkfaaaGreatDoor.Txt Go.Proofs.YtndbgdapojkfaaaGreatDoor.Cls

theorem ixP_ge (f : UInt8 → Bool) (L : List UInt8) : -1 ≤ ixP f L := by unfold ixP; split <;> omega
theorem ixP_any (f : UInt8 → Bool) : ∀ L : List UInt8, decide (0 ≤ ixP f L) = L.any f
  | [] => rfl
  | b :: t => by
    have ih := ixP_any f t
    have hg := ixP_ge f t
    rw [ixP_cons, List.any_cons, ← ih]
    by_cases hb : f b = true
    · rw [if_pos hb, hb]; rfl
    · rw [if_neg hb, show f b = false by simpa using hb, Bool.false_or]
      by_cases h : ixP f t = -1
      · rw [if_pos (by rw [h]; rfl), h]
      · rw [if_neg (by rw [beq_iff_eq]; exact h), decide_eq_true (by omega), decide_eq_true (by omega)]
set_option maxRecDepth 20000 in
set_option maxHeartbeats 1000000 in
theorem pwrite_any (s : ByteArray) (hs : s.size ≤ 1000) (w : World) : Calls Tryz.prog 60 #[.string s] w fun r w' => r = .returned (.string ⟨(wrt s.data.toList).toArray⟩) ∧ Below w.heap.size w w' := by
  have HS := Lib.hid hs
  have b0 := Lib.hid (Bld.Bu.start w)
  have hcl : ∀ k, (crt (s.data.toList.take k)).length ≤ 2000 := fun k => by
    have := crt_len (s.data.toList.take k)
    have h2 : (s.data.toList.take k).length ≤ s.size := by rw [List.length_take, len_list]; omega
    omega
  have HCL := Lib.hid hcl
  have hany := ixP_any stp s.data.toList
  have HA := Lib.hid (fun W => hasany_any s (by omega) W)
  rw [hany] at HA
  clear hcl hany
  go_enter Tryz.func60, Tryz.ntmps60
  go_wp2_with fail
  go_loopw [4, 7] (fun _ i wr => ∃ k : Nat, k ≤ s.size ∧ i = .int .i64 k ∧ Hid (Bld.Bu w wr (crt (s.data.toList.take k)))) (fun _ i _ => s.size - (intOf i).toNat)
  case atStart => exact ⟨0, Nat.zero_le _, rfl, Lib.hid b0.out⟩
  case round =>
    obtain ⟨k, hk, rfl, hB⟩ := hrel
    by_cases h : k < s.size
    · have h' : (k : Int) < s.size := by omega
      have hst := crt_step h
      have hl := HCL.out k
      by_cases c1 : (s[k]'h).toNat = 94
      · have e : crtB (s[k]'h) = [94, 94] := if_pos c1
        rw [e] at hst
        have HST := Lib.hid hst
        have HW := Lib.hid (fun wr h => Bld.write_any w wr (crt (s.data.toList.take k)) ⟨#[94, 94]⟩ h (by show _ + 2 ≤ _; omega))
        clear hst hl e
        go_wp2_with (go_at_call 36; with_reducible refine (HW.out _ hB.out).mono ?_; rintro r w2 ⟨rfl, hb⟩; have B2 := Lib.hid hb; clear hb)
        go_roundw
        case rel => exact ⟨k + 1, by omega, by go_num, by rw [HST.out]; exact B2⟩
        case measure => simp [intOf]; omega
      · have t1 : (((s[k]'h).toNat : Int) == 94) = false := by rw [beq_eq_false_iff_ne]; omega
        by_cases c2 : (s[k]'h).toNat = 10
        · have e : crtB (s[k]'h) = [94, 110] := by unfold crtB; rw [if_neg c1, if_pos c2]
          rw [e] at hst
          have HST := Lib.hid hst
          have HW := Lib.hid (fun wr h => Bld.write_any w wr (crt (s.data.toList.take k)) ⟨#[94, 110]⟩ h (by show _ + 2 ≤ _; omega))
          clear hst hl e c1
          go_wp2_with (go_at_call 36; with_reducible refine (HW.out _ hB.out).mono ?_; rintro r w2 ⟨rfl, hb⟩; have B2 := Lib.hid hb; clear hb)
          go_roundw
          case rel => exact ⟨k + 1, by omega, by go_num, by rw [HST.out]; exact B2⟩
          case measure => simp [intOf]; omega
        · have t2 : (((s[k]'h).toNat : Int) == 10) = false := by rw [beq_eq_false_iff_ne]; omega
          by_cases c3 : (s[k]'h).toNat = 34
          · have e : crtB (s[k]'h) = [94, 39] := by unfold crtB; rw [if_neg c1, if_neg c2, if_pos c3]
            rw [e] at hst
            have HST := Lib.hid hst
            have HW := Lib.hid (fun wr h => Bld.write_any w wr (crt (s.data.toList.take k)) ⟨#[94, 39]⟩ h (by show _ + 2 ≤ _; omega))
            clear hst hl e c1 c2
            go_wp2_with (go_at_call 36; with_reducible refine (HW.out _ hB.out).mono ?_; rintro r w2 ⟨rfl, hb⟩; have B2 := Lib.hid hb; clear hb)
            go_roundw
            case rel => exact ⟨k + 1, by omega, by go_num, by rw [HST.out]; exact B2⟩
            case measure => simp [intOf]; omega
          · have t3 : (((s[k]'h).toNat : Int) == 34) = false := by rw [beq_eq_false_iff_ne]; omega
            have e : crtB (s[k]'h) = [s[k]'h] := by unfold crtB; rw [if_neg c1, if_neg c2, if_neg c3]
            rw [e] at hst
            have HST := Lib.hid hst
            have HV := Lib.hid (fun wr hB' => Bld.byte_any w wr (crt (s.data.toList.take k)) (s[k]'h) rfl hB' (by omega))
            clear hst hl e c1 c2 c3
            go_wp2_with (go_at_call 74; with_reducible refine (HV.out _ hB.out).mono ?_; rintro r w2 ⟨rfl, hb⟩; have B2 := Lib.hid hb; clear hb)
            go_roundw
            case rel => exact ⟨k + 1, by omega, by go_num, by rw [HST.out]; exact B2⟩
            case measure => simp [intOf]; omega
    · obtain rfl : k = s.size := by omega
      rw [take_size] at hB
      have hcl := crt_len s.data.toList
      rw [len_list] at hcl
      have HX := Lib.hid (fun wr h => Bld.string_any w wr (crt s.data.toList) h)
      have hz := size_mk (crt s.data.toList)
      rcases ha : s.data.toList.any stp with _ | _
      · have hx : wrt s.data.toList = crt s.data.toList := by unfold wrt; rw [if_neg (by rw [ha]; decide)]
        have HE := Lib.hid hx
        rw [ha] at HA
        clear hx ha hcl hz
        go_wp2_with (first
          | (go_at_call 75; with_reducible refine (HA.out _).mono ?_; rintro r w1 ⟨rfl, hb⟩; have B1 := Lib.hid (hB.out.call hb); clear hb)
          | (go_at_call 38; with_reducible refine (HX.out _ B1.out).mono ?_; rintro r w2 ⟨rfl, hb⟩; have B2 := Lib.hid hb; clear hb))
        go_ret
        exact ⟨by rw [HE.out]; rfl, B2.out⟩
      · have hx : wrt s.data.toList = 34 :: (crt s.data.toList ++ [34]) := by unfold wrt; rw [if_pos ha]
        have hy : (ByteArray.mk #[34] ++ ByteArray.mk (crt s.data.toList).toArray ++ ByteArray.mk #[34]) = ⟨(wrt s.data.toList).toArray⟩ := by
          rw [hx, ← mk_list (ByteArray.mk #[34] ++ ByteArray.mk (crt s.data.toList).toArray ++ ByteArray.mk #[34]), app_one, one_app, mk_back]
          rfl
        have HE := Lib.hid hy
        rw [ha] at HA
        clear hx hy ha hcl
        generalize ByteArray.mk (crt s.data.toList).toArray = y at *
        have hz2 : y.size ≤ 2000 := by rw [hz]; have := crt_len s.data.toList; rw [len_list] at this; have := HS.out; omega
        clear hz
        go_wp2_with (first
          | (go_at_call 75; with_reducible refine (HA.out _).mono ?_; rintro r w1 ⟨rfl, hb⟩; have B1 := Lib.hid (hB.out.call hb); clear hb)
          | (go_at_call 38; with_reducible refine (HX.out _ B1.out).mono ?_; rintro r w2 ⟨rfl, hb⟩; have B2 := Lib.hid hb; clear hb))
        go_ret
        exact ⟨by rw [← HE.out]; rfl, B2.out⟩
theorem join_more (x y : List UInt8) (r : List (List UInt8)) (sep : List UInt8) : Lib.join (x :: y :: r) sep = x ++ (sep ++ Lib.join (y :: r) sep) := by
  rw [Lib.join_cons, Lib.join_cons]
  simp [Lib.joinTail]
theorem join_wrt : ∀ vs : List (List UInt8), Lib.join (vs.map wrt) [44] = joinV vs
  | [] => rfl
  | [v] => Lib.join_one _ _
  | v :: u :: t => by
    have ih := join_wrt (u :: t)
    rw [List.map_cons] at ih
    show Lib.join (wrt v :: wrt u :: t.map wrt) [44] = wrt v ++ 44 :: joinV (u :: t)
    rw [join_more, ih]
    rfl
/-- Texts with commas between. -/
theorem joinc_any (ts : List ByteArray) (hn : ts.length ≤ 100000) (a : Option Addr) (c : Nat) (w : World) (h : Rd w (txD ts) (.slice a ts.length c)) (hlen : (Lib.join (ts.map (·.data.toList)) [44]).length ≤ 100000000) :
    Calls Tryz.prog 61 #[.slice a ts.length c, .string ⟨#[44]⟩] w fun r w' => r = .returned (.string ⟨(Lib.join (ts.map (·.data.toList)) [44]).toArray⟩) ∧ Below w.heap.size w w' := by
  rcases Nat.eq_zero_or_pos ts.length with h0 | h0
  · obtain rfl := List.length_eq_zero_iff.1 h0
    exact (shJoinNone a c ⟨#[44]⟩ w).mono fun r w' x => ⟨x.1, x.2 ▸ Below.refl _ _⟩
  · have hcap := Rd.cap h
    obtain ⟨b, off, rfl, c0⟩ := text_at h h0
    refine shJoin b off c ts ⟨#[44]⟩ w (fun j x hx => ?_) (Tre.cell_lt c0) (by omega) hcap (by show (Lib.join (ts.map (·.data.toList)) [44]).length ≤ _; omega)
    obtain ⟨hj, rfl⟩ := List.getElem?_eq_some_iff.1 hx
    obtain ⟨b', off', e, c1⟩ := text_at h hj
    injection e with e
    injection e with e1 e2
    subst e1 e2
    exact c1
/-- A parameter in its box, and the texts of its first values. -/
structure Tl (w W : World) (p : PP) (a : Option Addr) (c : Nat) (ts : List ByteArray) (v : Value) : Prop where
  bp : Bp w W 46 p a c
  rd : Rd W (txD ts) v
theorem Tl.keep {w W W' : World} {p : PP} {a : Option Addr} {c : Nat} {ts : List ByteArray} {v : Value} (h : Tl w W p a c ts v) (hb : Below W.heap.size W W') : Tl w W' p a c ts v := ⟨h.bp.keep hb, h.rd.call hb⟩
theorem mks_map_data (ls : List (List UInt8)) : (mks ls).map (·.data.toList) = ls := by
  unfold mks
  rw [List.map_map]
  conv => rhs; rw [← List.map_id ls]
  exact List.map_congr_left fun l _ => mk_back l
set_option maxRecDepth 20000 in
set_option maxHeartbeats 1000000 in
theorem ptext_any (p : PP) (hp : Sm p) (a : Option Addr) (c : Nat) (w : World) (h : Rd w (txD (mks p.v)) (.slice a (mks p.v).length c)) :
    Calls Tryz.prog 37 #[.agg #[.string ⟨p.n.toArray⟩, .slice a p.v.length c]] w fun r w' => r = .returned (.string ⟨(prt p).toArray⟩) ∧ Below w.heap.size w w' := by
  have Z0 := Lib.hid (Bp.new 46 h)
  have HP := Lib.hid hp
  have hl := hp.2.1
  clear h hp
  have x0 := Z0.out.box.cell (i := 0) rfl
  have x1 := Z0.out.box.cell (i := 1) rfl
  have hbx : Bl w (w.alloc (.cells #[.string ⟨p.n.toArray⟩, .slice a p.v.length c] 46)) := (Bl.refl w).alloc _
  have HBX := Lib.hid hbx
  clear hbx
  go_enter Tryz.func37, Tryz.ntmps37
  go_wp2_with fail
  clear x0 x1
  generalize hw0 : w.alloc (.cells #[.string ⟨p.n.toArray⟩, .slice a p.v.length c] 46) = w0 at *
  clear hw0
  go_loopw [3, 5, 9] (fun v _ i wr => ∃ (k : Nat) (F : List Nat), k ≤ p.v.length ∧ i = .int .i64 k ∧ Hid (Bl w0 wr) ∧ Hid (Txt.Ow w0 wr (txD (mks ((p.v.take k).map wrt))) v F)) (fun _ _ i _ => p.v.length - (intOf i).toNat)
  case atStart => exact ⟨0, [], Nat.zero_le _, rfl, Lib.hid (Bl.refl w0), Lib.hid (Txt.Ow.nil _ _)⟩
  case round =>
    obtain ⟨k, F, hk, rfl, hb, ho⟩ := hrel
    have Z1 := Lib.hid (Z0.out.keep hb.out.below)
    by_cases h : k < p.v.length
    · have h' : (k : Int) < p.v.length := by omega
      obtain ⟨bb, off, rfl, c0⟩ := text_in Z1.out.vs h
      have hs := HP.out.2.2 p.v[k] (List.getElem_mem h)
      have hz := size_mk p.v[k]
      have HF : ∀ W, Calls Tryz.prog 60 #[.string ⟨p.v[k].toArray⟩] W fun r w' => r = .returned (.string ⟨(wrt p.v[k]).toArray⟩) ∧ Below W.heap.size W w' := fun W => by
        have := pwrite_any ⟨p.v[k].toArray⟩ (by rw [hz]; exact hs) W
        rwa [mk_back] at this
      have HF2 := Lib.hid HF
      clear HF
      obtain ⟨v1, c1, rfl⟩ := ho.out.sl
      have hnx : mks ((p.v.take (k + 1)).map wrt) = mks ((p.v.take k).map wrt) ++ [⟨(wrt p.v[k]).toArray⟩] := by
        rw [List.take_succ_eq_append_getElem h, List.map_append, List.map_singleton, mks_snoc]
      have hln : (mks ((p.v.take k).map wrt)).length = k := by rw [mks_len, List.length_map, List.length_take]; omega
      have HT := Lib.hid (fun W (hW : Below wr.heap.size wr W) => texts_new (ho.out.call hW) (hb.out.call hW) ⟨(wrt p.v[k]).toArray⟩ (by omega))
      rw [← hnx] at HT
      clear hnx hz
      generalize hts : mks ((p.v.take k).map wrt) = ts at *
      generalize hts2 : mks ((p.v.take (k + 1)).map wrt) = ts2 at *
      have HTS := Lib.hid hts2
      clear hts hts2 hln
      generalize ByteArray.mk (wrt p.v[k]).toArray = y at *
      generalize ByteArray.mk p.v[k].toArray = x at *
      go_wp2_with fail
      refine (HF2.out _).mono ?_
      rintro r w1 ⟨rfl, hbw⟩
      obtain ⟨v', w2, F', ra, ro, rb, -⟩ := HT.out w1 hbw
      have RA := Lib.hid ra
      have RO := Lib.hid ro
      have RB := Lib.hid rb
      clear ra ro rb hbw
      obtain ⟨v2, c2, rfl⟩ := RO.out.sl
      go_wp2_with (at_builtin; refine Byt.wpList_append_run rfl (.tmp 13) (.tmp 16) 44 44 rfl _ _ rfl rfl _ w2 RA.out ?_)
      go_roundw
      case rel => exact ⟨k + 1, F', by omega, by go_num, RB, by rw [HTS.out]; exact RO⟩
      case measure => simp [intOf]; omega
    · obtain rfl : k = p.v.length := by omega
      rw [List.take_of_length_le (Nat.le_refl _)] at ho
      obtain ⟨v1, c1, rfl⟩ := ho.out.sl
      have hjl := joinV_len 1000 p.v HP.out.2.2
      have hjw := join_wrt p.v
      have hln : (mks (p.v.map wrt)).length = p.v.length := by rw [mks_len, List.length_map]
      have hlen : (joinV p.v).length ≤ 1000 * 2003 := Nat.le_trans hjl (Nat.mul_le_mul_right _ hl)
      have hJ : ∀ W, Rd W (txD (mks (p.v.map wrt))) (.slice v1 (mks (p.v.map wrt)).length c1) → Calls Tryz.prog 61 #[.slice v1 (mks (p.v.map wrt)).length c1, .string ⟨#[44]⟩] W fun r w' => r = .returned (.string ⟨(joinV p.v).toArray⟩) ∧ Below W.heap.size W w' := fun W hW => by
        have := joinc_any (mks (p.v.map wrt)) (by omega) v1 c1 W hW (by rw [mks_map_data, hjw]; omega)
        rwa [mks_map_data, hjw] at this
      have HJ := Lib.hid hJ
      have HT : Hid (Tl w wr p a c (mks (p.v.map wrt)) (.slice v1 (mks (p.v.map wrt)).length c1)) := Lib.hid ⟨Z1.out, ho.out.own.rd⟩
      have hy : (ByteArray.mk #[59] ++ ByteArray.mk p.n.toArray ++ ByteArray.mk #[61] ++ ByteArray.mk (joinV p.v).toArray) = ⟨(prt p).toArray⟩ := by
        rw [← mk_list (ByteArray.mk #[59] ++ ByteArray.mk p.n.toArray ++ ByteArray.mk #[61] ++ ByteArray.mk (joinV p.v).toArray), list_app, app_one, one_app, mk_back, mk_back]
        show ByteArray.mk (59 :: p.n ++ [61] ++ joinV p.v).toArray = _
        unfold prt
        simp
      have HY := Lib.hid hy
      have hz1 := size_mk p.n
      have hz2 := size_mk (joinV p.v)
      have hn1 := HP.out.1
      clear hjl hjw hJ hy ho hln
      generalize mks (p.v.map wrt) = ts at *
      generalize ByteArray.mk (joinV p.v).toArray = y at *
      generalize hnm : ByteArray.mk p.n.toArray = nm at *
      have HNM := Lib.hid hnm
      clear hnm
      go_wp2_with fail
      have HG := HT.out.keep (Below.refl _ _).drew
      have g0 := fun z : Wd (fun W => Tl w W p a c ts (.slice v1 ts.length c1)) => z.ok.bp.box.cell (i := 0) rfl
      simp only [HNM.out] at g0
      have HK : Hid (∀ W W', Tl w W p a c ts (.slice v1 ts.length c1) → Below W.heap.size W W' → Tl w W' p a c ts (.slice v1 ts.length c1)) := Lib.hid (fun W W' h hb => h.keep hb)
      have K1 := Lib.hid (fun z : Wd (fun W => Tl w W p a c ts (.slice v1 ts.length c1)) => HJ.out z.W z.ok.rd)
      refine wp_region_class (fun W => Tl w W p a c ts (.slice v1 ts.length c1)) HG (by kernel_rfl) (by kernel_rfl) ?_
      intro hne
      clear HG
      repeat (first
        | go_big_quiet_step (fail)
        | go_big_quiet_step (exact wd_call HK.out (K1.out _)))
      refine wpQuiet_nil ?_
      rintro _ ⟨z, rfl⟩
      have HZ := Lib.hid z.ok.bp.bl
      clear g0 hne
      go_wp2_with fail
      go_ret
      exact ⟨by rw [← HY.out]; rfl, HZ.out.below⟩
set_option maxRecDepth 20000 in
set_option maxHeartbeats 1000000 in
theorem pprt_any (p : PP) (hp : Sm p) (a : Option Addr) (c : Nat) (w : World) (h : Rd w (txD (mks p.v)) (.slice a (mks p.v).length c)) :
    Calls Tryz.prog 25 #[.agg #[.string ⟨p.n.toArray⟩, .slice a p.v.length c]] w fun r w' => r = .returned (.tuple #[.string ⟨(prtR p).1.toArray⟩, .int .i64 (prtR p).2]) ∧ Below w.heap.size w w' := by
  have Z0 := Lib.hid (Bp.new 46 h)
  have HC := Lib.hid (fun W (hW : Rd W (txD (mks p.v)) (.slice a (mks p.v).length c)) => pchk_any p hp a c W hW)
  have HT := Lib.hid (fun W (hW : Rd W (txD (mks p.v)) (.slice a (mks p.v).length c)) => ptext_any p hp a c W hW)
  have hl := hp.2.1
  clear h hp
  have x0 := Z0.out.box.cell (i := 0) rfl
  have x1 := Z0.out.box.cell (i := 1) rfl
  have hV := Lib.hid Z0.out.vs
  by_cases n1 : chkP p = 0
  · have HX : prtR p = (prt p, 0) := by unfold prtR; rw [if_neg (by omega)]
    have HX2 := Lib.hid HX
    rw [n1] at HC
    clear HX n1
    go_enter Tryz.func25, Tryz.ntmps25
    go_wp2_with (first
      | (go_at_call 27; with_reducible refine (HC.out _ hV.out).mono ?_; rintro r w1 ⟨rfl, hbw⟩; have Z1 := Lib.hid (Z0.out.keep hbw); clear hbw x0 x1; have y0 := Z1.out.box.cell (i := 0) rfl; have y1 := Z1.out.box.cell (i := 1) rfl; have hV1 := Lib.hid Z1.out.vs)
      | (go_at_call 37; with_reducible refine (HT.out _ hV1.out).mono ?_; rintro r w2 ⟨rfl, hbw⟩; have Z2 := Lib.hid (Z1.out.keep hbw); clear hbw))
    go_ret2
    exact ⟨by rw [HX2.out]; rfl, Z2.out.bl.below⟩
  · have HX : prtR p = ([], chkP p) := by unfold prtR; rw [if_pos n1]
    have HX2 := Lib.hid HX
    have n2 : (chkP p != 0) = true := by simpa using n1
    generalize chkP p = q at *
    clear HX n1
    go_enter Tryz.func25, Tryz.ntmps25
    go_wp2_with (go_at_call 27; with_reducible refine (HC.out _ hV.out).mono ?_; rintro r w1 ⟨rfl, hbw⟩; have Z1 := Lib.hid (Z0.out.keep hbw); clear hbw x0 x1)
    go_ret2
    exact ⟨by rw [HX2.out]; rfl, Z1.out.bl.below⟩
/-- A builder whose box does not come first: behind some new blocks. -/
theorem bl_of {w w0 wr : World} (h : Bl w w0) (hb : Below w0.heap.size w0 wr) : Below w.heap.size w wr := (h.call hb).below
set_option maxRecDepth 20000 in
set_option maxHeartbeats 1000000 in
theorem pprts_any (ps : List PP) (hp : SmA ps) (a : Option Addr) (c : Nat) (hcap : (ps.length : Int) ≤ c) (w : World) (h : Rd w (psD 46 ps) (.slice a ps.length c)) :
    Calls Tryz.prog 16 #[.slice a ps.length c] w fun r w' => r = .returned (.tuple #[.string ⟨(prtAR ps).1.toArray⟩, .int .i64 (prtAR ps).2]) ∧ Below w.heap.size w w' := by
  have HC := Lib.hid (fun W (hW : Rd W (psD 46 ps) (.slice a ps.length c)) => pchks_any ps hp a c hcap W hW)
  have HR := Lib.hid h
  have HP := Lib.hid hp
  have HB := Lib.hid (Bl.refl w)
  have hl := hp.1
  clear h hp
  by_cases n1 : chkA ps = 0
  · have HX : prtAR ps = (prtA ps, 0) := by unfold prtAR; rw [if_neg (by omega)]
    have HX2 := Lib.hid HX
    have hw3 := chkA_was n1
    have hlen : ∀ k, (prtA (ps.take k)).length ≤ 4584 := fun k => by
      have := prtA_len (chkPs_take k hw3.2.1)
      have h2 : (ps.take k).length ≤ 6 := by rw [List.length_take]; omega
      omega
    have hp1 : ∀ k, (h : k < ps.length) → (prt ps[k]).length ≤ 764 := fun k h => prt_len (chkPs_at hw3.2.1 ps[k] (List.getElem_mem h))
    have HL := Lib.hid hlen
    have HL1 := Lib.hid hp1
    rw [n1] at HC
    clear HX n1 hw3 hlen hp1
    go_enter Tryz.func16, Tryz.ntmps16
    go_wp2_with (go_at_call 20; with_reducible refine (HC.out _ HR.out).mono ?_; rintro r w1 ⟨rfl, hbw⟩; have B1 := Lib.hid (HB.out.call hbw); clear hbw)
    have b0 := Lib.hid (Bld.Bu.start w1)
    go_loopw [7, 15] (fun _ i wr => ∃ k : Nat, k ≤ ps.length ∧ i = .int .i64 k ∧ Hid (Bld.Bu w1 wr (prtA (ps.take k)))) (fun _ i _ => ps.length - (intOf i).toNat)
    case atStart => exact ⟨0, Nat.zero_le _, rfl, Lib.hid b0.out⟩
    case round =>
      obtain ⟨k, hk, rfl, hB⟩ := hrel
      by_cases h : k < ps.length
      · have h' : (k : Int) < ps.length := by omega
        have hbw := Lib.hid (bl_of B1.out hB.out.bel)
        obtain ⟨bb, off, rfl, c0, a1, d1, c1, hv⟩ := param_at (HR.out.call hbw.out) h
        have HT := Lib.hid (fun W (hW : Rd W (txD (mks ps[k].v)) (.slice a1 (mks ps[k].v).length d1)) => ptext_any ps[k] (HP.out.2 ps[k] (List.getElem_mem h)) a1 d1 W hW)
        have HV := Lib.hid (hv.call (new1 wr (.cells #[.string ⟨ps[k].n.toArray⟩, .slice a1 ps[k].v.length d1] 46)))
        have HB2 := Lib.hid (hB.out.call (new1 wr (.cells #[.string ⟨ps[k].n.toArray⟩, .slice a1 ps[k].v.length d1] 46)))
        have hst := prtA_go h
        have hl1 := HL.out k
        have hl2 := HL1.out k h
        have hz := size_mk (prt ps[k])
        have HST := Lib.hid (hst.trans (by rw [mk_back] : _ = prtA (ps.take k) ++ (ByteArray.mk (prt ps[k]).toArray).data.toList))
        have HW := Lib.hid (fun wr h => Bld.write_any w1 wr (prtA (ps.take k)) ⟨(prt ps[k]).toArray⟩ h (by omega))
        clear hst hv hl1 hl2 hz
        generalize ByteArray.mk (prt ps[k]).toArray = y at *
        generalize ps[k] = p at *
        go_wp2_with (first
          | (go_at_call 37; with_reducible refine (HT.out _ HV.out).mono ?_; rintro r w2 ⟨rfl, hbw⟩; have B2 := Lib.hid (HB2.out.call hbw); clear hbw)
          | (go_at_call 36; with_reducible refine (HW.out _ B2.out).mono ?_; rintro r w3 ⟨rfl, hb⟩; have B3 := Lib.hid hb; clear hb))
        go_roundw
        case rel => exact ⟨k + 1, by omega, by go_num, by rw [HST.out]; exact B3⟩
        case measure => simp [intOf]; omega
      · obtain rfl : k = ps.length := by omega
        rw [List.take_of_length_le (Nat.le_refl _)] at hB
        have HS := Lib.hid (fun wr h => Bld.string_any w1 wr (prtA ps) h)
        go_wp2_with (go_at_call 38; with_reducible refine (HS.out _ hB.out).mono ?_; rintro r w2 ⟨rfl, hb⟩; have B2 := Lib.hid (bl_of B1.out hb); clear hb)
        go_ret2
        exact ⟨by rw [HX2.out]; rfl, B2.out⟩
  · have HX : prtAR ps = ([], chkA ps) := by unfold prtAR; rw [if_pos n1]
    have HX2 := Lib.hid HX
    have n2 : (chkA ps != 0) = true := by simpa using n1
    generalize chkA ps = q at *
    clear HX n1
    go_enter Tryz.func16, Tryz.ntmps16
    go_wp2_with (go_at_call 20; with_reducible refine (HC.out _ HR.out).mono ?_; rintro r w1 ⟨rfl, hbw⟩; have B1 := Lib.hid (HB.out.call hbw); clear hbw)
    go_ret2
    exact ⟨by rw [HX2.out]; rfl, B1.out.below⟩
end Go.Proofs.YtndbgdapojkfaaaGreatDoor.Par

/- Contracts of package param: read (signs that a caret stands for, by a function value). -/
set_option linter.unusedVariables false
namespace Go.Proofs.YtndbgdapojkfaaaGreatDoor.Par
open Go.RowKit Go.Deep Go.Proofs.YtndbgdapojkfaaaGreatDoor.Byt Go.Proofs.YtndbgdapojkfaaaGreatDoor.Utf Go.Proofs.YtndbgdapojkfaaaGreatDoor.Tre Go.Proofs.YtndbgdapojkfaaaGreatDoor.Txt

theorem isB_set {T e : TypeId} {B b : Nat} {bs : List Value} {w : World} (h : Lib.IsBuilder T e B b bs w) {q : Addr} (hq : q.block < B) (u : Value) : Lib.IsBuilder T e B b bs (w.setCell q u) := by
  have go : ∀ p, Lib.BuilderAt T e B b p bs w → Lib.BuilderAt T e B b p bs (w.setCell q u) := by
    intro p h
    obtain ⟨hB, v, hh, hown, hne⟩ := h
    refine ⟨hB, v, (Below.heap_setCell w q u b (by omega)).trans hh, hown.kept (row := some q.block) ⟨rfl, rfl, rfl, by simp [World.setCell], fun k _ hk => Below.heap_setCell _ _ _ _ (fun e => hk (by simp [e]))⟩ ?_, hne⟩
    cases hv : v.ownBlock with
    | none => exact .inl rfl
    | some g =>
      have := hown.lt g hv
      refine .inr ?_
      intro e
      injection e with e
      omega
  exact h.imp (go _) (go _)
/-- A text in its box, and behind it a builder that holds these bytes. -/
structure Br (w wr : World) (t : ByteArray) (l : List UInt8) : Prop where
  bel : Below w.heap.size w wr
  box : Tre.Blk wr w.heap.size 9 [.string t]
  bld : Lib.IsBuilder 78 5 (w.heap.size + 1) (w.heap.size + 1) (Lib.byteCells l) wr
theorem Br.lt {w wr : World} {t : ByteArray} {l : List UInt8} (h : Br w wr t l) : w.heap.size + 1 < wr.heap.size := h.bld.elim (fun h => h.lt) (fun h => h.lt)
theorem Br.start (w : World) (t : ByteArray) : Br w ((w.alloc (.cells #[.string t] 9)).alloc (.cells #[.pointer none, .slice none 0 0] 78)) t [] := by
  have := Lib.fresh_isBuilder 78 5 (w.alloc (.cells #[.string t] 9))
  rw [show (w.alloc (.cells #[.string t] 9)).heap.size = w.heap.size + 1 by simp] at this
  exact ⟨((Bl.refl w).alloc _ |>.alloc _).below, (Tre.Blk.new w 9 [.string t]).alloc _, this⟩
theorem Br.byte {w wr : World} {t : ByteArray} {l : List UInt8} (h : Br w wr t l) (c : UInt8) {z : Int} (hz : z = c.toNat) (hl : l.length + 1 ≤ 140737488355328) :
    Calls Tryz.prog 74 #[.pointer (some ⟨w.heap.size + 1, 0, none⟩), .int .u8 z] wr fun r w' => r = .returned .nilIface ∧ Br w w' t (l ++ [c]) := by
  subst hz
  have hlt := h.lt
  refine (shByte (w.heap.size + 1) (w.heap.size + 1) _ c.toNat wr h.bld (by rw [Lib.byteCells_length]; exact hl) (by omega)).mono ?_
  rintro r w' ⟨rfl, hb, hw⟩
  have e : Lib.byteCells l ++ [.int .u8 (c.toNat : Int)] = Lib.byteCells (l ++ [c]) := by rw [Lib.byteCells_append]; rfl
  rw [e] at hb
  exact ⟨rfl, h.bel.trans (hw.mono (by omega)), h.box.kept (hw.block _ (by omega)), .inr hb⟩
theorem Br.set {w wr : World} {t : ByteArray} {l : List UInt8} (h : Br w wr t l) (u : ByteArray) : Br w (wr.setCell ⟨w.heap.size, 0, none⟩ (.string u)) u l :=
  ⟨h.bel.setCell (p := ⟨w.heap.size, 0, none⟩) (Nat.le_refl _) _, h.box.set_ 0 (.string u), isB_set h.bld (by show w.heap.size < _; omega) _⟩
set_option maxRecDepth 20000 in
theorem put_any (w wr : World) (t : ByteArray) (l : List UInt8) (c : UInt8) (k : Nat) {z y : Int} (hz : z = c.toNat) (hy : y = k) (hk : k ≤ t.size) (h : Br w wr t l) (ht : t.size ≤ 100000) (hl : l.length ≤ 100000) :
    Calls Tryz.prog 90 #[.int .u8 z, .int .i64 y, .pointer (some ⟨w.heap.size + 1, 0, none⟩), .pointer (some ⟨w.heap.size, 0, none⟩)] wr fun r w' => r = .returned (.tuple #[]) ∧ Br w w' (t.extract k t.size) (l ++ [c]) := by
  subst hz hy
  have HB := Lib.hid (h.byte c rfl (by omega))
  have hk' : (k : Int) ≤ t.size := by omega
  clear h
  go_enter Tryz.func90, Tryz.ntmps90
  go_wp2_with fail
  refine (HB.out).mono ?_
  rintro r w1 ⟨rfl, h1⟩
  have H1 := Lib.hid h1
  clear h1
  have x0 := H1.out.box.cell (i := 0) rfl
  have f0 := H1.out.box.frozen 0
  go_wp2_with fail
  go_end0
  exact ⟨rfl, H1.out.set _⟩
theorem pre2 (a b : UInt8) : ∀ {L : List UInt8}, Lib.hasPrefix L [a, b] = true → ∃ t, L = a :: b :: t := by
  intro L h
  unfold Lib.hasPrefix at h
  obtain ⟨t, rfl⟩ := List.isPrefixOf_iff_prefix.1 h
  exact ⟨t, rfl⟩
theorem pre2_no {a b c d : UInt8} {t : List UInt8} (h : Lib.hasPrefix (c :: d :: t) [a, b] = false) (hc : c = a) : d ≠ b := by
  rintro rfl
  subst hc
  have : Lib.hasPrefix (c :: d :: t) [c, d] = true := by unfold Lib.hasPrefix; exact List.isPrefixOf_iff_prefix.2 ⟨t, rfl⟩
  rw [this] at h
  cases h
/-- A byte that stands for itself. -/
theorem rd_self {c : UInt8} {t : List UInt8} (h1 : Lib.hasPrefix (c :: t) [94, 94] = false) (h2 : Lib.hasPrefix (c :: t) [94, 110] = false) (h3 : Lib.hasPrefix (c :: t) [94, 39] = false) : rd (c :: t) = c :: rd t := by
  by_cases hc : c.toNat = 94
  · have e : c = 94 := UInt8.toNat_inj.1 hc
    cases t with
    | nil => rw [rd_end hc, rd_nil]
    | cons d t =>
      have n1 := pre2_no h1 e
      have n2 := pre2_no h2 e
      have n3 := pre2_no h3 e
      refine rd_care hc ?_ t
      unfold tc
      rw [if_neg (fun x : d.toNat = 94 => n1 (UInt8.toNat_inj.1 x)), if_neg (fun x : d.toNat = 110 => n2 (UInt8.toNat_inj.1 x)), if_neg (fun x : d.toNat = 39 => n3 (UInt8.toNat_inj.1 x))]
  · exact rd_byte hc t
theorem ext_list (t : ByteArray) (k : Nat) : (t.extract k t.size).data.toList = t.data.toList.drop k := tail_list' t k
set_option maxRecDepth 20000 in
set_option maxHeartbeats 1000000 in
theorem pread_any (s : ByteArray) (hs : s.size ≤ 6000) (w : World) : Calls Tryz.prog 81 #[.string s] w fun r w' => r = .returned (.string ⟨(rd s.data.toList).toArray⟩) ∧ Below w.heap.size w w' := by
  have HS := Lib.hid hs
  have b0 := Lib.hid (Br.start w s)
  go_enter Tryz.func81, Tryz.ntmps81
  go_wp2_with fail
  go_loopg [12, 17, 22] s.size (fun g _ _ _ wr => ∃ (t : ByteArray) (l : List UInt8), t.size ≤ g ∧ t.size + l.length ≤ s.size ∧ Hid (Br w wr t l) ∧ Hid (l ++ rd t.data.toList = rd s.data.toList))
  case atStart => exact ⟨s, [], Nat.le_refl _, by simp, b0, Lib.hid (List.nil_append _)⟩
  case round =>
    obtain ⟨t, l, hg, htl, hB, hr⟩ := hrel
    have ht6 := HS.out
    have x0 := hB.out.box.cell (i := 0) rfl
    have P1 := Lib.hid (fun W => (shPre t ⟨#[94, 94]⟩ W).mono fun r w' x => (⟨x.1, x.2.symm⟩ : r = .returned (.bool (Lib.hasPrefix t.data.toList [94, 94])) ∧ W = w'))
    have P2 := Lib.hid (fun W => (shPre t ⟨#[94, 110]⟩ W).mono fun r w' x => (⟨x.1, x.2.symm⟩ : r = .returned (.bool (Lib.hasPrefix t.data.toList [94, 110])) ∧ W = w'))
    have P3 := Lib.hid (fun W => (shPre t ⟨#[94, 39]⟩ W).mono fun r w' x => (⟨x.1, x.2.symm⟩ : r = .returned (.bool (Lib.hasPrefix t.data.toList [94, 39])) ∧ W = w'))
    have HPUT := Lib.hid (fun c k z y hz hy hk => put_any w wr t l c k (z := z) (y := y) hz hy hk hB.out (by omega) (by omega))
    have hlen := len_list t
    by_cases h : t.size = 0
    · have he : t.toList.isEmpty = true := by rw [ByteArray.toList_eq, List.length_eq_zero_iff.1 (hlen.trans h)]; rfl
      have hx : rd s.data.toList = l := by rw [← hr.out, List.length_eq_zero_iff.1 (hlen.trans h), rd_nil, List.append_nil]
      have HX := Lib.hid hx
      have HT : Hid (∀ W, Br w W t l → Calls Tryz.prog 38 #[.pointer (some ⟨w.heap.size + 1, 0, none⟩)] W fun r w' => r = .returned (.string ⟨l.toArray⟩) ∧ Below w.heap.size w w') := Lib.hid (fun W hW => by
        refine (shString (w.heap.size + 1) (w.heap.size + 1) l W hW.bld (by have := hW.lt; omega)).mono ?_
        rintro r w' ⟨rfl, hb⟩
        exact ⟨rfl, hW.bel.trans (hb.mono (by omega))⟩)
      clear hx hlen h
      go_wp2_with (go_at_call 38; with_reducible refine (HT.out _ hB.out).mono ?_; rintro r w2 ⟨rfl, hb⟩; have B2 := Lib.hid hb; clear hb)
      go_ret
      exact ⟨by rw [HX.out]; rfl, B2.out⟩
    · have he : t.toList.isEmpty = false := by
        rw [ByteArray.toList_eq]
        rcases hl : t.data.toList with _ | ⟨x, u⟩
        · exact absurd (by rw [← hlen, hl]; rfl) h
        · rfl
      rcases h1 : Lib.hasPrefix t.data.toList [94, 94] with _ | _
      · rcases h2 : Lib.hasPrefix t.data.toList [94, 110] with _ | _
        · rcases h3 : Lib.hasPrefix t.data.toList [94, 39] with _ | _
          · rcases hd : t.data.toList with _ | ⟨c, u⟩
            · exact absurd (by rw [← hlen, hd]; rfl) h
            · have h2z : 1 ≤ t.size := by omega
              rw [hd] at h1 h2 h3
              have hc : t[0]'(by omega) = c := by
                have e := drop_at (s := t) (k := 0) (by omega)
                rw [List.drop_zero, hd] at e
                injection e with e1 e2
                exact e1.symm
              have HN : Hid ((l ++ [t[0]'(by omega)]) ++ rd (t.extract 1 t.size).data.toList = rd s.data.toList) := Lib.hid (by
                rw [ext_list, ← hr.out, hd, rd_self h1 h2 h3, hc]
                simp)
              have HZ := Lib.hid (show (t.extract 1 t.size).size = t.size - 1 by rw [ByteArray.size_extract]; omega)
              have HP := Lib.hid (HPUT.out (t[0]'(by omega)) 1 ((t[0]'(by omega)).toNat : Int) 1 rfl rfl h2z)
              rw [hd, h1] at P1
              rw [hd, h2] at P2
              rw [hd, h3] at P3
              have i0 : (0 : Int) < t.size := by omega
              clear h1 h2 h3 hd hc hr HPUT
              go_wp2_with (first
                | (go_at_call 51; with_reducible refine (P1.out _).mono ?_; rintro r w' ⟨rfl, rfl⟩)
                | (go_at_call 51; with_reducible refine (P2.out _).mono ?_; rintro r w' ⟨rfl, rfl⟩)
                | (go_at_call 51; with_reducible refine (P3.out _).mono ?_; rintro r w' ⟨rfl, rfl⟩)
                | (go_at_call 90; with_reducible refine (HP.out).mono ?_; rintro r w2 ⟨rfl, hb⟩; have B2 := Lib.hid hb; clear hb))
              go_roundg (t.size - 1)
              case measure => omega
              case rel => exact ⟨_, l ++ [_], by rw [HZ.out]; exact Nat.le_refl _, by rw [HZ.out, List.length_append]; show _ + (_ + 1) ≤ _; omega, B2, HN⟩
          · obtain ⟨u, hu⟩ := pre2 _ _ h3
            have h2z : 2 ≤ t.size := by rw [← hlen, hu, List.length_cons, List.length_cons]; omega
            have HN : Hid ((l ++ [34]) ++ rd (t.extract 2 t.size).data.toList = rd s.data.toList) := Lib.hid (by
              rw [ext_list, ← hr.out, hu, rd_told (by decide) (show tc 39 = some 34 by decide)]
              simp)
            have HZ := Lib.hid (show (t.extract 2 t.size).size = t.size - 2 by rw [ByteArray.size_extract]; omega)
            have HP := Lib.hid (HPUT.out 34 2 34 2 rfl rfl h2z)
            rw [h3] at P3
            rw [h1] at P1
            rw [h2] at P2
            clear h3 hu hlen hr HPUT
            go_wp2_with (first
              | (go_at_call 51; with_reducible refine (P1.out _).mono ?_; rintro r w' ⟨rfl, rfl⟩)
              | (go_at_call 51; with_reducible refine (P2.out _).mono ?_; rintro r w' ⟨rfl, rfl⟩)
              | (go_at_call 51; with_reducible refine (P3.out _).mono ?_; rintro r w' ⟨rfl, rfl⟩)
              | (go_at_call 90; with_reducible refine (HP.out).mono ?_; rintro r w2 ⟨rfl, hb⟩; have B2 := Lib.hid hb; clear hb))
            go_roundg (t.size - 2)
            case measure => omega
            case rel => exact ⟨_, l ++ [34], by rw [HZ.out]; exact Nat.le_refl _, by rw [HZ.out, List.length_append]; show _ + (_ + 1) ≤ _; omega, B2, HN⟩
        · obtain ⟨u, hu⟩ := pre2 _ _ h2
          have h2z : 2 ≤ t.size := by rw [← hlen, hu, List.length_cons, List.length_cons]; omega
          have HN : Hid ((l ++ [10]) ++ rd (t.extract 2 t.size).data.toList = rd s.data.toList) := Lib.hid (by
            rw [ext_list, ← hr.out, hu, rd_told (by decide) (show tc 110 = some 10 by decide)]
            simp)
          have HZ := Lib.hid (show (t.extract 2 t.size).size = t.size - 2 by rw [ByteArray.size_extract]; omega)
          have HP := Lib.hid (HPUT.out 10 2 10 2 rfl rfl h2z)
          rw [h2] at P2
          rw [h1] at P1
          clear h2 hu hlen hr HPUT
          go_wp2_with (first
            | (go_at_call 51; with_reducible refine (P1.out _).mono ?_; rintro r w' ⟨rfl, rfl⟩)
            | (go_at_call 51; with_reducible refine (P2.out _).mono ?_; rintro r w' ⟨rfl, rfl⟩)
            | (go_at_call 90; with_reducible refine (HP.out).mono ?_; rintro r w2 ⟨rfl, hb⟩; have B2 := Lib.hid hb; clear hb))
          go_roundg (t.size - 2)
          case measure => omega
          case rel => exact ⟨_, l ++ [10], by rw [HZ.out]; exact Nat.le_refl _, by rw [HZ.out, List.length_append]; show _ + (_ + 1) ≤ _; omega, B2, HN⟩
      · obtain ⟨u, hu⟩ := pre2 _ _ h1
        have h2z : 2 ≤ t.size := by rw [← hlen, hu, List.length_cons, List.length_cons]; omega
        have HN : Hid ((l ++ [94]) ++ rd (t.extract 2 t.size).data.toList = rd s.data.toList) := Lib.hid (by
          rw [ext_list, ← hr.out, hu, rd_told (by decide) (show tc 94 = some 94 by decide)]
          simp)
        have HZ := Lib.hid (show (t.extract 2 t.size).size = t.size - 2 by rw [ByteArray.size_extract]; omega)
        have HP := Lib.hid (HPUT.out 94 2 94 2 rfl rfl h2z)
        rw [h1] at P1
        clear h1 hu hlen hr HPUT
        go_wp2_with (first
          | (go_at_call 51; with_reducible refine (P1.out _).mono ?_; rintro r w' ⟨rfl, rfl⟩)
          | (go_at_call 90; with_reducible refine (HP.out).mono ?_; rintro r w2 ⟨rfl, hb⟩; have B2 := Lib.hid hb; clear hb))
        go_roundg (t.size - 2)
        case measure => omega
        case rel => exact ⟨_, l ++ [94], by rw [HZ.out]; exact Nat.le_refl _, by rw [HZ.out, List.length_append]; show _ + (_ + 1) ≤ _; omega, B2, HN⟩
end Go.Proofs.YtndbgdapojkfaaaGreatDoor.Par
