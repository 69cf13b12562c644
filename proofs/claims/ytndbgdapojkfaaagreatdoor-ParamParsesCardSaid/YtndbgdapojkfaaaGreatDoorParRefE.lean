/- Contracts of the document's param (errandref17): Print, PrintAll. -/
import Derived.Test.YtndbgdapojkfaaaGreatDoorParRefD
import Derived.Test.YtndbgdapojkfaaaGreatDoorPln
set_option linter.unusedVariables false
namespace Go.Proofs.YtndbgdapojkfaaaGreatDoor.Par
open Go.RowKit Go.Deep Go.Proofs.YtndbgdapojkfaaaGreatDoor.Byt Go.Proofs.YtndbgdapojkfaaaGreatDoor.Utf Go.Proofs.YtndbgdapojkfaaaGreatDoor.Tre Go.Proofs.YtndbgdapojkfaaaGreatDoor.Txt

/-- What Print answers; what PrintAll answers. -/
def prtR (p : PP) : List UInt8 × Int := if chkP p ≠ 0 then ([], chkP p) else (prt p, 0)
def prtAR (ps : List PP) : List UInt8 × Int := if chkA ps ≠ 0 then ([], chkA ps) else (prtA ps, 0)
theorem joinV_go {vs : List (List UInt8)} {k : Nat} (h : k < vs.length) : joinV (vs.take (k + 1)) = if k = 0 then wrt vs[k] else joinV (vs.take k) ++ 44 :: wrt vs[k] := by
  rw [List.take_succ_eq_append_getElem h, joinV_snoc]
  by_cases h0 : k = 0
  · subst h0; rw [if_pos rfl, if_pos (by simp)]
  · rw [if_neg h0, if_neg (by intro e; have := congrArg List.length e; rw [List.length_take, List.length_nil] at this; omega)]
theorem prt_len {p : PP} (h : chkP p = 0) : (prt p).length ≤ 764 := by
  have h1 : chkPs [p] = 0 := by unfold chkPs; rw [if_neg (by omega)]; rfl
  have := prtA_len h1
  simpa [prtA] using this
theorem one_app (c : UInt8) (s : ByteArray) : (ByteArray.mk #[c] ++ s).data.toList = c :: s.data.toList := by rw [list_app]; rfl
theorem app_one (c : UInt8) (s : ByteArray) : (s ++ ByteArray.mk #[c]).data.toList = s.data.toList ++ [c] := by rw [list_app]
set_option maxRecDepth 20000 in
set_option maxHeartbeats 1000000 in
theorem rprt_any (p : PP) (hp : Sm p) (a : Option Addr) (c : Nat) (w : World) (h : Rd w (txD (mks p.v)) (.slice a (mks p.v).length c)) :
    Calls Tryz.prog 26 #[.agg #[.string ⟨p.n.toArray⟩, .slice a p.v.length c]] w fun r w' => r = .returned (.tuple #[.string ⟨(prtR p).1.toArray⟩, .int .i64 (prtR p).2]) ∧ Below w.heap.size w w' := by
  have Z0 := Lib.hid (Bp.new 49 h)
  have HC := Lib.hid (fun W (hW : Rd W (txD (mks p.v)) (.slice a (mks p.v).length c)) => rchk_any p hp a c W hW)
  have HP := Lib.hid hp
  have hl := hp.2.1
  clear h hp
  have x0 := Z0.out.box.cell (i := 0) rfl
  have x1 := Z0.out.box.cell (i := 1) rfl
  have hV := Z0.out.vs
  by_cases n1 : chkP p = 0
  · have HX : prtR p = (prt p, 0) := by unfold prtR; rw [if_neg (by omega)]
    have HX2 := Lib.hid HX
    have hpl := prt_len n1
    have hw6 := chkP_was n1
    rw [n1] at HC
    have hps : prt p = 59 :: (p.n ++ 61 :: joinV p.v) := rfl
    have hj : ∀ k, k ≤ p.v.length → (joinV (p.v.take k)).length ≤ 738 := fun k hk => by
      have := joinV_len 60 (p.v.take k) (fun v hv => chkVs_len hw6.2.2.2 v (List.mem_of_mem_take hv))
      have h2 : (p.v.take k).length ≤ 6 := by rw [List.length_take]; omega
      omega
    have hn := (of_decide_eq_true hw6.1).2.2
    have HJ := Lib.hid hj
    have HPS := Lib.hid hps
    have HW6 := Lib.hid hw6
    clear HX n1 hj hps hw6
    go_enter Tryz.func26, Tryz.ntmps26
    go_wp2_with (go_at_call 28; with_reducible refine (HC.out _ hV).mono ?_; rintro r w1 ⟨rfl, hbw⟩; have Z1 := Lib.hid (Z0.out.keep hbw); clear hbw x0 x1 hV; have x0 := Z1.out.box.cell (i := 0) rfl; have x1 := Z1.out.box.cell (i := 1) rfl)
    have HS0 : Hid ((ByteArray.mk #[59] ++ ByteArray.mk p.n.toArray ++ ByteArray.mk #[61]).data.toList = 59 :: (p.n ++ [61]) ++ joinV (p.v.take 0)) := Lib.hid (by rw [app_one, one_app, mk_back, List.take_zero, show joinV [] = [] from rfl]; simp)
    have hz := size_mk p.n
    go_wp2_with fail
    go_loop [5, 6] (fun xv iv => ∃ (x : ByteArray) (k : Nat), k ≤ p.v.length ∧ xv = .string x ∧ iv = .int .i64 k ∧ x.size ≤ 800 ∧ Hid (x.data.toList = 59 :: (p.n ++ [61]) ++ joinV (p.v.take k))) (fun _ iv => p.v.length - (intOf iv).toNat)
    case atStart => exact ⟨_, 0, Nat.zero_le _, rfl, rfl, by rw [ByteArray.size_append, ByteArray.size_append, hz]; show 1 + _ + 1 ≤ _; omega, HS0⟩
    case round =>
      obtain ⟨x, k, hk, rfl, rfl, hx, hs⟩ := hrel
      by_cases h : k < p.v.length
      · have h' : (k : Int) < p.v.length := by omega
        obtain ⟨bb, off, rfl, c0⟩ := text_in Z1.out.vs h
        have hzv := size_mk p.v[k]
        have hv6 := HP.out.2.2 p.v[k] (List.getElem_mem h)
        have HWR : ∀ W, Calls Tryz.prog 45 #[.string ⟨p.v[k].toArray⟩] W fun r w' => r = .returned (.string ⟨(wrt p.v[k]).toArray⟩) ∧ W = w' := fun W => by
          have := write_any ⟨p.v[k].toArray⟩ (by rw [hzv]; exact hv6) W
          rwa [mk_back] at this
        have HWR2 := Lib.hid HWR
        have hjg := joinV_go h
        have hjl := HJ.out (k + 1) (by omega)
        have hyz := size_mk (wrt p.v[k])
        have hyl := mk_back (wrt p.v[k])
        have hwl := wrt_len p.v[k]
        have hv60 := chkVs_len HW6.out.2.2.2 p.v[k] (List.getElem_mem h)
        have h15 : ∀ z : ByteArray, z.data.toList = 59 :: (p.n ++ [61]) ++ joinV (p.v.take (k + 1)) → z.size ≤ 800 := fun z hz' => by
          have := congrArg List.length hz'
          rw [len_list, List.length_append, List.length_cons, List.length_append, List.length_singleton] at this
          omega
        have H15 := Lib.hid h15
        clear HWR h15
        by_cases k0 : k = 0
        · subst k0
          rw [if_pos rfl] at hjg
          rw [Nat.add_zero] at c0
          have HN := Lib.hid (by rw [list_app, hyl, hs.out, hjg, List.take_zero]; show _ ++ [] ++ _ = _; rw [List.append_nil] : (x ++ ByteArray.mk (wrt p.v[0]).toArray).data.toList = 59 :: (p.n ++ [61]) ++ joinV (p.v.take (0 + 1)))
          have hyb : (ByteArray.mk (wrt p.v[0]).toArray).size ≤ 200 := by omega
          clear hjg hyl hs hyz hwl hjl
          generalize ByteArray.mk (wrt p.v[0]).toArray = y at *
          go_wp2_with (go_at_call 45; with_reducible refine (HWR2.out _).mono ?_; rintro r w2 ⟨rfl, rfl⟩)
          go_round
          case rel => exact ⟨_, 0 + 1, by omega, rfl, by go_num, H15.out _ HN.out, HN⟩
          case measure => simp [intOf]; omega
        · rw [if_neg k0] at hjg
          have k1 : (0 : Int) < k := by omega
          have HN := Lib.hid (by rw [list_app, app_one, hyl, hs.out, hjg]; simp : (x ++ ByteArray.mk #[44] ++ ByteArray.mk (wrt p.v[k]).toArray).data.toList = 59 :: (p.n ++ [61]) ++ joinV (p.v.take (k + 1)))
          have hyb : (ByteArray.mk (wrt p.v[k]).toArray).size ≤ 200 := by omega
          clear hjg hyl hs hyz hwl hjl k0
          generalize ByteArray.mk (wrt p.v[k]).toArray = y at *
          go_wp2_with (go_at_call 45; with_reducible refine (HWR2.out _).mono ?_; rintro r w2 ⟨rfl, rfl⟩)
          go_round
          case rel => exact ⟨_, k + 1, by omega, rfl, by go_num, H15.out _ HN.out, HN⟩
          case measure => simp [intOf]; omega
      · obtain rfl : k = p.v.length := by omega
        have hs' := hs.out
        rw [List.take_of_length_le (Nat.le_refl _)] at hs'
        have HE := Lib.hid (by rw [HX2.out]; show ByteArray.mk (prt p).toArray = x; rw [HPS.out, ← mk_list x, hs']; simp : ByteArray.mk (prtR p).1.toArray = x)
        have HE2 := Lib.hid (by rw [HX2.out] : (prtR p).2 = 0)
        clear hs hs'
        go_wp2_with fail
        go_ret2
        exact ⟨by rw [HE.out, HE2.out]; rfl, Z1.out.bl.below⟩
  · have HX : prtR p = ([], chkP p) := by unfold prtR; rw [if_pos n1]
    have HX2 := Lib.hid HX
    generalize chkP p = q at *
    clear HX
    go_enter Tryz.func26, Tryz.ntmps26
    go_wp2_with (go_at_call 28; with_reducible refine (HC.out _ hV).mono ?_; rintro r w1 ⟨rfl, hbw⟩; have Z1 := Lib.hid (Z0.out.keep hbw); clear hbw x0 x1 hV)
    go_ret2
    exact ⟨by rw [HX2.out]; rfl, Z1.out.bl.below⟩
theorem prtA_go {ps : List PP} {k : Nat} (h : k < ps.length) : prtA (ps.take (k + 1)) = prtA (ps.take k) ++ prt ps[k] := by
  rw [List.take_succ_eq_append_getElem h, prtA_snoc]
theorem chkPs_at : ∀ {ps : List PP}, chkPs ps = 0 → ∀ p ∈ ps, chkP p = 0
  | q :: t, h, p, hp => by
    obtain ⟨c1, c2⟩ := chkPs_cons h
    rcases List.mem_cons.1 hp with rfl | hp
    · exact c1
    · exact chkPs_at c2 p hp
theorem chkPs_take : ∀ {ps : List PP} (k : Nat), chkPs ps = 0 → chkPs (ps.take k) = 0
  | [], k, _ => by rw [List.take_nil]; rfl
  | q :: t, 0, _ => rfl
  | q :: t, k + 1, h => by
    obtain ⟨c1, c2⟩ := chkPs_cons h
    rw [List.take_succ_cons]
    unfold chkPs
    rw [if_neg (by omega)]
    exact chkPs_take k c2
set_option maxRecDepth 20000 in
set_option maxHeartbeats 1000000 in
theorem rprts_any (ps : List PP) (hp : SmA ps) (a : Option Addr) (c : Nat) (hcap : (ps.length : Int) ≤ c) (w : World) (h : Rd w (psD 49 ps) (.slice a ps.length c)) :
    Calls Tryz.prog 17 #[.slice a ps.length c] w fun r w' => r = .returned (.tuple #[.string ⟨(prtAR ps).1.toArray⟩, .int .i64 (prtAR ps).2]) ∧ Below w.heap.size w w' := by
  have HC := Lib.hid (fun W (hW : Rd W (psD 49 ps) (.slice a ps.length c)) => rchks_any ps hp a c hcap W hW)
  have HP := Lib.hid hp
  have HR := Lib.hid h
  have hl := hp.1
  clear h hp
  by_cases n1 : chkA ps = 0
  · have HX2 := Lib.hid (by unfold prtAR; rw [if_neg (by omega)] : prtAR ps = (prtA ps, 0))
    have HW := Lib.hid (chkA_was n1)
    have h6 := (chkA_was n1).1
    rw [n1] at HC
    clear n1
    go_enter Tryz.func17, Tryz.ntmps17
    go_wp2_with (go_at_call 21; with_reducible refine (HC.out _ HR.out).mono ?_; rintro r w1 ⟨rfl, hbw⟩; have HB1 := Lib.hid ((Bl.refl w).call hbw); clear hbw)
    go_loopw [5, 6, 7, 8] (fun xv iv _ _ wr => ∃ (x : ByteArray) (k : Nat), k ≤ ps.length ∧ xv = .string x ∧ iv = .int .i64 k ∧ x.size ≤ 764 * k ∧ Hid (x.data.toList = prtA (ps.take k)) ∧ Hid (Bl w wr)) (fun _ iv _ _ _ => ps.length - (intOf iv).toNat)
    case atStart => exact ⟨_, 0, Nat.zero_le _, rfl, rfl, Nat.le_refl _, Lib.hid rfl, HB1⟩
    case round =>
      obtain ⟨x, k, hk, rfl, rfl, hx, hs, hb⟩ := hrel
      by_cases h : k < ps.length
      · have h' : (k : Int) < ps.length := by omega
        have hx2 : x.size ≤ 5000 := by omega
        obtain ⟨bb, off, rfl, c0, a1, d1, c1, hv⟩ := param_at (HR.out.call hb.out.below) h
        have hcp := chkPs_at HW.out.2.1 ps[k] (List.getElem_mem h)
        have hr : prtR ps[k] = (prt ps[k], 0) := by unfold prtR; rw [if_neg (by omega)]
        have HQ := Lib.hid (fun W (hW : Rd W (txD (mks ps[k].v)) (.slice a1 (mks ps[k].v).length d1)) => rprt_any ps[k] (HP.out.2 ps[k] (List.getElem_mem h)) a1 d1 W hW)
        rw [hr] at HQ
        have HV := Lib.hid hv
        have hyz := size_mk (prt ps[k])
        have hpl := prt_len hcp
        have HN := Lib.hid (by rw [list_app, mk_back, hs.out, ← prtA_go h] : (x ++ ByteArray.mk (prt ps[k]).toArray).data.toList = prtA (ps.take (k + 1)))
        have hyb : (ByteArray.mk (prt ps[k]).toArray).size ≤ 764 := by omega
        clear hs hv hcp hr hyz hpl
        generalize ps[k] = p at *
        generalize ByteArray.mk (prt p).toArray = y at *
        go_wp2_with (go_at_call 26; with_reducible refine (HQ.out _ HV.out).mono ?_; rintro r w2 ⟨rfl, hbw⟩; have HBW := Lib.hid hbw; clear hbw)
        go_roundw
        case rel => exact ⟨_, k + 1, by omega, rfl, by go_num, by rw [ByteArray.size_append]; omega, HN, Lib.hid (hb.out.call HBW.out)⟩
        case measure => simp [intOf]; omega
      · obtain rfl : k = ps.length := by omega
        have hs' := hs.out
        rw [List.take_of_length_le (Nat.le_refl _)] at hs'
        have HE := Lib.hid (by rw [HX2.out]; show ByteArray.mk (prtA ps).toArray = x; rw [← hs', mk_list] : ByteArray.mk (prtAR ps).1.toArray = x)
        have HE2 := Lib.hid (by rw [HX2.out] : (prtAR ps).2 = 0)
        clear hs hs'
        go_wp2_with fail
        go_ret2
        exact ⟨by rw [HE.out, HE2.out]; rfl, hb.out.below⟩
  · have HX2 := Lib.hid (by unfold prtAR; rw [if_pos n1] : prtAR ps = ([], chkA ps))
    generalize chkA ps = q at *
    go_enter Tryz.func17, Tryz.ntmps17
    go_wp2_with (go_at_call 21; with_reducible refine (HC.out _ HR.out).mono ?_; rintro r w1 ⟨rfl, hbw⟩; have HB1 := Lib.hid ((Bl.refl w).call hbw); clear hbw)
    go_ret2
    exact ⟨by rw [HX2.out]; rfl, HB1.out.below⟩
end Go.Proofs.YtndbgdapojkfaaaGreatDoor.Par
