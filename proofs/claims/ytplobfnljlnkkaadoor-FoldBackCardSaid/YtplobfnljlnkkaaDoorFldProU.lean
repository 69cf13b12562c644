/- Contract of package fold's Unfold. -/
import Derived.Test.YtplobfnljlnkkaaDoorFldAdd
set_option linter.unusedVariables false
namespace Go.Proofs.YtplobfnljlnkkaaDoor.Fld
open Go.RowKit Go.Proofs.YtplobfnljlnkkaaDoor.Byt Go.Proofs.YtplobfnljlnkkaaDoor.Utf Go.Proofs.YtplobfnljlnkkaaDoor.Tre

theorem sub_drop (L : List UInt8) (p e : Nat) : (sub L p e).drop 1 = sub L (p + 1) e := by
  unfold sub
  rw [List.drop_take, List.drop_drop, Nat.sub_sub]
/-- What Unfold answers. -/
def UnfR (w : World) (x : List PL × Int × Int) (r : Ending) (w' : World) : Prop := ∃ v ev, r = .returned (.tuple #[v, ev]) ∧ Rd w' (lsD 46 61 x.1) v ∧ Flt.Er w' x.2.1 ev (errL x) ∧ Below w.heap.size w w'
theorem unfR_no {w wr w' : World} {v : Value} {x : List PL × Int × Int} {e k : Int} (hx : x = ([], e, k)) (he : (e == 0) = false) (hb : Bl w wr) (h : Flt.Er w' e v (if (e == 0) = true then [] else [k])) (hb' : Below wr.heap.size wr w') :
    UnfR w x (.returned (.tuple #[.slice none 0 0, v])) w' := by
  subst hx
  rw [he] at h
  have h0 : ¬ e = 0 := by simpa using he
  refine ⟨_, v, rfl, .nil _ _ _ _, ?_, (hb.call hb').below⟩
  unfold errL
  rw [if_neg (show ¬ e = 0 from h0)]
  exact h
theorem unfR_yes {w wr : World} {v : Value} {x : List PL × Int × Int} {ls : List PL} (hx : x = (ls, 0, 0)) (h : Rd wr (lsD 46 61 ls) v) (hb : Bl w wr) : UnfR w x (.returned (.tuple #[v, .nilIface])) wr := by
  subst hx
  exact ⟨v, _, rfl, h, .none, hb.below⟩
/-- An error that is one. -/
theorem er_fv {w : World} {e : Int} {v : Value} {k : Int} (he : (e == 0) = false) (h : Flt.Er w e v (if (e == 0) = true then [] else [k])) : ∃ b, v = Flt.FV b := by
  rw [he] at h
  cases h with
  | some b l h => exact ⟨b, rfl⟩
theorem fneq_fv (b : Nat) (W : World) : (binOp .neq 25 (Flt.FV b) .nilIface).run Tryd.prog W = .ok (.bool true) W := by unfold Flt.FV; kernel_rfl
theorem fguard_fv (b : Nat) (o : Operand) (W : World) : (eqGuard .neq 25 o (.const .nilIface) (Flt.FV b) .nilIface).run Tryd.prog W = .ok () W := by unfold Flt.FV; kernel_rfl
set_option maxRecDepth 20000 in
set_option maxHeartbeats 1000000 in
theorem unf_any (s : ByteArray) (hs : s.size ≤ 10000) (w : World) : Calls Tryd.prog 9 #[.string s] w (UnfR w (unfR s.data.toList)) := by
  have HE := Lib.hid (fun (e k : Int) (W : World) => Flt.new_any e k W)
  by_cases hlong : (6000 : Int) < s.size
  · have e : unfR s.data.toList = ([], 5, 6000) := by unfold unfR; rw [if_pos (by rw [len_list]; omega)]
    rw [e]
    clear e
    go_enter Tryd.func9, Tryd.ntmps9
    go_wp2_with fail
    go_step3
    go_wp2_with (go_at_call 23; with_reducible refine (HE.out _ _ _).mono ?_; rintro r w1 ⟨v1, rfl, hE, hb⟩; have E1 := Lib.hid hE; have B1 := Lib.hid hb; clear hE hb)
    rw [Exit.noGoto_ret]
    go_ret2
    exact unfR_no rfl rfl (Bl.refl w) E1.out B1.out
  · have e : unfR s.data.toList = unf s.data.toList 0 [] := by unfold unfR; rw [if_neg (by rw [len_list]; omega)]
    rw [e]
    clear e
    have HS := Lib.hid hs
    go_enter Tryd.func9, Tryd.ntmps9
    go_wp2_with fail
    go_step3
    go_wp2_with fail
    go_step3
    go_wp2_with fail
    go_loopw [4, 5, 6] (fun v ev i wr => ∃ (p : Nat) (acc : List PL) (F : List Nat), p ≤ s.size ∧ ev = .nilIface ∧ i = .int .i64 p ∧ Hid (Uf s.data.toList p acc) ∧ Hid (Ow w wr (lsD 46 61 acc) v F) ∧ Hid (Bl w wr)) (fun _ _ i _ => s.size - (intOf i).toNat)
    case atStart => exact ⟨0, [], [], Nat.zero_le _, rfl, rfl, Lib.hid ⟨rfl, fun h => absurd rfl h, Nat.le_refl _, fun l h => by cases h⟩, Lib.hid ⟨Own.nil _ _ _ _, by simp⟩, Lib.hid (Bl.refl w)⟩
    case round =>
      obtain ⟨p, acc, F, hp, rfl, rfl, hu, ho, hb⟩ := hrel
      by_cases h : p < s.size
      · have h' : (p : Int) < s.size := by omega
        have hL : p < s.data.toList.length := by rw [len_list]; exact h
        have HR := Lib.hid (fun W => frow_any s hs p hp W)
        have hgp := prow_gos hL
        have hpl := prow_len s.data.toList p
        rw [len_list] at hpl
        obtain ⟨g1, g2⟩ := rowE_le s.data.toList p (by omega)
        rw [len_list] at g2
        have hxl : (ByteArray.mk (prow (s.data.toList.drop p)).toArray).data.toList = prow (s.data.toList.drop p) := rfl
        have hxs : (ByteArray.mk (prow (s.data.toList.drop p)).toArray).size = (prow (s.data.toList.drop p)).length := size_mk _
        rw [← hxs] at hpl
        have HI := Lib.hid (fun W => ixb_any ⟨(prow (s.data.toList.drop p)).toArray⟩ W)
        have HG := Lib.hid (fun W => goes_any ⟨(prow (s.data.toList.drop p)).toArray⟩ W)
        rw [hxl, hgp] at HG
        rw [hxl] at HI
        by_cases hg : gos s.data.toList p = true
        · rw [hg] at HG
          by_cases h0 : p = 0
          · subst h0
            obtain rfl : acc = [] := List.eq_nil_of_length_eq_zero (by have := hu.out.n; omega)
            have HX := Lib.hid (hu.out.u.trans (unf_first hL hg []))
            obtain ⟨av, cv, rfl, -⟩ := lines_at ho.out.own.rd
            clear hg hL g1 g2 hxl hxs hpl hgp ho hu
            generalize ByteArray.mk (prow (s.data.toList.drop 0)).toArray = x at *
            generalize Lib.indexByte _ 13 = z at *
            generalize 0 + pnx (s.data.toList.drop 0) = n at *
            rw [show ((0 : Nat) : Int) = 0 from rfl] at HR
            go_wp2_with (first
              | (go_at_call 24; with_reducible refine (HR.out _).mono ?_; rintro r w1 ⟨rfl, hb1⟩; have B1 := Lib.hid (hb.out.call hb1); clear hb1)
              | (go_at_call 25; with_reducible refine (HI.out _).mono ?_; rintro r w' ⟨rfl, rfl⟩)
              | (go_at_call 26; with_reducible refine (HG.out _).mono ?_; rintro r w' ⟨rfl, rfl⟩)
              | (go_at_call 23; with_reducible refine (HE.out _ _ _).mono ?_; rintro r w2 ⟨v1, rfl, hE, hbb⟩; obtain ⟨b1, rfl⟩ := er_fv rfl hE; have E1 := Lib.hid hE; have B2 := Lib.hid hbb; have nq := fneq_fv b1; have nz := fguard_fv b1; clear hE hbb))
            rw [Exit.noGoto_ret]
            go_ret2
            exact unfR_no HX.out rfl B1.out E1.out B2.out
          · rcases hB : rowB s.data.toList p with _ | _
            · have hr := rowN_lt s.data.toList p hL hB
              rw [len_list] at hr
              obtain ⟨init, l, rfl⟩ : ∃ init l, acc = init ++ [l] := by
                rcases List.eq_nil_or_concat acc with h | ⟨i, l, h⟩
                · exact absurd h (hu.out.ne h0)
                · exact ⟨i, l, by rw [h, List.concat_eq_append]⟩
              have hu2 := hu.out.on hL hg h0 hB
              have hll := hu.out.l l (by simp)
              have hn := hu.out.n
              rw [List.length_append, List.length_singleton] at hn
              obtain ⟨gO, c, pv, G, rfl, hgB, hgO, -⟩ := own_last ho.out
              obtain ⟨q1, q2, q3⟩ := prow_ok (by omega) hB
              have hE' := rowE_gt hL hg
              have hsl : (sub s.data.toList p (rowE s.data.toList p)).length = rowE s.data.toList p - p := by unfold sub; rw [List.length_take, List.length_drop, len_list]; omega
              rw [q3] at HI
              rw [q2] at HR
              replace hxs := hxs.trans ((congrArg List.length q1).trans hsl)
              replace hxl := hxl.trans q1
              have hx1 : ((ByteArray.mk (prow (s.data.toList.drop p)).toArray).extract 1 (ByteArray.mk (prow (s.data.toList.drop p)).toArray).size).data.toList = (sub s.data.toList p (rowE s.data.toList p)).drop 1 := (Fld.tail_list _ 1).trans (congrArg (List.drop 1) hxl)
              rw [← sub_drop, ← hx1] at hu2
              have HU := Lib.hid hu2
              have hxs1 : 1 ≤ (ByteArray.mk (prow (s.data.toList.drop p)).toArray).size := by omega
              have hxs2 : (ByteArray.mk (prow (s.data.toList.drop p)).toArray).size ≤ 10000 := by omega
              clear hu2 hx1 hxl hgp hg hpl q1 q2 q3 hxs hsl hu hL hB
              generalize ByteArray.mk (prow (s.data.toList.drop p)).toArray = x at *
              have hex : (x.extract 1 x.size).size ≤ 10000 := by rw [ByteArray.size_extract]; omega
              have HADD := Lib.hid (fun W F (ho : Ow w W (lsD 46 61 (init ++ [l])) (.slice (some ⟨gO, 0, none⟩) (init.length + 1) c) F) (hb : Bl w W) => add_any ho hb (x.extract 1 x.size) hex (by omega) (by omega) ((p : Int) + 1))
              have t0 : ((init.length : Int) + 1 == 0) = false := by rw [beq_eq_false_iff_ne]; omega
              have k1 : (1 : Int) ≤ x.size := by omega
              have k3 : (init.length : Int) + 1 - 1 = init.length := by omega
              have kn : init.length ≤ 100000 := by omega
              have kl : (init.length : Int) < (init.length : Int) + 1 := by omega
              have kq : IntKind.i64.wrap (init.length : Int) = init.length := IntWalk.i64_in _ (by omega)
              have kw : IntKind.i64.wrap ((p : Int) + 1) = (p : Int) + 1 := IntWalk.i64_in _ (by omega)
              clear hE' hll hgO hgB
              generalize hNq : rowN s.data.toList p = n at *
              clear hNq g1 g2
              generalize rowE s.data.toList p = e at *
              go_wp2_with (first
                | (go_at_call 24; with_reducible refine (HR.out _).mono ?_; rintro r w1 ⟨rfl, hb1⟩; have B1 := Lib.hid (hb.out.call hb1); have O1 := Lib.hid (ho.out.call hb1); clear hb1)
                | (go_at_call 25; with_reducible refine (HI.out _).mono ?_; rintro r w' ⟨rfl, rfl⟩)
                | (go_at_call 26; with_reducible refine (HG.out _).mono ?_; rintro r w' ⟨rfl, rfl⟩))
              go_region_law (go_simp; go_at_call 27; with_reducible refine (HADD.out _ _ O1.out.drew B1.out.drew).mono ?_; rintro r w3 ⟨rfl, F3, hO3, hB3⟩; have O3 := Lib.hid hO3; have B3 := Lib.hid hB3; clear hO3 hB3)
              go_wp2_with fail
              go_roundw
              case rel => exact ⟨n, _, F3, by omega, rfl, rfl, HU, O3, B3⟩
              case measure => simp [intOf]; omega
            · have t0 : ((acc.length : Int) == 0) = false := by
                have := hu.out.ne h0
                rw [beq_eq_false_iff_ne]
                intro e
                exact this (List.eq_nil_of_length_eq_zero (by omega))
              have HX := Lib.hid (hu.out.u.trans (unf_bad hL (.inr h0) hB acc))
              obtain ⟨hz, hz0⟩ := prow_bad (by omega) hB
              rw [← hz] at HX
              have hz1 : Lib.indexByte (prow (s.data.toList.drop p)) 13 ≤ 10000 := by omega
              obtain ⟨av, cv, rfl, -⟩ := lines_at ho.out.own.rd
              clear hg hL g1 hxl hxs hpl hgp hz hB
              generalize ByteArray.mk (prow (s.data.toList.drop p)).toArray = x at *
              generalize Lib.indexByte _ 13 = z at *
              generalize p + pnx (s.data.toList.drop p) = n at *
              go_wp2_with (first
                | (go_at_call 24; with_reducible refine (HR.out _).mono ?_; rintro r w1 ⟨rfl, hb1⟩; have B1 := Lib.hid (hb.out.call hb1); clear hb1)
                | (go_at_call 25; with_reducible refine (HI.out _).mono ?_; rintro r w' ⟨rfl, rfl⟩)
                | (go_at_call 26; with_reducible refine (HG.out _).mono ?_; rintro r w' ⟨rfl, rfl⟩)
                | (go_at_call 23; with_reducible refine (HE.out _ _ _).mono ?_; rintro r w2 ⟨v1, rfl, hE, hbb⟩; obtain ⟨b1, rfl⟩ := er_fv rfl hE; have E1 := Lib.hid hE; have B2 := Lib.hid hbb; have nq := fneq_fv b1; have nz := fguard_fv b1; clear hE hbb))
              rw [Exit.noGoto_ret]
              go_ret2
              exact unfR_no HX.out rfl B1.out E1.out B2.out
        · have hg' : gos s.data.toList p = false := by simpa using hg
          rw [hg'] at HG
          rcases hB : rowB s.data.toList p with _ | _
          · have hr := rowN_lt s.data.toList p hL hB
            rw [len_list] at hr
            have hu2 := hu.out.new hL hg' hB
            obtain ⟨q1, q2, q3⟩ := prow_ok (by omega) hB
            rw [q3] at HI
            rw [q2] at HR
            replace hxl := hxl.trans q1
            have hn := hu.out.n
            have hxs2 : (ByteArray.mk (prow (s.data.toList.drop p)).toArray).size ≤ 10000 := by omega
            rw [← hxl] at hu2
            have HU := Lib.hid hu2
            clear hu2 hxl hgp hg hg' hpl q1 q2 q3 hxs hu hL hB
            generalize ByteArray.mk (prow (s.data.toList.drop p)).toArray = x at *
            have HADD := Lib.hid (fun W gO c F (ho : Ow w W (lsD 46 61 (acc ++ [⟨[], []⟩])) (.slice (some ⟨gO, 0, none⟩) (acc.length + 1) c) F) (hb : Bl w W) => add_any ho hb x hxs2 (Nat.zero_le _) (Nat.zero_le _) (p : Int))
            have k3 : (acc.length : Int) + 1 - 1 = acc.length := by omega
            have kn : acc.length ≤ 100000 := by omega
            generalize hNq : rowN s.data.toList p = n at *
            clear hNq g1 g2
            go_wp2_with (first
              | (go_at_call 24; with_reducible refine (HR.out _).mono ?_; rintro r w1 ⟨rfl, hb1⟩; have B1 := Lib.hid (hb.out.call hb1); have O1 := Lib.hid (ho.out.call hb1); clear hb1)
              | (go_at_call 25; with_reducible refine (HI.out _).mono ?_; rintro r w' ⟨rfl, rfl⟩)
              | (go_at_call 26; with_reducible refine (HG.out _).mono ?_; rintro r w' ⟨rfl, rfl⟩)
              | (at_builtin; obtain ⟨gO, c, w2, F2, ra, ro, rb⟩ := flines_one O1.out B1.out kn; refine wpList_append_run rfl (.tmp 26) (.tmp 28) 23 23 rfl _ _ rfl rfl _ w2 ra ?_; have O2 := Lib.hid ro; have B2 := Lib.hid rb; clear ra ro rb)
              | (go_at_call 27; with_reducible refine (HADD.out _ _ _ _ O2.out B2.out).mono ?_; rintro r w3 ⟨rfl, F3, hO3, hB3⟩; have O3 := Lib.hid hO3; have B3 := Lib.hid hB3; clear hO3 hB3))
            go_roundw
            case rel => exact ⟨n, _, F3, by omega, rfl, rfl, HU, O3, B3⟩
            case measure => simp [intOf]; omega
          · have HX := Lib.hid (hu.out.u.trans (unf_bad hL (.inl hg') hB acc))
            obtain ⟨hz, hz0⟩ := prow_bad (by omega) hB
            rw [← hz] at HX
            have hz1 : Lib.indexByte (prow (s.data.toList.drop p)) 13 ≤ 10000 := by omega
            obtain ⟨av, cv, rfl, -⟩ := lines_at ho.out.own.rd
            clear hg hL g1 hxl hxs hpl hgp hz hB
            generalize ByteArray.mk (prow (s.data.toList.drop p)).toArray = x at *
            generalize Lib.indexByte _ 13 = z at *
            generalize p + pnx (s.data.toList.drop p) = n at *
            go_wp2_with (first
              | (go_at_call 24; with_reducible refine (HR.out _).mono ?_; rintro r w1 ⟨rfl, hb1⟩; have B1 := Lib.hid (hb.out.call hb1); clear hb1)
              | (go_at_call 25; with_reducible refine (HI.out _).mono ?_; rintro r w' ⟨rfl, rfl⟩)
              | (go_at_call 26; with_reducible refine (HG.out _).mono ?_; rintro r w' ⟨rfl, rfl⟩)
              | (go_at_call 23; with_reducible refine (HE.out _ _ _).mono ?_; rintro r w2 ⟨v1, rfl, hE, hbb⟩; obtain ⟨b1, rfl⟩ := er_fv rfl hE; have E1 := Lib.hid hE; have B2 := Lib.hid hbb; have nq := fneq_fv b1; have nz := fguard_fv b1; clear hE hbb))
            rw [Exit.noGoto_ret]
            go_ret2
            exact unfR_no HX.out rfl B1.out E1.out B2.out
      · obtain rfl : p = s.size := by omega
        have HX := Lib.hid (hu.out.u.trans (unf_end (by rw [len_list]; omega) acc))
        go_wp2_with fail
        rw [Exit.noGoto_ret]
        go_ret2
        exact unfR_yes HX.out ho.out.own.rd hb.out
end Go.Proofs.YtplobfnljlnkkaaDoor.Fld
