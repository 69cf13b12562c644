/- Contract of the laws' Back (errandlaw17): the document's parameters out of the program's. -/
import Derived.Test.YtndbgdapojkfaaaGreatDoorParOwn
import Derived.Test.YtndbgdapojkfaaaGreatDoorRfn
set_option linter.unusedVariables false
namespace Go.Proofs.YtndbgdapojkfaaaGreatDoor.Par
open Go.RowKit Go.Deep Go.Proofs.YtndbgdapojkfaaaGreatDoor.Byt Go.Proofs.YtndbgdapojkfaaaGreatDoor.Utf Go.Proofs.YtndbgdapojkfaaaGreatDoor.Tre Go.Proofs.YtndbgdapojkfaaaGreatDoor.Txt

/-- What stands in cells is read on. -/
theorem rd_over {w : World} {T : TypeId} {k n : Nat} {us : List Value} {cs : List Dat} {v : Value} (h : Rd w (.sl T k n (us.map .one)) v) (hl : us.length = cs.length) (hr : ∀ (i : Nat) (d : Dat) (u : Value), cs[i]? = some d → us[i]? = some u → Rd w d u) : Rd w (.sl T k n cs) v := by
  obtain ⟨a, c, rfl, hlen, hc⟩ := h.slice
  rw [List.length_map] at hlen
  rcases Nat.eq_zero_or_pos n with h0 | h0
  · subst h0
    have : cs = [] := List.eq_nil_of_length_eq_zero (by omega)
    subst this
    exact .nil _ _ _ _
  · obtain ⟨b, off, rfl, hb, hcell⟩ := hc h0
    refine Rd.of_cells (by omega) h.cap (fun _ => hb) (fun i d hd => ?_)
    obtain ⟨u, hu⟩ := both hl hd
    obtain ⟨u', h1, h2⟩ := hcell i (.one u) (by rw [List.getElem?_map, hu]; rfl)
    have := h2.val
    subst this
    exact ⟨u', h1, hr i d u' hd hu⟩
/-- Where Back stands behind k parameters. -/
structure Bq (w0 w wr : World) (ps : List PP) (k : Nat) (us : List Value) (v : Value) (F : List Nat) : Prop where
  bl : Bl w wr
  out : Txt.Ow w wr (.sl 49 2 k (us.map .one)) v F
  len : us.length = ((ps.take k).flatMap pC).length
  rd : ∀ (i : Nat) (d : Dat) (u : Value), ((ps.take k).flatMap pC)[i]? = some d → us[i]? = some u → Rd w0 d u
theorem Bq.start (w0 w : World) (ps : List PP) : Bq w0 w w ps 0 [] (.slice none 0 0) [] := ⟨Bl.refl w, ⟨Own.nil _ _ _ _, by simp⟩, rfl, fun i d u h => by simp at h⟩
theorem Bq.step {w0 w wr : World} {ps : List PP} {k : Nat} {us : List Value} {v : Value} {F : List Nat} (h : Bq w0 w wr ps k us v F) (hk : k < ps.length) (hn : k ≤ 100000) {a : Option Addr} {c : Nat} (hr : Rd w0 (txD (mks ps[k].v)) (.slice a ps[k].v.length c)) :
    ∃ v' w' F', (Builtin.append_ #[28, 28] 28 #[v, .slice (some ⟨wr.heap.size, 0, none⟩) 1 1]).run Tryz.prog (wr.alloc (.cells #[.string ⟨ps[k].n.toArray⟩, .slice a ps[k].v.length c] 49)) = .ok v' w' ∧
      Bq w0 w w' ps (k + 1) (us ++ [.string ⟨ps[k].n.toArray⟩, .slice a ps[k].v.length c]) v' F' := by
  obtain ⟨v', w', F', r1, r2, r3, r4, r5, r6⟩ := push_own (P := Tryz.prog) (w0 := w) (w := wr) (t := 28) (ty := 28) Tryz.underlying28 rinfoP rfl (by omega)
    h.out.own h.out.nd (ones wr w.heap.size [.string ⟨ps[k].n.toArray⟩, .slice a ps[k].v.length c]) rfl (fun u hu => by
      rcases List.mem_cons.1 hu with rfl | hu
      · rfl
      · rcases List.mem_cons.1 hu with rfl | hu
        · rfl
        · cases hu) (by simp) (fun g hg hx => by simp at hx) (by omega) (by omega) h.bl.below
  have hft : (ps.take (k + 1)).flatMap pC = (ps.take k).flatMap pC ++ [.one (.string ⟨ps[k].n.toArray⟩), txD (mks ps[k].v)] := by
    rw [List.take_succ_eq_append_getElem hk, List.flatMap_append]
    simp [pC]
  refine ⟨v', w', F', r1, ⟨⟨r5, r5.size⟩, ⟨by rw [List.map_append]; exact r2, r3⟩, by rw [hft, List.length_append, List.length_append, h.len]; rfl, fun i d u hd hu => ?_⟩⟩
  rw [hft] at hd
  by_cases hi : i < us.length
  · rw [List.getElem?_append_left (by rw [← h.len]; exact hi)] at hd
    rw [List.getElem?_append_left hi] at hu
    exact h.rd i d u hd hu
  · rw [List.getElem?_append_right (by rw [← h.len]; omega), ← h.len] at hd
    rw [List.getElem?_append_right (by omega)] at hu
    rcases hj : i - us.length with _ | _ | j
    · rw [hj] at hd hu
      injection hd with hd; injection hu with hu
      subst hd hu
      exact .one _
    · rw [hj] at hd hu
      injection hd with hd; injection hu with hu
      subst hd hu
      exact hr
    · rw [hj] at hd
      simp at hd
set_option maxRecDepth 100000 in
set_option maxHeartbeats 1000000 in
theorem back_own (ps : List PP) (hn : ps.length ≤ 10000) (a : Option Addr) (c : Nat) (w0 w : World) (h0 : Bl w0 w) (ha : Rd w0 (psD 46 ps) (.slice a ps.length c)) :
    Calls Tryz.prog 11 #[.slice a ps.length c] w fun r w' => ∃ (a' : Option Addr) (c' : Nat) (us : List Value) (F : List Nat), r = .returned (.slice a' ps.length c') ∧ (ps.length : Int) ≤ c' ∧ Txt.Ow w w' (.sl 49 2 ps.length (us.map .one)) (.slice a' ps.length c') F ∧ Rfs w0 (us.map .one) (ps.flatMap pC) ∧ Below w.heap.size w w' := by
  have HA := Lib.hid ha
  have H0 := Lib.hid h0
  clear ha h0
  go_enter Tryz.func11, Tryz.ntmps11
  go_wp2_with fail
  go_loopw [3, 4] (fun v i wr => ∃ (k : Nat) (us : List Value) (F : List Nat), k ≤ ps.length ∧ i = .int .i64 k ∧ Hid (Bq w0 w wr ps k us v F)) (fun _ i _ => ps.length - (intOf i).toNat)
  case atStart => exact ⟨0, [], [], Nat.zero_le _, rfl, Lib.hid (Bq.start w0 w ps)⟩
  case round =>
    obtain ⟨k, us, F, hk, rfl, hB⟩ := hrel
    by_cases h : k < ps.length
    · have h' : (k : Int) < ps.length := by omega
      obtain ⟨ba, oa, rfl, a0w, pa, ca, a1w, pra⟩ := param_at HA.out h
      rw [mks_len] at pra
      have a0 := ((H0.out.call hB.out.bl.below).below.cell (p := ⟨ba, oa + k * 2, none⟩) (Byt.cell_lt a0w)).trans a0w
      have a1 := ((H0.out.call hB.out.bl.below).below.cell (p := ⟨ba, oa + k * 2 + 1, none⟩) (Byt.cell_lt a1w)).trans a1w
      obtain ⟨av, cv, rfl, -⟩ := hB.out.out.own.rd.slice
      have hBD : Bq w0 w wr.drew ps k us (.slice av k cv) F := ⟨hB.out.bl.drew, ⟨hB.out.out.own.call (Below.refl _ _).drew, hB.out.out.nd⟩, hB.out.len, hB.out.rd⟩
      obtain ⟨v', w', F', ra, rs⟩ := hBD.step h (by omega) pra
      obtain ⟨a2, c2, rfl, -⟩ := rs.out.own.rd.slice
      have RA := Lib.hid ra
      have RS := Lib.hid rs
      clear ra rs pra hBD a0w a1w
      generalize ByteArray.mk ps[k].n.toArray = nm at *
      generalize ps[k].v.length = nv at *
      go_wp2_with fail
      go_region_law (refine step_append_run rfl (.tmp 11) (.tmp 23) 28 28 rfl _ _ rfl rfl _ w' RA.out ?_)
      all_goals
        go_wp2_with fail
        go_roundw
        case rel => exact ⟨k + 1, _, F', by omega, by go_num, RS⟩
        case measure => simp [intOf]; omega
    · obtain rfl : k = ps.length := by omega
      obtain ⟨av, cv, rfl, -⟩ := hB.out.out.own.rd.slice
      have hcp := own_cap hB.out.out.own
      have HR : Hid (Rfs w0 (us.map .one) (ps.flatMap pC)) := Lib.hid <| by
        have := Rfs.of_rd hB.out.len hB.out.rd
        rwa [List.take_of_length_le (Nat.le_refl _)] at this
      go_wp2_with fail
      go_ret
      exact ⟨av, cv, us, F, rfl, hcp, hB.out.out, HR.out, hB.out.bl.below⟩
theorem back_any (ps : List PP) (hn : ps.length ≤ 10000) (a : Option Addr) (c : Nat) (w : World) (ha : Rd w (psD 46 ps) (.slice a ps.length c)) :
    Calls Tryz.prog 11 #[.slice a ps.length c] w fun r w' => ∃ a' c', r = .returned (.slice a' ps.length c') ∧ (ps.length : Int) ≤ c' ∧ Rd w' (psD 49 ps) (.slice a' ps.length c') ∧ Below w.heap.size w w' := by
  refine (back_own ps hn a c w w (Bl.refl w) ha).mono ?_
  rintro r w' ⟨a', c', us, F, rfl, h1, h2, h3, h4⟩
  exact ⟨a', c', rfl, h1, (h3.sl _ _ _).call h4 |>.rd h2.own.rd, h4⟩
end Go.Proofs.YtndbgdapojkfaaaGreatDoor.Par
