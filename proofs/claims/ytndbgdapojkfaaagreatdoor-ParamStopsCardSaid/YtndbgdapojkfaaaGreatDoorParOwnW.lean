/- Contract of the laws' Own (errandlaw17): the program's parameters out of the document's. -/
import Derived.Test.YtndbgdapojkfaaaGreatDoorParBack
set_option linter.unusedVariables false
namespace Go.Proofs.YtndbgdapojkfaaaGreatDoor.Par
open Go.RowKit Go.Deep Go.Proofs.YtndbgdapojkfaaaGreatDoor.Byt Go.Proofs.YtndbgdapojkfaaaGreatDoor.Utf Go.Proofs.YtndbgdapojkfaaaGreatDoor.Tre Go.Proofs.YtndbgdapojkfaaaGreatDoor.Txt

theorem append_none (c : Nat) (w : World) : (Builtin.append_ #[44, 44] 44 #[.slice none 0 0, .slice none 0 c]).run Tryz.prog w = .ok (.slice none 0 0) w := by
  kernel_rfl
/-- Texts that are read, copied to a row of the call's own. -/
theorem texts_copy {w wr : World} (hb : Bl w wr) {vs : List (List UInt8)} {a : Option Addr} {c : Nat} (hr : Rd wr (txD (mks vs)) (.slice a vs.length c)) (hn : vs.length ≤ 100000) :
    ∃ v' w' G', (Builtin.append_ #[44, 44] 44 #[.slice none 0 0, .slice a vs.length c]).run Tryz.prog wr = .ok v' w' ∧ Txt.Ow w w' (txD (mks vs)) v' G' ∧ wr.grownBy w' none ∧ Below wr.heap.size wr w' ∧ (∀ g ∈ G', wr.heap.size ≤ g) := by
  rcases a with _ | a
  · have h0 : vs = [] := by
      rcases vs with _ | ⟨x, t⟩
      · rfl
      · exfalso
        obtain ⟨b, off, e, _⟩ := text_in (l := x :: t) (by rw [mks_len]; exact hr) (k := 0) (by simp)
        cases e
    subst h0
    exact ⟨_, wr, [], append_none c wr, Txt.Ow.nil _ _, World.grownBy.refl _ _, Below.refl _ _, by simp⟩
  · have hc := ones wr w.heap.size ((mks vs).map Value.string)
    rw [ones_txC] at hc
    obtain ⟨v', w', G', r1, r2, r3, r4, r5⟩ := append_own (P := Tryz.prog) (w := wr) (B := w.heap.size) (t := 44) (ty := 44) Tryz.underlying44 infoS rfl (by omega)
      (Own.nil wr w.heap.size 9 1) (by simp) (a := a) (m := vs.length) c hc (by rw [List.length_map, mks_len]; omega) (fun i u hu => by
        rw [List.getElem?_map] at hu
        obtain ⟨x, hx, rfl⟩ := Option.map_eq_some_iff.1 hu
        obtain ⟨hi, he⟩ := List.getElem?_eq_some_iff.1 hx
        rw [mks_len] at hi
        obtain ⟨b, off, e, hcell⟩ := text_in (by rw [mks_len]; exact hr) hi
        injection e with e
        subst e
        rw [add_none, hcell, ← he, mks_at hi]) (fun u hu => by
        obtain ⟨x, -, rfl⟩ := List.mem_map.1 hu
        rfl) (by rw [ones_flat]; simp) (by simp) (by omega) (by omega) hb.le
    refine ⟨v', w', G', r1, ⟨?_, r3⟩, r4, (Below.refl _ _).grown r4 (Nat.le_refl _) (fun k hk => by cases hk), fun g hg => ?_⟩
    · have : txD (mks vs) = .sl 9 1 (0 + vs.length) ([] ++ (mks vs).flatMap txC) := by unfold txD; rw [mks_len, Nat.zero_add]; rfl
      rw [this]
      exact r2
    · rcases r5 g hg with h | h | h
      · simp at h
      · rw [ones_flat] at h; simp at h
      · omega
/-- A parameter more of the call's own: its box, and its values copied. -/
theorem own_step {w wr : World} {T : TypeId} (hb : Bl w wr) {out : List PP} {v : Value} {F : List Nat} (ho : Txt.Ow w wr (psD T out) v F) (t : ByteArray) {vs : List (List UInt8)} {a : Option Addr} {c : Nat} (hr : Rd wr (txD (mks vs)) (.slice a vs.length c)) (hn : vs.length ≤ 100000) :
    ∃ v' w' G', (Builtin.append_ #[44, 44] 44 #[.slice none 0 0, .slice a vs.length c]).run Tryz.prog (wr.alloc (.cells #[.string t, .slice none 0 0] T)).drew = .ok v' w' ∧
      Tre.Blk w' wr.heap.size T [.string t, .slice none 0 0] ∧ Tre.Blk (w'.setCell ⟨wr.heap.size, 1, none⟩ v') wr.heap.size T [.string t, v'] ∧ Bl w (w'.setCell ⟨wr.heap.size, 1, none⟩ v') ∧
      Txt.Ow w (w'.setCell ⟨wr.heap.size, 1, none⟩ v') (psD T out) v F ∧ Txt.Ow w (w'.setCell ⟨wr.heap.size, 1, none⟩ v') (txD (mks vs)) v' G' ∧ (∀ g ∈ F, g ∉ G') := by
  have hb1 : Bl w (wr.alloc (.cells #[.string t, .slice none 0 0] T)).drew := (hb.alloc _).drew
  have hbx : Tre.Blk (wr.alloc (.cells #[.string t, .slice none 0 0] T)).drew wr.heap.size T [.string t, .slice none 0 0] := Tre.Blk.new wr T [.string t, .slice none 0 0]
  have ho1 : Txt.Ow w (wr.alloc (.cells #[.string t, .slice none 0 0] T)).drew (psD T out) v F := ho.call (new1 wr _).drew
  have hF : ∀ g ∈ F, g < wr.heap.size := fun g hg => (ho.own.lt g hg).2
  have hz : (wr.alloc (.cells #[.string t, .slice none 0 0] T)).drew.heap.size = wr.heap.size + 1 := by simp
  obtain ⟨v', w', G', r1, r2, r3, r4, r5⟩ := texts_copy hb1 (hr.call (new1 wr _).drew) hn
  have hbx' : Tre.Blk w' wr.heap.size T [.string t, .slice none 0 0] := hbx.kept (r4.block _ (by rw [hz]; omega))
  have hG : wr.heap.size ∉ G' := fun hx => by have := r5 _ hx; omega
  refine ⟨v', w', G', r1, hbx', hbx'.set_ 1 _, ⟨(hb1.call r4).below.setCell (p := ⟨wr.heap.size, 1, none⟩) hb.le _, by simpa using (hb1.call r4).le⟩,
    ⟨(ho1.call r4).own.set_far (p := ⟨wr.heap.size, 1, none⟩) (fun (hx : wr.heap.size ∈ F) => by have := hF _ hx; omega) _, ho.nd⟩, ⟨r2.own.set_far (p := ⟨wr.heap.size, 1, none⟩) hG _, r2.nd⟩, fun g hg hx => by have := hF g hg; have := r5 g hx; omega⟩
set_option maxRecDepth 100000 in
set_option maxHeartbeats 1000000 in
theorem own_own (ps : List PP) (hn : ps.length ≤ 10000) (hv : ∀ p ∈ ps, p.v.length ≤ 10000) (a : Option Addr) (c : Nat) (w : World) (ha : Rd w (psD 49 ps) (.slice a ps.length c)) :
    Calls Tryz.prog 15 #[.slice a ps.length c] w fun r w' => ∃ a' c' F, r = .returned (.slice a' ps.length c') ∧ (ps.length : Int) ≤ c' ∧ Txt.Ow w w' (psD 46 ps) (.slice a' ps.length c') F ∧ Below w.heap.size w w' := by
  have HA := Lib.hid ha
  have HV := Lib.hid hv
  clear ha hv
  go_enter Tryz.func15, Tryz.ntmps15
  go_wp2_with fail
  go_loopw [3, 4] (fun v i wr => ∃ (k : Nat) (F : List Nat), k ≤ ps.length ∧ i = .int .i64 k ∧ Hid (Txt.Ow w wr (psD 46 (ps.take k)) v F) ∧ Hid (Bl w wr)) (fun _ i _ => ps.length - (intOf i).toNat)
  case atStart => exact ⟨0, [], Nat.zero_le _, rfl, Lib.hid (ps_nil _ _ _), Lib.hid (Bl.refl w)⟩
  case round =>
    obtain ⟨k, F, hk, rfl, ho, hb⟩ := hrel
    by_cases h : k < ps.length
    · have h' : (k : Int) < ps.length := by omega
      obtain ⟨ba, oa, rfl, a0w, pa, ca, a1w, pra⟩ := param_at HA.out h
      rw [mks_len] at pra
      have hm := HV.out ps[k] (List.getElem_mem h)
      obtain ⟨av, cv, rfl⟩ := sl_ps ho.out.own.rd
      have hl : ps.take k ++ [ps[k]] = ps.take (k + 1) := (List.take_succ_eq_append_getElem h).symm
      have a0 := (hb.out.below.cell (p := ⟨ba, oa + k * 2, none⟩) (Byt.cell_lt a0w)).trans a0w
      have a1 := (hb.out.below.cell (p := ⟨ba, oa + k * 2 + 1, none⟩) (Byt.cell_lt a1w)).trans a1w
      obtain ⟨v', w', G', ra, rb, rc, rd', re, rf, rg⟩ := own_step hb.out ho.out ⟨ps[k].n.toArray⟩ (pra.call hb.out.below) (by omega)
      obtain ⟨a2, c2, rfl⟩ := sl_of rf.own.rd
      obtain ⟨v2, w2, F2, qa, qo, qb⟩ := params_push Tryz.underlying23 finfoP (p := ps[k]) re rf rg rd' (by rw [List.length_take]; omega)
      rw [hl] at qo
      rw [mks_len] at ra rc qa
      rw [show (ps.take k).length = k by rw [List.length_take]; omega, show (w'.setCell ⟨wr.heap.size, 1, none⟩ (.slice a2 ps[k].v.length c2)).heap.size = w'.heap.size by simp] at qa
      have RA := Lib.hid ra
      have QA := Lib.hid qa
      have QO := Lib.hid qo
      have QB := Lib.hid qb
      have y0 := rb.cell (i := 0) rfl
      have y1 := rb.cell (i := 1) rfl
      have yf := rb.frozen
      have z0 := rc.cell (i := 0) rfl
      have z1 := rc.cell (i := 1) rfl
      have hlt := rb.lt
      have b0 := ((new1 wr (.cells #[.string ⟨ps[k].n.toArray⟩, .slice none 0 0] 46)).cell (p := ⟨ba, oa + k * 2, none⟩) (Byt.cell_lt a0)).trans a0
      have b1 := ((new1 wr (.cells #[.string ⟨ps[k].n.toArray⟩, .slice none 0 0] 46)).cell (p := ⟨ba, oa + k * 2 + 1, none⟩) (Byt.cell_lt a1)).trans a1
      have hbk : Tre.Blk (wr.alloc (.cells #[.string ⟨ps[k].n.toArray⟩, .slice none 0 0] 46)) wr.heap.size 46 [.string ⟨ps[k].n.toArray⟩, .slice none 0 0] := Tre.Blk.new wr _ [.string ⟨ps[k].n.toArray⟩, .slice none 0 0]
      have x0 := hbk.cell (i := 0) rfl
      have x1 := hbk.cell (i := 1) rfl
      have xf := hbk.frozen
      have hlt2 := hbk.lt
      clear hbk
      clear ra rb rc rd' re rf rg qa qo qb pra a0w a1w hl
      generalize ByteArray.mk ps[k].n.toArray = nm at *
      generalize ps[k].v.length = nv at *
      go_wp2_with fail
      clear a0 a1 b0 x0
      generalize wr.alloc (.cells #[.string nm, .slice none 0 0] 46) = w1 at *
      generalize wr.heap.size = gb at *
      go_region_law (refine step_append_run rfl (.tmp 19) (.tmp 24) 44 44 rfl _ _ rfl rfl _ w' RA.out ?_)
      all_goals
        go_wp2_with (at_builtin; refine Byt.wpList_append_run rfl (.tmp 27) (.tmp 29) 23 23 rfl _ _ rfl rfl v2 w2 QA.out ?_)
        go_roundw
        case rel => exact ⟨k + 1, F2, by omega, by go_num, QO, QB⟩
        case measure => simp [intOf]; omega
    · obtain rfl : k = ps.length := by omega
      have hr := ho.out
      rw [List.take_of_length_le (Nat.le_refl _)] at hr
      obtain ⟨av, cv, rfl⟩ := sl_ps hr.own.rd
      have HC := Lib.hid (own_cap hr.own)
      have HR := Lib.hid hr
      clear hr
      go_wp2_with fail
      go_ret
      exact ⟨av, cv, F, rfl, HC.out, HR.out, hb.out.below⟩
theorem own_any (ps : List PP) (hn : ps.length ≤ 10000) (hv : ∀ p ∈ ps, p.v.length ≤ 10000) (a : Option Addr) (c : Nat) (w : World) (ha : Rd w (psD 49 ps) (.slice a ps.length c)) :
    Calls Tryz.prog 15 #[.slice a ps.length c] w fun r w' => ∃ a' c', r = .returned (.slice a' ps.length c') ∧ (ps.length : Int) ≤ c' ∧ Rd w' (psD 46 ps) (.slice a' ps.length c') ∧ Below w.heap.size w w' :=
  (own_own ps hn hv a c w ha).mono fun _ _ ⟨a', c', F, h1, h2, h3, h4⟩ => ⟨a', c', h1, h2, h3.own.rd, h4⟩
end Go.Proofs.YtndbgdapojkfaaaGreatDoor.Par
