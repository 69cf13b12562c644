/- Contracts of the document's param (errandref17): Check, CheckAll. -/
import Derived.Test.YtndbgdapojkfaaaGreatDoorParRefC
import Derived.Test.YtndbgdapojkfaaaGreatDoorParMem
import Derived.BigQuiet
import Derived.Deep.QuietTactic
set_option linter.unusedVariables false
namespace Go.Proofs.YtndbgdapojkfaaaGreatDoor.Par
open Go.RowKit Go.Deep Go.Proofs.YtndbgdapojkfaaaGreatDoor.Byt Go.Proofs.YtndbgdapojkfaaaGreatDoor.Utf Go.Proofs.YtndbgdapojkfaaaGreatDoor.Tre Go.Proofs.YtndbgdapojkfaaaGreatDoor.Txt

theorem mks_at {l : List (List UInt8)} {k : Nat} (h : k < l.length) : (mks l)[k]'(by rw [mks_len]; exact h) = ⟨l[k].toArray⟩ := by simp [mks]
theorem text_in {w : World} {l : List (List UInt8)} {a : Option Addr} {c : Nat} (h : Rd w (txD (mks l)) (.slice a (mks l).length c)) {k : Nat} (hk : k < l.length) : ∃ b off, a = some ⟨b, off, none⟩ ∧ w.cell? ⟨b, off + k, none⟩ = some (.string ⟨l[k].toArray⟩) := by
  obtain ⟨b, off, e, h1⟩ := text_at h (i := k) (by rw [mks_len]; exact hk)
  rw [mks_at hk] at h1
  exact ⟨b, off, e, h1⟩
/-- A parameter in its box. -/
structure Bp (w W : World) (T : TypeId) (p : PP) (a : Option Addr) (c : Nat) : Prop where
  bl : Bl w W
  box : Tre.Blk W w.heap.size T [.string ⟨p.n.toArray⟩, .slice a p.v.length c]
  vs : Rd W (txD (mks p.v)) (.slice a (mks p.v).length c)
theorem Bp.keep {w W W' : World} {T : TypeId} {p : PP} {a : Option Addr} {c : Nat} (h : Bp w W T p a c) (hb : Below W.heap.size W W') : Bp w W' T p a c := ⟨h.bl.call hb, h.box.kept (hb.block _ h.box.lt), h.vs.call hb⟩
theorem Bp.new {w : World} {p : PP} {a : Option Addr} {c : Nat} (T : TypeId) (h : Rd w (txD (mks p.v)) (.slice a (mks p.v).length c)) : Bp w (w.alloc (.cells #[.string ⟨p.n.toArray⟩, .slice a p.v.length c] T)) T p a c :=
  ⟨(Bl.refl w).alloc _, Tre.Blk.new w _ [.string ⟨p.n.toArray⟩, .slice a p.v.length c], h.call (new1 _ _)⟩
/-- Parameters that may be walked over. -/
def Sm (p : PP) : Prop := p.n.length ≤ 1000 ∧ p.v.length ≤ 1000 ∧ ∀ v ∈ p.v, v.length ≤ 1000
theorem chkVs_go : ∀ {vs : List (List UInt8)} {k : Nat} (h : k < vs.length), chkVs (vs.take k) = 0 → chkV vs[k] = 0 → chkVs (vs.take (k + 1)) = 0
  | v :: t, 0, _, _, h2 => by
    simp only [List.getElem_cons_zero] at h2
    show chkVs [v] = 0
    unfold chkVs; rw [if_neg (by omega)]; rfl
  | v :: t, k + 1, h, h1, h2 => by
    rw [List.take_succ_cons] at h1 ⊢
    obtain ⟨c1, c2⟩ := chkVs_cons h1
    unfold chkVs
    rw [if_neg (by omega)]
    exact chkVs_go (by simpa using h) c2 (by simpa using h2)
theorem chkVs_stop : ∀ {vs : List (List UInt8)} {k : Nat} (h : k < vs.length), chkVs (vs.take k) = 0 → chkV vs[k] ≠ 0 → chkVs vs = chkV vs[k]
  | v :: t, 0, _, _, h2 => by
    simp only [List.getElem_cons_zero] at h2 ⊢
    unfold chkVs; rw [if_pos h2]
  | v :: t, k + 1, h, h1, h2 => by
    rw [List.take_succ_cons] at h1
    obtain ⟨c1, c2⟩ := chkVs_cons h1
    unfold chkVs
    rw [if_neg (by omega)]
    simp only [List.getElem_cons_succ] at h2 ⊢
    exact chkVs_stop (by simpa using h) c2 h2
theorem chkPs_go : ∀ {ps : List PP} {k : Nat} (h : k < ps.length), chkPs (ps.take k) = 0 → chkP ps[k] = 0 → chkPs (ps.take (k + 1)) = 0
  | v :: t, 0, _, _, h2 => by
    simp only [List.getElem_cons_zero] at h2
    show chkPs [v] = 0
    unfold chkPs; rw [if_neg (by omega)]; rfl
  | v :: t, k + 1, h, h1, h2 => by
    rw [List.take_succ_cons] at h1 ⊢
    obtain ⟨c1, c2⟩ := chkPs_cons h1
    unfold chkPs
    rw [if_neg (by omega)]
    exact chkPs_go (by simpa using h) c2 (by simpa using h2)
theorem chkPs_stop : ∀ {ps : List PP} {k : Nat} (h : k < ps.length), chkPs (ps.take k) = 0 → chkP ps[k] ≠ 0 → chkPs ps = chkP ps[k]
  | v :: t, 0, _, _, h2 => by
    simp only [List.getElem_cons_zero] at h2 ⊢
    unfold chkPs; rw [if_pos h2]
  | v :: t, k + 1, h, h1, h2 => by
    rw [List.take_succ_cons] at h1
    obtain ⟨c1, c2⟩ := chkPs_cons h1
    unfold chkPs
    rw [if_neg (by omega)]
    simp only [List.getElem_cons_succ] at h2 ⊢
    exact chkPs_stop (by simpa using h) c2 h2
theorem twc_go : ∀ {ps acc : List PP} {k : Nat} (h : k < ps.length), twc acc (ps.take k) = false → hasN (acc ++ ps.take k) ps[k].n = false → twc acc (ps.take (k + 1)) = false
  | v :: t, acc, 0, _, _, h2 => by
    simp only [List.take_zero, List.append_nil, List.getElem_cons_zero] at h2
    show twc acc [v] = false
    unfold twc; rw [h2]; rfl
  | v :: t, acc, k + 1, h, h1, h2 => by
    rw [List.take_succ_cons] at h1 h2 ⊢
    unfold twc at h1 ⊢
    rw [Bool.or_eq_false_iff] at h1 ⊢
    refine ⟨h1.1, twc_go (by simpa using h) h1.2 ?_⟩
    rw [List.append_assoc]
    simpa using h2
theorem twc_stop : ∀ {ps acc : List PP} {k : Nat} (h : k < ps.length), hasN (acc ++ ps.take k) ps[k].n = true → twc acc ps = true
  | v :: t, acc, 0, _, h2 => by
    simp only [List.take_zero, List.append_nil, List.getElem_cons_zero] at h2
    unfold twc; rw [h2]; rfl
  | v :: t, acc, k + 1, h, h2 => by
    rw [List.take_succ_cons] at h2
    unfold twc
    rw [Bool.or_eq_true]
    refine .inr (twc_stop (k := k) (by simpa using h) ?_)
    rw [List.append_assoc]
    simpa using h2
theorem mk_back (l : List UInt8) : (ByteArray.mk l.toArray).data.toList = l := by simp
set_option maxRecDepth 20000 in
set_option maxHeartbeats 1000000 in
theorem rchk_any (p : PP) (hp : Sm p) (a : Option Addr) (c : Nat) (w : World) (h : Rd w (txD (mks p.v)) (.slice a (mks p.v).length c)) :
    Calls Tryz.prog 28 #[.agg #[.string ⟨p.n.toArray⟩, .slice a p.v.length c]] w fun r w' => r = .returned (.int .i64 (chkP p)) ∧ Below w.heap.size w w' := by
  have Z0 := Lib.hid (Bp.new 49 h)
  have HN : ∀ W, Calls Tryz.prog 23 #[.string ⟨p.n.toArray⟩] W fun r w' => r = .returned (.bool (nmB p.n)) ∧ W = w' := fun W => by
    have := name_any ⟨p.n.toArray⟩ (by rw [size_mk]; exact hp.1) W
    rwa [mk_back] at this
  have HN2 := Lib.hid HN
  have HP := Lib.hid hp
  have hl := hp.2.1
  clear HN h hp
  have x0 := Z0.out.box.cell (i := 0) rfl
  have x1 := Z0.out.box.cell (i := 1) rfl
  by_cases n1 : nmB p.n = false
  · have HX : chkP p = 4 := by unfold chkP; rw [if_pos n1]
    have HX2 := Lib.hid HX
    rw [n1] at HN2
    have HB := Lib.hid Z0.out.bl
    clear HX n1
    go_enter Tryz.func28, Tryz.ntmps28
    go_wp2_with (go_at_call 23; with_reducible refine (HN2.out _).mono ?_; rintro r w' ⟨rfl, rfl⟩)
    go_ret
    exact ⟨by rw [HX2.out]; rfl, HB.out.below⟩
  · have n1' : nmB p.n = true := by simpa using n1
    rw [n1'] at HN2
    by_cases n2 : p.v.length < 1 ∨ 6 < p.v.length
    · have HX : chkP p = 20 := by unfold chkP; rw [if_neg n1, if_pos n2]
      have HX2 := Lib.hid HX
      have HB := Lib.hid Z0.out.bl
      clear HX n1 n1'
      go_enter Tryz.func28, Tryz.ntmps28
      rcases n2 with n2 | n2
      · have n3 : (p.v.length : Int) < 1 := by omega
        go_wp2_with (go_at_call 23; with_reducible refine (HN2.out _).mono ?_; rintro r w' ⟨rfl, rfl⟩)
        go_ret
        exact ⟨by rw [HX2.out]; rfl, HB.out.below⟩
      · have n3 : (6 : Int) < p.v.length := by omega
        have n4 : ¬ (p.v.length : Int) < 1 := by omega
        go_wp2_with (go_at_call 23; with_reducible refine (HN2.out _).mono ?_; rintro r w' ⟨rfl, rfl⟩)
        go_ret
        exact ⟨by rw [HX2.out]; rfl, HB.out.below⟩
    · have HX : chkP p = chkVs p.v := by unfold chkP; rw [if_neg n1, if_neg n2]
      have HX2 := Lib.hid HX
      have n3 : ¬ (6 : Int) < p.v.length := by omega
      have n4 : ¬ (p.v.length : Int) < 1 := by omega
      clear HX n1 n1' n2
      go_enter Tryz.func28, Tryz.ntmps28
      go_wp2_with (go_at_call 23; with_reducible refine (HN2.out _).mono ?_; rintro r w' ⟨rfl, rfl⟩)
      clear x0 x1
      go_loopw [3] (fun i wr => ∃ k : Nat, k ≤ p.v.length ∧ i = .int .i64 k ∧ Hid (chkVs (p.v.take k) = 0) ∧ Hid (Bp w wr 49 p a c)) (fun i _ => p.v.length - (intOf i).toNat)
      case atStart => exact ⟨0, Nat.zero_le _, rfl, Lib.hid rfl, Z0⟩
      case round =>
        obtain ⟨k, hk, rfl, hq, hb⟩ := hrel
        have x0 := hb.out.box.cell (i := 0) rfl
        have x1 := hb.out.box.cell (i := 1) rfl
        by_cases h : k < p.v.length
        · have h' : (k : Int) < p.v.length := by omega
          obtain ⟨bb, off, rfl, c0⟩ := text_in hb.out.vs h
          have hs := HP.out.2.2 p.v[k] (List.getElem_mem h)
          have hz := size_mk p.v[k]
          have HF : ∀ W, Calls Tryz.prog 47 #[.string ⟨p.v[k].toArray⟩] W fun r w' => r = .returned (.bool (fineB p.v[k])) ∧ Below W.heap.size W w' := fun W => by
            have := fine_any ⟨p.v[k].toArray⟩ (by rw [hz]; exact hs) W
            rwa [mk_back] at this
          have HF2 := Lib.hid HF
          clear HF
          have HGO := Lib.hid (chkVs_go h hq.out)
          have HST := Lib.hid (chkVs_stop h hq.out)
          have HV : Hid (chkV p.v[k] = if 60 < p.v[k].length then 5 else if fineB p.v[k] = true then 0 else 10) := Lib.hid rfl
          clear hq
          generalize ByteArray.mk p.v[k].toArray = y at *
          generalize p.v[k] = v at *
          by_cases d1 : 60 < v.length
          · have d2 : (60 : Int) < y.size := by omega
            have HX3 := Lib.hid (HX2.out.trans ((HST.out (by rw [HV.out, if_pos d1]; decide)).trans (by rw [HV.out, if_pos d1])))
            clear HGO HST
            go_wp2_with fail
            go_ret
            exact ⟨by rw [HX3.out]; rfl, hb.out.bl.below⟩
          · have d2 : ¬ (60 : Int) < y.size := by omega
            rcases hf : fineB v with _ | _
            · have HX3 := Lib.hid (HX2.out.trans ((HST.out (by rw [HV.out, if_neg d1, hf]; decide)).trans (by rw [HV.out, if_neg d1, hf]))) 
              rw [hf] at HF2
              clear HGO HST
              go_wp2_with (go_at_call 47; with_reducible refine (HF2.out _).mono ?_; rintro r w1 ⟨rfl, hbw⟩; have HBW := Lib.hid hbw; clear hbw)
              go_ret
              exact ⟨by rw [HX3.out]; rfl, (hb.out.bl.call HBW.out).below⟩
            · have HQ := Lib.hid (HGO.out (by rw [HV.out, if_neg d1, hf]; rfl))
              rw [hf] at HF2
              clear HGO HST
              go_wp2_with (go_at_call 47; with_reducible refine (HF2.out _).mono ?_; rintro r w1 ⟨rfl, hbw⟩; have HBW := Lib.hid hbw; clear hbw)
              go_roundw
              case rel => exact ⟨k + 1, by omega, by go_num, HQ, Lib.hid (hb.out.keep HBW.out)⟩
              case measure => simp [intOf]; omega
        · obtain rfl : k = p.v.length := by omega
          have hq' := hq.out
          rw [List.take_of_length_le (Nat.le_refl _)] at hq'
          have HX3 := Lib.hid (HX2.out.trans hq')
          clear hq hq'
          go_wp2_with fail
          go_ret
          exact ⟨by rw [HX3.out]; rfl, hb.out.bl.below⟩
/-- Parameters that may be walked over. -/
def SmA (ps : List PP) : Prop := ps.length ≤ 1000 ∧ ∀ p ∈ ps, Sm p
set_option maxRecDepth 20000 in
set_option maxHeartbeats 1000000 in
theorem rchks_any (ps : List PP) (hp : SmA ps) (a : Option Addr) (c : Nat) (hcap : (ps.length : Int) ≤ c) (w : World) (h : Rd w (psD 49 ps) (.slice a ps.length c)) :
    Calls Tryz.prog 21 #[.slice a ps.length c] w fun r w' => r = .returned (.int .i64 (chkA ps)) ∧ Below w.heap.size w w' := by
  have HR := Lib.hid h
  have HP := Lib.hid hp
  have hl := hp.1
  clear h hp
  by_cases n1 : 6 < ps.length
  · have HX : chkA ps = 20 := by unfold chkA; rw [if_pos n1]
    have n2 : (6 : Int) < ps.length := by omega
    have HX2 := Lib.hid HX
    clear HX n1
    go_enter Tryz.func21, Tryz.ntmps21
    go_wp2_with fail
    go_ret
    exact ⟨by rw [HX2.out]; rfl, (Bl.refl w).below⟩
  · have HX : chkA ps = if chkPs ps ≠ 0 then chkPs ps else if twc [] ps = true then 19 else 0 := by unfold chkA; rw [if_neg n1]
    have n2 : ¬ (6 : Int) < ps.length := by omega
    have HX2 := Lib.hid HX
    clear HX n1
    go_enter Tryz.func21, Tryz.ntmps21
    go_wp2_with fail
    go_loopw [3, 4] (fun i _ wr => ∃ k : Nat, k ≤ ps.length ∧ i = .int .i64 k ∧ Hid (chkPs (ps.take k) = 0) ∧ Hid (Bl w wr)) (fun i _ _ => ps.length - (intOf i).toNat)
    case atStart => exact ⟨0, Nat.zero_le _, rfl, Lib.hid rfl, Lib.hid (Bl.refl w)⟩
    case round =>
      obtain ⟨k, hk, rfl, hq, hb⟩ := hrel
      by_cases h : k < ps.length
      · have h' : (k : Int) < ps.length := by omega
        obtain ⟨bb, off, rfl, c0, a1, d1, c1, hv⟩ := param_at (HR.out.call hb.out.below) h
        have HC := Lib.hid (fun W (hW : Rd W (txD (mks ps[k].v)) (.slice a1 (mks ps[k].v).length d1)) => rchk_any ps[k] (HP.out.2 ps[k] (List.getElem_mem h)) a1 d1 W hW)
        have HV := Lib.hid hv
        have HGO := Lib.hid (chkPs_go h hq.out)
        have HST := Lib.hid (chkPs_stop h hq.out)
        clear hq hv
        generalize ps[k] = p at *
        by_cases hc : chkP p = 0
        · have HQ := Lib.hid (HGO.out hc)
          rw [hc] at HC
          clear HGO HST hc
          go_wp2_with (go_at_call 28; with_reducible refine (HC.out _ HV.out).mono ?_; rintro r w1 ⟨rfl, hbw⟩; have HBW := Lib.hid hbw; clear hbw)
          go_roundw
          case rel => exact ⟨k + 1, by omega, by go_num, HQ, Lib.hid (hb.out.call HBW.out)⟩
          case measure => simp [intOf]; omega
        · have HX3 := Lib.hid (HX2.out.trans (by rw [HST.out hc, if_pos hc]))
          generalize chkP p = q at *
          clear HGO HST
          go_wp2_with (go_at_call 28; with_reducible refine (HC.out _ HV.out).mono ?_; rintro r w1 ⟨rfl, hbw⟩; have HBW := Lib.hid hbw; clear hbw)
          go_ret
          exact ⟨by rw [HX3.out]; rfl, (hb.out.call HBW.out).below⟩
      · obtain rfl : k = ps.length := by omega
        have hq' := hq.out
        rw [List.take_of_length_le (Nat.le_refl _)] at hq'
        have HX3 := Lib.hid (HX2.out.trans (if_neg (by rw [hq']; decide)))
        clear hq hq' HX2
        go_wp2_with fail
        go_loopw [5] (fun i wq => ∃ k : Nat, k ≤ ps.length ∧ i = .int .i64 k ∧ Hid (twc [] (ps.take k) = false) ∧ Hid (Bl w wq)) (fun i _ => ps.length - (intOf i).toNat)
        case atStart => exact ⟨0, Nat.zero_le _, rfl, Lib.hid rfl, hb⟩
        case round =>
          obtain ⟨k, hk, rfl, hq, hbq⟩ := hrel
          by_cases h : k < ps.length
          · have h' : (k : Int) < ps.length := by omega
            have hcap2 : (k : Int) ≤ c := by omega
            obtain ⟨bb, off, rfl, c0, -⟩ := param_at (HR.out.call hbq.out.below) h
            have HH : ∀ (W : World) (cc : Nat), Rd W (psD 49 (ps.take k)) (.slice (some ⟨bb, off, none⟩) (ps.take k).length cc) → Calls Tryz.prog 32 #[.slice (some ⟨bb, off, none⟩) (ps.take k).length cc, .string ⟨ps[k].n.toArray⟩] W fun r w' => r = .returned (.bool (hasN (ps.take k) ps[k].n)) ∧ W = w' := fun W cc hW => by
              have := has_any 49 (ps.take k) (by rw [List.length_take]; omega) ⟨ps[k].n.toArray⟩ _ cc W hW
              rwa [mk_back] at this
            have hlt : (ps.take k).length = k := by rw [List.length_take]; omega
            have HFR := Lib.hid (fun n => Rd.front (HR.out.call (hbq.out.drewN n).below) k hk c (by omega))
            rw [hlt] at HH HFR
            have HH2 := Lib.hid HH
            have hbd := fun n => Lib.hid (hbq.out.drewN n)
            have HGO := Lib.hid (fun x => twc_go (acc := []) h hq.out x)
            have HST := Lib.hid (fun x => twc_stop (acc := []) h x)
            rw [List.nil_append] at HGO HST
            clear hq HH
            generalize ps[k].n = n at *
            rcases hh : hasN (ps.take k) n with _ | _
            · have HQ := Lib.hid (HGO.out hh)
              rw [hh] at HH2
              clear HGO HST hh
              go_wp2_with fail
              go_quiet ((go_at_call 32; exact Calls.quiet_of_same ((HH2.out _ _ (HFR.out _)).mono fun _ _ ⟨x, y⟩ => ⟨x, y.symm⟩)))
              go_wp2_with fail
              go_roundw
              case rel => exact ⟨k + 1, by omega, by go_num, HQ, hbd _⟩
              case measure => simp [intOf]; omega
            · have HX4 := Lib.hid (HX3.out.trans (if_pos (HST.out hh)))
              rw [hh] at HH2
              clear HGO HST hh
              go_wp2_with fail
              go_quiet ((go_at_call 32; exact Calls.quiet_of_same ((HH2.out _ _ (HFR.out _)).mono fun _ _ ⟨x, y⟩ => ⟨x, y.symm⟩)))
              go_wp2_with fail
              go_ret
              exact ⟨by rw [HX4.out]; rfl, (hbd _).out.below⟩
          · obtain rfl : k = ps.length := by omega
            have hq' := hq.out
            rw [List.take_of_length_le (Nat.le_refl _)] at hq'
            have HX4 := Lib.hid (HX3.out.trans (if_neg (by rw [hq']; decide)))
            go_wp2_with fail
            go_ret
            exact ⟨by rw [HX4.out]; rfl, hbq.out.below⟩
end Go.Proofs.YtndbgdapojkfaaaGreatDoor.Par
