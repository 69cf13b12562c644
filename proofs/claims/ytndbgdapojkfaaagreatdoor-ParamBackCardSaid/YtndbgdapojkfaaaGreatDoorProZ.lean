import Derived.Test.YtndbgdapojkfaaaGreatDoorProY
import Derived.Laws.ResultCell
import Derived.Test.YtndbgdapojkfaaaGreatDoorRfn
import Derived.Test.YtndbgdapojkfaaaGreatDoorParRefH
import Derived.Test.YtndbgdapojkfaaaGreatDoorParRefI
import Derived.Test.YtndbgdapojkfaaaGreatDoorParRefG
import Derived.Test.YtndbgdapojkfaaaGreatDoorParRefE
import Derived.Test.YtndbgdapojkfaaaGreatDoorParOwnW
import Derived.Test.YtndbgdapojkfaaaGreatDoorParEnd
import Derived.Test.YtndbgdapojkfaaaGreatDoorParBack
import Derived.Test.YtndbgdapojkfaaaGreatDoorEro

/- Contracts of package param: next, Parse. -/
set_option linter.unusedVariables false
namespace Go.Proofs.YtndbgdapojkfaaaGreatDoor.Par
open Go.RowKit Go.Deep Go.Proofs.YtndbgdapojkfaaaGreatDoor.Byt Go.Proofs.YtndbgdapojkfaaaGreatDoor.Utf Go.Proofs.YtndbgdapojkfaaaGreatDoor.Tre Go.Proofs.YtndbgdapojkfaaaGreatDoor.Txt Go.Proofs.YtndbgdapojkfaaaGreatDoor.Ero

theorem res_cell_two {fn : Func} {p u v : Tmp} {ty : TypeId} (h : fn.results = #[.cell p ty, .tmp u, .tmp v]) (tmps : Array Value) (P : Program) (w : World) :
    (results fn tmps).run P w = ((asAddr (tmps.getD p undef)).run P w).andThen fun a w₁ => ((loadVar ty a).run P w₁).andThen fun x w₂ => .ok (.tuple #[x, tmps.getD u undef, tmps.getD v undef]) w₂ := by
  simp only [results, h]
  simp [Sem.run_bind, Result.andThen]
/-- What one semicolon makes. -/
def nxt (X : List UInt8) (out : List PP) : PP × Nat × Int :=
  if 6 ≤ out.length then (⟨[], []⟩, 0, 20) else if pre nsg X.tail = 0 ∨ 24 < pre nsg X.tail then (⟨[], []⟩, 1, 4) else if hasN out ((X.tail.take (pre nsg X.tail)).map up) = true then (⟨[], []⟩, 1, 19)
  else if at_ (X.tail.drop (pre nsg X.tail)) 0 ≠ 61 then (⟨[], []⟩, 1 + pre nsg X.tail, 4)
  else if (vals (X.tail.drop (pre nsg X.tail)).tail []).2.2 ≠ 0 then (⟨[], []⟩, 1 + pre nsg X.tail + 1 + (vals (X.tail.drop (pre nsg X.tail)).tail []).2.1, (vals (X.tail.drop (pre nsg X.tail)).tail []).2.2)
  else (⟨(X.tail.take (pre nsg X.tail)).map up, (vals (X.tail.drop (pre nsg X.tail)).tail []).1⟩, 1 + pre nsg X.tail + 1 + (vals (X.tail.drop (pre nsg X.tail)).tail []).2.1, 0)
theorem prs_nxt {X : List UInt8} {out : List PP} (h : at_ X 0 = 59) : prs X out = if (nxt X out).2.2 ≠ 0 then ([], (nxt X out).2.1, (nxt X out).2.2) else ((prs (X.drop (nxt X out).2.1) (out ++ [(nxt X out).1])).1, (nxt X out).2.1 + (prs (X.drop (nxt X out).2.1) (out ++ [(nxt X out).1])).2.1, (prs (X.drop (nxt X out).2.1) (out ++ [(nxt X out).1])).2.2) := by
  rw [prs, if_pos h]
  unfold nxt
  by_cases c1 : 6 ≤ out.length
  · rw [if_pos c1, if_pos c1, if_pos (by simp)]
  rw [if_neg c1, if_neg c1]
  by_cases c2 : pre nsg X.tail = 0 ∨ 24 < pre nsg X.tail
  · rw [if_pos c2, if_pos c2, if_pos (by simp)]
  rw [if_neg c2, if_neg c2]
  by_cases c3 : hasN out ((X.tail.take (pre nsg X.tail)).map up) = true
  · rw [if_pos c3, if_pos c3, if_pos (by simp)]
  rw [if_neg c3, if_neg c3]
  by_cases c4 : at_ (X.tail.drop (pre nsg X.tail)) 0 ≠ 61
  · rw [if_pos c4, if_pos c4, if_pos (by simp)]
  rw [if_neg c4, if_neg c4]
  dsimp only
  by_cases c5 : (vals (X.tail.drop (pre nsg X.tail)).tail []).2.2 ≠ 0
  · rw [if_pos c5, if_pos c5, if_pos c5]
  rw [if_neg c5, if_neg c5, if_neg (by simp)]
theorem nm_pre (L : List UInt8) : nmB ((L.take (pre nsg L)).map up) = decide (1 ≤ pre nsg L ∧ pre nsg L ≤ 24) := by
  have hl := pre_le nsg L
  have hn := pre_none nsg L
  unfold nmB
  congr 1
  apply propext
  rw [List.length_map, List.length_take, Nat.min_eq_left hl]
  constructor
  · intro x; exact x.2
  · intro x
    refine ⟨fun b hb => ?_, x⟩
    obtain ⟨c, hc, rfl⟩ := List.mem_map.1 hb
    exact nsg_no (hn c hc)
theorem plc_ge (ps : List PP) (n : List UInt8) : decide (0 ≤ plc ps n) = hasN ps n := by
  rcases h : hasN ps n with _ | _
  · rw [plc_none h]; rfl
  · exact decide_eq_true (plc_neg h)
/-- An error stays where a box of a text is written. -/
theorem ee_put {W : World} {e k : Int} {v : Value} (h : Ee W e k v) {x : Nat} {T : TypeId} {t : ByteArray} {p : Value} (hx : Tre.Blk W x T [.string t, p]) (u0 u1 : Value) : Ee ((W.setCell ⟨x, 0, none⟩ u0).setCell ⟨x, 1, none⟩ u1) e k v := by
  rcases h.what with ⟨rfl, rfl⟩ | ⟨he, b, rfl⟩
  · exact Ee.none _ _
  · obtain ⟨h⟩ := h
    unfold errL at h
    rw [if_neg he] at h
    cases h with
    | some b' l h =>
      cases h with
      | cons b'' u a l h0 h1 h hr =>
        have hb : b ≠ x := by
          rintro rfl
          have := hx.cell (i := 0) rfl
          rw [h0] at this
          cases this
        have hh : ((W.setCell ⟨x, 0, none⟩ u0).setCell ⟨x, 1, none⟩ u1).heap[b]? = W.heap[b]? := (Below.heap_setCell _ ⟨x, 1, none⟩ u1 b hb).trans (Below.heap_setCell _ ⟨x, 0, none⟩ u0 b hb)
        have hc : ∀ i, ((W.setCell ⟨x, 0, none⟩ u0).setCell ⟨x, 1, none⟩ u1).cell? ⟨b, i, none⟩ = W.cell? ⟨b, i, none⟩ := fun i => by simp only [World.cell?, hh]
        refine ⟨?_⟩
        unfold errL
        rw [if_neg he]
        cases h with
        | num => exact .some _ _ (.cons b _ _ _ ((hc 0).trans h0) ((hc 1).trans h1) .num hr)
/-- Where next stands: its result's cells. -/
structure Nw (w wr : World) : Prop where
  bl : Bl w wr
  box : Tre.Blk wr w.heap.size 46 [.string ⟨#[]⟩, .slice none 0 0]
theorem Nw.call {w wr wq : World} (h : Nw w wr) (hb : Below wr.heap.size wr wq) : Nw w wq := ⟨h.bl.call hb, h.box.kept (hb.block _ h.box.lt)⟩
theorem Nw.put {w wr : World} (h : Nw w wr) (u0 u1 : Value) : Below w.heap.size w ((wr.setCell ⟨w.heap.size, 0, none⟩ u0).setCell ⟨w.heap.size, 1, none⟩ u1) :=
  (h.bl.below.setCell (p := ⟨w.heap.size, 0, none⟩) (Nat.le_refl _) u0).setCell (p := ⟨w.heap.size, 1, none⟩) (Nat.le_refl _) u1
theorem Nw.new (w : World) : Nw w (w.alloc (.cells #[.string ⟨#[]⟩, .slice none 0 0] 46)) := ⟨(Bl.refl w).alloc _, Tre.Blk.new w _ _⟩
/-- What next answers. -/
def PNxt (w : World) (p : Nat) (x : PP × Nat × Int) (r : Ending) (w' : World) : Prop := ∃ ev a c F, r = .returned (.tuple #[.agg #[.string ⟨x.1.n.toArray⟩, .slice a (mks x.1.v).length c], .int .i64 (if x.2.2 = 0 then ((p + x.2.1 : Nat) : Int) else 0), ev]) ∧ Txt.Ow w w' (txD (mks x.1.v)) (.slice a (mks x.1.v).length c) F ∧ Ee w' x.2.2 ((p : Int) + x.2.1) ev ∧ Below w.heap.size w w'
theorem pnxt_no {w wr : World} {p m : Nat} {e : Int} {x : PP × Nat × Int} {ev : Value} {k : Int} (hx : x = (⟨[], []⟩, m, e)) (he : e ≠ 0) (hk : k = (p : Int) + m) (hE : Ee wr e k ev) (hN : Nw w wr) (u0 u1 : Value) : PNxt w p x (.returned (.tuple #[.agg #[.string ⟨#[]⟩, .slice none 0 0], .int .i64 0, ev])) ((wr.setCell ⟨w.heap.size, 0, none⟩ u0).setCell ⟨w.heap.size, 1, none⟩ u1) := by
  subst hx hk
  refine ⟨ev, none, 0, [], ?_, Txt.Ow.nil _ _, ee_put hE hN.box _ _, hN.put _ _⟩
  show _ = Ending.returned (.tuple #[.agg #[.string ⟨#[]⟩, .slice none 0 0], .int .i64 (if e = 0 then _ else 0), ev])
  rw [if_neg he]
theorem pnxt_ok {w wq wr : World} {p m : Nat} {x : PP × Nat × Int} {n : List UInt8} {vs : List (List UInt8)} {k : Int} {y : ByteArray} {ts : List ByteArray} {a : Option Addr} {c : Nat} {F : List Nat} (hx : x = (⟨n, vs⟩, m, 0)) (hk : k = (p : Int) + m) (hy : y = ⟨n.toArray⟩) (ht : mks vs = ts) (hq : w.heap.size < wq.heap.size) (ho : Txt.Ow wq wr (txD ts) (.slice a ts.length c) F) (hN : Nw w wr) (u0 u1 : Value) : PNxt w p x (.returned (.tuple #[.agg #[.string y, .slice a ts.length c], .int .i64 k, .nilIface])) ((wr.setCell ⟨w.heap.size, 0, none⟩ u0).setCell ⟨w.heap.size, 1, none⟩ u1) := by
  subst hx hk hy ht
  have hn : w.heap.size ∉ F := fun hm => by have := (ho.own.lt _ hm).1; omega
  exact ⟨_, a, c, F, rfl, ⟨((ho.own.low (by omega)).set_far (p := ⟨w.heap.size, 0, none⟩) hn u0).set_far (p := ⟨w.heap.size, 1, none⟩) hn u1, ho.nd⟩, Ee.none _ _, hN.put _ _⟩
set_option maxRecDepth 20000 in
set_option maxHeartbeats 4000000 in
theorem pnext_any (s : ByteArray) (hs : s.size ≤ 5000) (p : Nat) (hp : p < s.size) (out : List PP) (ho : out.length ≤ 6) (a : Option Addr) (c : Nat) (w : World) (hr : Rd w (psD 46 out) (.slice a out.length c)) :
    Calls Tryz.prog 29 #[.string s, .int .i64 p, .slice a out.length c] w (PNxt w p (nxt (s.data.toList.drop p) out)) := by
  have HE := Lib.hid (fun e k W => new_ee e k W)
  have L0 := Lib.hid (Nw.new w)
  have hT : (s.data.toList.drop p).tail = s.data.toList.drop (p + 1) := by rw [List.tail_drop]
  have hX : nxt (s.data.toList.drop p) out = nxt (s.data.toList.drop p) out := rfl
  conv at hX => rhs; unfold nxt
  rw [hT] at hX
  have hp' : (p : Int) < s.size := by omega
  by_cases h6 : out.length = 6
  · rw [if_pos (by omega)] at hX
    have HX := Lib.hid hX
    have t6 : ((out.length : Int) == 6) = true := by rw [beq_iff_eq]; omega
    clear hX hr h6
    go_enter Tryz.func29, Tryz.ntmps29
    go_wp2_with (go_at_call 48; with_reducible refine (HE.out _ _ _).mono ?_; rintro r w1 ⟨ev, rfl, hE, hbw⟩; have E1 := Lib.hid hE; have L1 := Lib.hid (L0.out.call hbw); clear hE hbw; have x0 := L1.out.box.cell (i := 0) rfl; have x1 := L1.out.box.cell (i := 1) rfl; have xf := L1.out.box.frozen)
    refine bodyPost_ret (v := .tuple #[.agg #[.string ⟨#[]⟩, .slice none 0 0], .int .i64 0, ev]) ?_ rfl ?_
    · rw [res_cell_two rfl]
      go_simp
    · exact pnxt_no (m := 0) HX.out (by decide) (by omega) E1.out L1.out _ _
  · rw [if_neg (by omega)] at hX
    have t6 : ((out.length : Int) == 6) = false := by rw [beq_eq_false_iff_ne]; omega
    have HEND : Hid (∀ W, Calls Tryz.prog 49 #[.string s, .int .i64 ((p : Int) + 1)] W fun r w' => r = .returned (.int .i64 ((p + 1 + pre nsg (s.data.toList.drop (p + 1)) : Nat) : Int)) ∧ W = w') := Lib.hid (fun W => pend_any s (by omega) (p + 1) hp W)
    have hpl := pre_le nsg (s.data.toList.drop (p + 1))
    rw [List.length_drop, len_list] at hpl
    have hnm := nm_pre (s.data.toList.drop (p + 1))
    generalize pre nsg (s.data.toList.drop (p + 1)) = k at *
    have hmid : (s.extract (p + 1) (p + 1 + k)).data.toList = (s.data.toList.drop (p + 1)).take k := by rw [mid_list, Nat.add_sub_cancel_left]
    have HUP : Hid (∀ W, Calls Tryz.prog 50 #[.string (s.extract (p + 1) (p + 1 + k))] W fun r w' => r = .returned (.string ⟨(((s.data.toList.drop (p + 1)).take k).map up).toArray⟩) ∧ Below W.heap.size W w') := Lib.hid (fun W => by
      have := upper_far (s.extract (p + 1) (p + 1 + k)) (by rw [ByteArray.size_extract]; omega) W
      rwa [hmid] at this)
    have HNM : Hid (∀ W, Calls Tryz.prog 22 #[.string ⟨(((s.data.toList.drop (p + 1)).take k).map up).toArray⟩] W fun r w' => r = .returned (.bool (decide (1 ≤ k ∧ k ≤ 24))) ∧ W = w') := Lib.hid (fun W => by
      have := pname_far ⟨(((s.data.toList.drop (p + 1)).take k).map up).toArray⟩ (by rw [size_mk, List.length_map, List.length_take, List.length_drop, len_list]; omega) W
      rwa [mk_back, hnm] at this)
    have HPL : Hid (∀ W, Below w.heap.size w W → Calls Tryz.prog 39 #[.slice a out.length c, .string ⟨(((s.data.toList.drop (p + 1)).take k).map up).toArray⟩] W fun r w' => r = .returned (.int .i64 (plc out (((s.data.toList.drop (p + 1)).take k).map up))) ∧ Below W.heap.size W w') := Lib.hid (fun W hW => by
      have := pplace_any out (by omega) ⟨(((s.data.toList.drop (p + 1)).take k).map up).toArray⟩ a c W (hr.call hW)
      rwa [mk_back] at this)
    have hpg := plc_ge out (((s.data.toList.drop (p + 1)).take k).map up)
    obtain ⟨e, he⟩ : ∃ e, e = p + 1 + k := ⟨_, rfl⟩
    have hde : (s.data.toList.drop (p + 1)).drop k = s.data.toList.drop e := by rw [List.drop_drop, he]
    have HEQ := Lib.hid (fun W => pre1_any 61 (by decide) s e W)
    rw [hde] at hX
    rw [← he] at HEND HUP
    have hes : e ≤ s.size := by omega
    have c1 : (p : Int) + 1 ≤ e := by omega
    have c2 : (e : Int) ≤ s.size := by omega
    have HKE := Lib.hid (show (e : Int) = (p : Int) + ((1 + k : Nat) : Int) by omega)
    have HNN := Lib.hid (rfl : (⟨(((s.data.toList.drop (p + 1)).take k).map up).toArray⟩ : ByteArray) = ⟨(((s.data.toList.drop (p + 1)).take k).map up).toArray⟩)
    clear hpl hnm hmid hT hr h6
    generalize ((s.data.toList.drop (p + 1)).take k).map up = nm at *
    generalize plc out nm = z at *
    clear HNN
    generalize hnb : ByteArray.mk nm.toArray = nb at *
    have HNB := Lib.hid hnb.symm
    clear hnb
    by_cases hk : k = 0 ∨ 24 < k
    · rw [if_pos hk] at hX
      have HX := Lib.hid hX
      rw [decide_eq_false (by omega)] at HNM
      clear hX hk he hde hpg
      go_enter Tryz.func29, Tryz.ntmps29
      go_wp2_with (first
        | (go_at_call 49; with_reducible refine (HEND.out _).mono ?_; rintro r w' ⟨rfl, rfl⟩)
        | (go_at_call 50; with_reducible refine (HUP.out _).mono ?_; rintro r w1 ⟨rfl, hbw⟩; have L1 := Lib.hid (L0.out.call hbw); clear hbw)
        | (go_at_call 22; with_reducible refine (HNM.out _).mono ?_; rintro r w' ⟨rfl, rfl⟩)
        | (go_at_call 48; with_reducible refine (HE.out _ _ _).mono ?_; rintro r w9 ⟨ev, rfl, hE, hbw⟩; have E1 := Lib.hid hE; have L9 := Lib.hid (L1.out.call hbw); clear hE hbw; have x0 := L9.out.box.cell (i := 0) rfl; have x1 := L9.out.box.cell (i := 1) rfl; have xf := L9.out.box.frozen))
      refine bodyPost_ret (v := .tuple #[.agg #[.string ⟨#[]⟩, .slice none 0 0], .int .i64 0, ev]) ?_ rfl ?_
      · rw [res_cell_two rfl]
        go_simp
      · exact pnxt_no (m := 1) HX.out (by decide) rfl E1.out L9.out _ _
    · rw [if_neg hk] at hX
      rw [decide_eq_true (show 1 ≤ k ∧ k ≤ 24 by omega)] at HNM
      rcases hh : hasN out nm with _ | _
      · rw [hh, if_neg (by decide)] at hX
        rw [hh] at hpg
        have z0 : ¬ (0 : Int) ≤ z := of_decide_eq_false hpg
        by_cases h61 : at_ (s.data.toList.drop e) 0 = 61
        · rw [if_neg (by omega)] at hX
          rw [decide_eq_true (show at_ (s.data.toList.drop e) 0 = (61 : UInt8).toNat from h61)] at HEQ
          have hlt : e < s.size := by
            refine Nat.lt_of_not_le fun hx => ?_
            rw [List.drop_eq_nil_of_le (by rw [len_list]; exact hx)] at h61
            exact absurd h61 (by decide)
          have htl : (s.data.toList.drop e).tail = s.data.toList.drop (e + 1) := by rw [List.tail_drop]
          rw [htl] at hX
          have HVL : Hid (∀ W, Calls Tryz.prog 52 #[.string s, .int .i64 ((e : Int) + 1)] W (PVals W (e + 1) (vals (s.data.toList.drop (e + 1)) []))) := Lib.hid (fun W => pvalues_any s hs (e + 1) hlt W)
          rcases hv : vals (s.data.toList.drop (e + 1)) [] with ⟨vs, m, er⟩
          rw [hv] at hX HVL
          have c3 : (e : Int) < s.size := by omega
          have HK5 := Lib.hid (show (e : Int) + 1 + m = (p : Int) + ((1 + k + 1 + m : Nat) : Int) by omega)
          by_cases her : er = 0
          · subst her
            rw [if_neg (by simp)] at hX
            have HX := Lib.hid hX
            clear hX hk he hde hpg hh h61 hlt htl hv
            go_enter Tryz.func29, Tryz.ntmps29
            go_wp2_with (first
              | (go_at_call 49; with_reducible refine (HEND.out _).mono ?_; rintro r w' ⟨rfl, rfl⟩)
              | (go_at_call 50; with_reducible refine (HUP.out _).mono ?_; rintro r w1 ⟨rfl, hbw⟩; have L1 := Lib.hid (L0.out.call hbw); clear hbw)
              | (go_at_call 22; with_reducible refine (HNM.out _).mono ?_; rintro r w' ⟨rfl, rfl⟩)
              | (go_at_call 39; with_reducible refine (HPL.out _ L1.out.bl.below).mono ?_; rintro r w2 ⟨rfl, hbw⟩; have L2 := Lib.hid (L1.out.call hbw); clear hbw)
              | (go_at_call 51; with_reducible refine (HEQ.out _).mono ?_; rintro r w' ⟨rfl, rfl⟩))
            refine (HVL.out _).mono ?_
            rintro r w3 ⟨ev, a3, c4, F3, rfl, hO, hE, hbw⟩
            obtain rfl := Ee.nil hE
            have HO := Lib.hid hO
            have Z2 := Lib.hid L2.out.box.lt
            have L3 := Lib.hid (L2.out.call hbw)
            have x0 := L3.out.box.cell (i := 0) rfl
            have x1 := L3.out.box.cell (i := 1) rfl
            have xf := L3.out.box.frozen
            clear hO hE hbw
            dsimp only
            generalize hts : mks vs = ts at *
            have HTS := Lib.hid hts
            clear hts
            go_wp2_with fail
            refine bodyPost_ret (v := .tuple #[.agg #[.string nb, .slice a3 ts.length c4], .int .i64 ((e + 1 + m : Nat) : Int), .nilIface]) ?_ rfl ?_
            · rw [res_cell_two rfl]
              go_simp
            · exact pnxt_ok HX.out (by have := HK5.out; omega) HNB.out HTS.out Z2.out HO.out L3.out _ _
          · rw [if_pos (show ((vs, m, er) : List (List UInt8) × Nat × Int).2.2 ≠ 0 from her)] at hX
            have HX := Lib.hid hX
            have her2 : (er != 0) = true := by simpa using her
            have HER := Lib.hid her
            clear hX hk he hde hpg hh h61 hlt htl hv her
            go_enter Tryz.func29, Tryz.ntmps29
            go_wp2_with (first
              | (go_at_call 49; with_reducible refine (HEND.out _).mono ?_; rintro r w' ⟨rfl, rfl⟩)
              | (go_at_call 50; with_reducible refine (HUP.out _).mono ?_; rintro r w1 ⟨rfl, hbw⟩; have L1 := Lib.hid (L0.out.call hbw); clear hbw)
              | (go_at_call 22; with_reducible refine (HNM.out _).mono ?_; rintro r w' ⟨rfl, rfl⟩)
              | (go_at_call 39; with_reducible refine (HPL.out _ L1.out.bl.below).mono ?_; rintro r w2 ⟨rfl, hbw⟩; have L2 := Lib.hid (L1.out.call hbw); clear hbw)
              | (go_at_call 51; with_reducible refine (HEQ.out _).mono ?_; rintro r w' ⟨rfl, rfl⟩))
            refine (HVL.out _).mono ?_
            rintro r w3 ⟨ev, a3, c4, F3, rfl, hO, hE, hbw⟩
            have E1 : Hid (Ee w3 er ((e : Int) + 1 + m) ev) := Lib.hid (by have := hE; simpa using this)
            have e1 : ∀ W, (binOp .neq 25 ev .nilIface).run Tryz.prog W = .ok (.bool true) W := fun W => (hE.neq W).trans (by rw [show ((vs, m, er) : List (List UInt8) × Nat × Int).2.2 = er from rfl, her2])
            have e2 := fun o W => hE.asks o W
            have L9 := Lib.hid (L2.out.call hbw)
            have x0 := L9.out.box.cell (i := 0) rfl
            have x1 := L9.out.box.cell (i := 1) rfl
            have xf := L9.out.box.frozen
            clear hO hE hbw her2
            dsimp only
            generalize (if er = 0 then ((e + 1 + m : Nat) : Int) else 0) = zz at *
            generalize mks vs = ts at *
            go_wp2_with fail
            refine bodyPost_ret (v := .tuple #[.agg #[.string ⟨#[]⟩, .slice none 0 0], .int .i64 0, ev]) ?_ rfl ?_
            · rw [res_cell_two rfl]
              go_simp
            · exact pnxt_no (m := 1 + k + 1 + m) HX.out HER.out HK5.out E1.out L9.out _ _
        · rw [if_pos h61] at hX
          rw [decide_eq_false (show ¬ at_ (s.data.toList.drop e) 0 = (61 : UInt8).toNat from h61)] at HEQ
          have HX := Lib.hid hX
          clear hX hk he hde hpg hh h61
          go_enter Tryz.func29, Tryz.ntmps29
          go_wp2_with (first
            | (go_at_call 49; with_reducible refine (HEND.out _).mono ?_; rintro r w' ⟨rfl, rfl⟩)
            | (go_at_call 50; with_reducible refine (HUP.out _).mono ?_; rintro r w1 ⟨rfl, hbw⟩; have L1 := Lib.hid (L0.out.call hbw); clear hbw)
            | (go_at_call 22; with_reducible refine (HNM.out _).mono ?_; rintro r w' ⟨rfl, rfl⟩)
            | (go_at_call 39; with_reducible refine (HPL.out _ L1.out.bl.below).mono ?_; rintro r w2 ⟨rfl, hbw⟩; have L2 := Lib.hid (L1.out.call hbw); clear hbw)
            | (go_at_call 51; with_reducible refine (HEQ.out _).mono ?_; rintro r w' ⟨rfl, rfl⟩)
            | (go_at_call 48; with_reducible refine (HE.out _ _ _).mono ?_; rintro r w9 ⟨ev, rfl, hE, hbw⟩; have E1 := Lib.hid hE; have L9 := Lib.hid (L2.out.call hbw); clear hE hbw; have x0 := L9.out.box.cell (i := 0) rfl; have x1 := L9.out.box.cell (i := 1) rfl; have xf := L9.out.box.frozen))
          refine bodyPost_ret (v := .tuple #[.agg #[.string ⟨#[]⟩, .slice none 0 0], .int .i64 0, ev]) ?_ rfl ?_
          · rw [res_cell_two rfl]
            go_simp
          · exact pnxt_no (m := 1 + k) HX.out (by decide) HKE.out E1.out L9.out _ _
      · rw [hh, if_pos rfl] at hX
        rw [hh] at hpg
        have z0 : (0 : Int) ≤ z := of_decide_eq_true hpg
        have HX := Lib.hid hX
        clear hX hk he hde hpg hh
        go_enter Tryz.func29, Tryz.ntmps29
        go_wp2_with (first
          | (go_at_call 49; with_reducible refine (HEND.out _).mono ?_; rintro r w' ⟨rfl, rfl⟩)
          | (go_at_call 50; with_reducible refine (HUP.out _).mono ?_; rintro r w1 ⟨rfl, hbw⟩; have L1 := Lib.hid (L0.out.call hbw); clear hbw)
          | (go_at_call 22; with_reducible refine (HNM.out _).mono ?_; rintro r w' ⟨rfl, rfl⟩)
          | (go_at_call 39; with_reducible refine (HPL.out _ L1.out.bl.below).mono ?_; rintro r w2 ⟨rfl, hbw⟩; have L2 := Lib.hid (L1.out.call hbw); clear hbw)
          | (go_at_call 48; with_reducible refine (HE.out _ _ _).mono ?_; rintro r w9 ⟨ev, rfl, hE, hbw⟩; have E1 := Lib.hid hE; have L9 := Lib.hid (L2.out.call hbw); clear hE hbw; have x0 := L9.out.box.cell (i := 0) rfl; have x1 := L9.out.box.cell (i := 1) rfl; have xf := L9.out.box.frozen))
        refine bodyPost_ret (v := .tuple #[.agg #[.string ⟨#[]⟩, .slice none 0 0], .int .i64 0, ev]) ?_ rfl ?_
        · rw [res_cell_two rfl]
          go_simp
        · exact pnxt_no (m := 1) HX.out (by decide) rfl E1.out L9.out _ _
end Go.Proofs.YtndbgdapojkfaaaGreatDoor.Par

/- Contracts of package param: Parse. -/
set_option linter.unusedVariables false
namespace Go.Proofs.YtndbgdapojkfaaaGreatDoor.Par
open Go.RowKit Go.Deep Go.Proofs.YtndbgdapojkfaaaGreatDoor.Byt Go.Proofs.YtndbgdapojkfaaaGreatDoor.Utf Go.Proofs.YtndbgdapojkfaaaGreatDoor.Tre Go.Proofs.YtndbgdapojkfaaaGreatDoor.Txt Go.Proofs.YtndbgdapojkfaaaGreatDoor.Ero

/-- What Parse of the program answers. -/
def PPar (w : World) (x : List PP × Nat × Int) (r : Ending) (w' : World) : Prop := ∃ a c ev, r = .returned (.tuple #[.slice a x.1.length c, .int .i64 (if x.2.2 = 0 then (x.2.1 : Int) else 0), ev]) ∧ (x.1.length : Int) ≤ c ∧ Rd w' (psD 46 x.1) (.slice a x.1.length c) ∧ Ero.Ee w' x.2.2 (if x.2.2 = 0 then 0 else (x.2.1 : Int)) ev ∧ Below w.heap.size w w'
theorem ppar_no {w w' : World} {m : Nat} {e k : Int} {x : List PP × Nat × Int} {ev : Value} (hx : x = ([], m, e)) (he : e ≠ 0) (hk : k = m) (hE : Ee w' e k ev) (hb : Below w.heap.size w w') : PPar w x (.returned (.tuple #[.slice none 0 0, .int .i64 0, ev])) w' := by
  subst hx hk
  refine ⟨none, 0, ev, ?_, Int.le_refl _, .nil _ _ _ _, ?_, hb⟩
  · show _ = Ending.returned (.tuple #[.slice none 0 0, .int .i64 (if e = 0 then _ else 0), ev])
    rw [if_neg he]
  · show Ee w' e (if e = 0 then 0 else (m : Int)) ev
    rw [if_neg he]
    exact hE
theorem ppar_ok {w w' : World} {m : Nat} {ps : List PP} {x : List PP × Nat × Int} {a : Option Addr} {c : Nat} {F : List Nat} (hx : x = (ps, m, 0)) (ho : Txt.Ow w w' (psD 46 ps) (.slice a ps.length c) F) (hb : Below w.heap.size w w') : PPar w x (.returned (.tuple #[.slice a ps.length c, .int .i64 m, .nilIface])) w' := by
  subst hx
  exact ⟨a, c, _, rfl, own_cap ho.own, ho.own.rd, Ee.none _ _, hb⟩
theorem nxt_many {X : List UInt8} {out : List PP} (h : 6 ≤ out.length) : nxt X out = (⟨[], []⟩, 0, 20) := by unfold nxt; rw [if_pos h]
theorem nxt_far {X : List UInt8} {out : List PP} {p : PP} {m : Nat} {e : Int} (h : nxt X out = (p, m, e)) (hX : X ≠ []) : m ≤ X.length := by
  have hl : 1 ≤ X.length := List.length_pos_iff.2 hX
  have hk := pre_le nsg X.tail
  rw [List.length_tail] at hk
  unfold nxt at h
  split at h
  · injection h with h1 h2; injection h2 with h2 h3; omega
  split at h
  · injection h with h1 h2; injection h2 with h2 h3; omega
  split at h
  · injection h with h1 h2; injection h2 with h2 h3; omega
  split at h
  · injection h with h1 h2; injection h2 with h2 h3; omega
  rename_i h61
  have h61' : at_ (X.tail.drop (pre nsg X.tail)) 0 = 61 := by omega
  have hlt := drop44 (X := X.tail) (m := pre nsg X.tail) (c := 61) (by omega) h61'
  have hv := vals_far 6 (X.tail.drop (pre nsg X.tail)).tail [] (by simp)
  rw [List.length_tail, List.length_drop] at hv
  rw [List.length_tail] at hlt hv
  split at h
  · injection h with h1 h2; injection h2 with h2 h3; omega
  · injection h with h1 h2; injection h2 with h2 h3; omega
set_option maxRecDepth 20000 in
set_option maxHeartbeats 4000000 in
theorem pparse_any (s : ByteArray) (hs : s.size ≤ 5000) (w : World) : Calls Tryz.prog 8 #[.string s] w (PPar w (prs s.data.toList [])) := by
  have HS := Lib.hid hs
  go_enter Tryz.func8, Tryz.ntmps8
  go_wp2_with fail
  go_loopg [5, 6, 7, 8, 9] 6 (fun g v at' _ _ _ wr => ∃ (q : Nat) (out : List PP) (F : List Nat), out.length + g = 6 ∧ q ≤ s.size ∧ at' = .int .i64 q ∧ Hid (prs s.data.toList [] = shift q (prs (s.data.toList.drop q) out)) ∧ Hid (Txt.Ow w wr (psD 46 out) v F) ∧ Hid (Bl w wr))
  case atStart => exact ⟨0, [], [], rfl, Nat.zero_le _, rfl, Lib.hid (by unfold shift; simp), Lib.hid (ps_nil _ _ _), Lib.hid (Bl.refl w)⟩
  case round =>
    obtain ⟨q, out, F, hg, hqs, rfl, hq, ho, hb⟩ := hrel
    obtain ⟨va, vc, rfl⟩ := sl_ps ho.out.own.rd
    by_cases h59 : at_ (s.data.toList.drop q) 0 = 59
    · have hlt : q < s.size := by
        refine Nat.lt_of_not_le fun hx => ?_
        rw [List.drop_eq_nil_of_le (by rw [len_list]; exact hx)] at h59
        exact absurd h59 (by decide)
      have hlt' : (q : Int) < s.size := by omega
      have hb0 : (s[q]'hlt).toNat = 59 := by rw [at_first hlt] at h59; exact h59
      have t59 : (((s[q]'hlt).toNat : Int) == 59) = true := by rw [hb0]; rfl
      have HN := Lib.hid (pnext_any s hs q hlt out (by omega) va vc wr ho.out.own.rd)
      rcases hn : nxt (s.data.toList.drop q) out with ⟨p, m, e⟩
      have hpn := prs_nxt (X := s.data.toList.drop q) (out := out) h59
      rw [hn] at hpn HN
      have hfar := nxt_far hn (drop_ne hlt)
      rw [List.length_drop, len_list] at hfar
      by_cases he : e = 0
      · subst he
        cases gk with
        | zero => rw [nxt_many (by omega)] at hn; cases hn
        | succ g =>
          rw [if_neg (by simp)] at hpn
          have HX : Hid (prs s.data.toList [] = shift (q + m) (prs (s.data.toList.drop (q + m)) (out ++ [p]))) := Lib.hid (by
            rw [hq.out, hpn]
            dsimp only
            rw [List.drop_drop]
            generalize prs (s.data.toList.drop (q + m)) (out ++ [p]) = r
            unfold shift
            simp only [Prod.mk.injEq, true_and, and_true]
            omega)
          clear hpn hn h59 hb0 hq
          go_wp2_with fail
          refine (HN.out).mono ?_
          rintro r w1 ⟨ev, a1, c1, G, rfl, hO, hE, hbw⟩
          obtain rfl := Ee.nil hE
          have HO := Lib.hid hO
          have HBW := Lib.hid hbw
          clear hO hE hbw
          dsimp only
          have e0 : (if (0 : Int) = 0 then ((q + m : Nat) : Int) else 0) = ((q + m : Nat) : Int) := if_pos rfl
          rw [e0]
          have B2 := (hb.out.call HBW.out).alloc (.cells #[.string ⟨p.n.toArray⟩, .slice a1 (mks p.v).length c1] 46)
          have hbw2 : Below wr.heap.size wr (w1.alloc (.cells #[.string ⟨p.n.toArray⟩, .slice a1 (mks p.v).length c1] 46)) := ((Bl.refl wr).call HBW.out |>.alloc _).below
          have ho2 : Txt.Ow w (w1.alloc (.cells #[.string ⟨p.n.toArray⟩, .slice a1 (mks p.v).length c1] 46)) (psD 46 out) (.slice va out.length vc) F := ho.out.call hbw2
          have hp2 : Txt.Ow w (w1.alloc (.cells #[.string ⟨p.n.toArray⟩, .slice a1 (mks p.v).length c1] 46)) (txD (mks p.v)) (.slice a1 (mks p.v).length c1) G := ⟨((HO.out.own.low hb.out.le).call (new1 _ _)), HO.out.nd⟩
          obtain ⟨v', w4, F', ra, ro, rb⟩ := params_push (T := 46) (sT := 23) Tryz.underlying23 finfoP (acc := out) (p := p) ho2 hp2 (fun g h1 h2 => by
            have h3 := (ho.out.own.lt g h1).2
            have h4 := (HO.out.own.lt g h2).1
            omega) B2 (by omega)
          rw [show (w1.alloc (.cells #[.string ⟨p.n.toArray⟩, .slice a1 (mks p.v).length c1] 46)).heap.size = w1.heap.size + 1 by simp] at ra
          have RA := Lib.hid ra
          have RO := Lib.hid ro
          have RB := Lib.hid rb
          have hlo : (out ++ [p]).length + g = 6 := by rw [List.length_append]; show _ + 1 + _ = _; omega
          have HLO := Lib.hid hlo
          have HLL := Lib.hid (show out.length + 1 = (out ++ [p]).length by simp)
          obtain ⟨n, hn⟩ : ∃ n, n = q + m := ⟨_, rfl⟩
          have hnl : n ≤ s.size := by omega
          rw [← hn] at HX ⊢
          obtain ⟨va2, vc2, rfl⟩ := sl_ps RO.out.own.rd
          clear e0 B2 hbw2 ho2 hp2 ra ro rb hn hlo
          generalize mks p.v = ts at *
          generalize ByteArray.mk p.n.toArray = nb at *
          go_wp2_with (at_builtin; refine Byt.wpList_append_run rfl (.tmp 31) (.tmp 33) 23 23 rfl _ _ rfl rfl _ w4 RA.out ?_)
          go_roundg g
          case measure => omega
          case rel => exact ⟨n, out ++ [p], F', HLO.out, hnl, by go_num, HX, by rw [HLL.out]; exact RO, RB⟩
      · rw [if_pos (by simpa using he)] at hpn
        have HX : Hid (prs s.data.toList [] = ([], q + m, e)) := Lib.hid (by rw [hq.out, hpn]; rfl)
        have he2 : (e != 0) = true := by simpa using he
        have HE0 := Lib.hid he
        clear hpn hn h59 hb0 hq ho he
        go_wp2_with fail
        refine (HN.out).mono ?_
        rintro r w1 ⟨ev, a1, c1, G, rfl, hO, hE, hbw⟩
        have E1 : Hid (Ee w1 e ((q : Int) + m) ev) := Lib.hid hE
        have e1 : ∀ W, (binOp .neq 25 ev .nilIface).run Tryz.prog W = .ok (.bool true) W := fun W => (E1.out.neq W).trans (by rw [he2])
        have e2 := fun o W => E1.out.asks o W
        have B1 := Lib.hid (hb.out.call hbw)
        clear hO hE hbw he2
        dsimp only
        generalize (if e = 0 then ((q + m : Nat) : Int) else 0) = zz at *
        generalize mks p.v = ts at *
        generalize ByteArray.mk p.n.toArray = nb at *
        go_wp2_with fail
        go_ret3
        exact ppar_no HX.out HE0.out (by omega) (E1.out.call (new1 w1 _)) (B1.out.alloc _).below
    · have hpe := prs_end h59 out
      have HX : Hid (prs s.data.toList [] = (out, q, 0)) := Lib.hid (by rw [hq.out, hpe]; rfl)
      clear hpe hq
      by_cases hlt : q < s.size
      · have hlt' : (q : Int) < s.size := by omega
        have t59 : (((s[q]'hlt).toNat : Int) == 59) = false := by rw [at_first hlt] at h59; rw [beq_eq_false_iff_ne]; omega
        clear h59
        go_wp2_with fail
        go_ret3
        exact ppar_ok HX.out ho.out hb.out.below
      · have hlt' : ¬ (q : Int) < s.size := by omega
        clear h59
        go_wp2_with fail
        go_ret3
        exact ppar_ok HX.out ho.out hb.out.below
end Go.Proofs.YtndbgdapojkfaaaGreatDoor.Par

/- Contracts of package param: Find, Same. -/
set_option linter.unusedVariables false
namespace Go.Proofs.YtndbgdapojkfaaaGreatDoor.Par
open Go.RowKit Go.Deep Go.Proofs.YtndbgdapojkfaaaGreatDoor.Byt Go.Proofs.YtndbgdapojkfaaaGreatDoor.Utf Go.Proofs.YtndbgdapojkfaaaGreatDoor.Tre Go.Proofs.YtndbgdapojkfaaaGreatDoor.Txt

theorem has_first {ps : List PP} {n : List UInt8} (h : hasN ps n = true) : ∃ (k : Nat) (h : k < ps.length), hasN (ps.take k) n = false ∧ (ps[k].n == n) = true := by
  induction ps with
  | nil => cases h
  | cons p t ih =>
    rcases hp : (p.n == n) with _ | _
    · have h2 : hasN t n = true := by
        unfold hasN at h ⊢
        rw [List.any_cons, hp, Bool.false_or] at h
        exact h
      obtain ⟨k, hk, h3, h4⟩ := ih h2
      refine ⟨k + 1, by simpa using hk, ?_, by simpa using h4⟩
      unfold hasN at h3 ⊢
      rw [List.take_succ_cons, List.any_cons, hp, Bool.false_or]
      exact h3
    · exact ⟨0, by simp, rfl, by simpa using hp⟩
/-- A list of texts, made anew. -/
theorem clone_any (ts : List ByteArray) (hn : ts.length ≤ 1000) (a : Option Addr) (c : Nat) (w : World) (h : Rd w (txD ts) (.slice a ts.length c)) :
    Calls Tryz.prog 40 #[.slice a ts.length c] w fun r w' => ∃ a' c' F, r = .returned (.slice a' ts.length c') ∧ Txt.Ow w w' (txD ts) (.slice a' ts.length c') F ∧ Below w.heap.size w w' := by
  rcases Nat.eq_zero_or_pos ts.length with h0 | h0
  · obtain rfl := List.length_eq_zero_iff.1 h0
    cases a with
    | none =>
      refine (shCloneNil 0 c w).mono ?_
      rintro r w' ⟨rfl, rfl⟩
      exact ⟨none, 0, [], rfl, Txt.Ow.nil _ _, Below.refl _ _⟩
    | some a =>
      refine (shCloneZero a c w).mono ?_
      rintro r w' ⟨v', rfl, ho, -, hb⟩
      have ho2 : Txt.Ow w w' (txD []) v' (Tre.blk v' ++ ([] : List (List Nat)).flatten) := ⟨Own.of_cells (vs := []) (Fs := []) ho (Cells.nil _ _), by rw [List.flatten_nil, List.append_nil]; exact blk_nodup v'⟩
      obtain ⟨a', c', rfl⟩ := ho2.sl
      exact ⟨a', c', _, rfl, ho2, hb⟩
  · obtain ⟨b, off, rfl, c0⟩ := text_at h h0
    refine (shClone b off ts.length c ts w (Nat.le_refl _) (by omega) (fun j hj => ?_)).mono ?_
    · obtain ⟨b', off', e, c1⟩ := text_at h hj
      injection e with e
      injection e with e1 e2
      subst e1 e2
      rw [c1, List.getD_eq_getElem?_getD, List.getElem?_eq_getElem hj]
      rfl
    · rintro r w' ⟨v', rfl, ho, -, hb⟩
      rw [List.take_of_length_le (Nat.le_refl _)] at ho
      have hc : Cells w' w.heap.size (ts.flatMap txC) (ts.map Value.string) ((ts.map Value.string).map fun _ => []) := by
        rw [← ones_txC]
        exact ones w' w.heap.size _
      have ho2 : Txt.Ow w w' (txD ts) v' (Tre.blk v' ++ ((ts.map Value.string).map fun _ => ([] : List Nat)).flatten) := ⟨Own.of_cells ho hc, by rw [ones_flat, List.append_nil]; exact blk_nodup v'⟩
      obtain ⟨a', c', rfl⟩ := ho2.sl
      exact ⟨a', c', _, rfl, ho2, hb⟩
set_option maxRecDepth 20000 in
set_option maxHeartbeats 1000000 in
theorem pfind_any (ps : List PP) (hp : SmA ps) (s : ByteArray) (hs : s.size ≤ 1000) (a : Option Addr) (c : Nat) (w : World) (hr : Rd w (psD 46 ps) (.slice a ps.length c)) : Calls Tryz.prog 18 #[.slice a ps.length c, .string s] w (FndR w (fndP ps s.data.toList) (hasN ps s.data.toList)) := by
  have HR := Lib.hid hr
  have HP := Lib.hid hp
  have L0 := Lib.hid (Nw.new w)
  have HPL := Lib.hid (fun W (hW : Below w.heap.size w W) => pplace_any ps hp.1 s a c W (hr.call hW))
  clear hr hp
  rcases hh : hasN ps s.data.toList with _ | _
  · have hx := fndP_none hh
    have HX := Lib.hid hx
    rw [plc_none hh] at HPL
    clear hx hh
    go_enter Tryz.func18, Tryz.ntmps18
    go_wp2_with (go_at_call 39; with_reducible refine (HPL.out _ L0.out.bl.below).mono ?_; rintro r w1 ⟨rfl, hbw⟩; have L1 := Lib.hid (L0.out.call hbw); clear hbw; have x0 := L1.out.box.cell (i := 0) rfl; have x1 := L1.out.box.cell (i := 1) rfl; have xf := L1.out.box.frozen)
    refine bodyPost_ret (v := .tuple #[.agg #[.string ⟨#[]⟩, .slice none 0 0], .bool false]) ?_ rfl ?_
    · rw [results_cell_tmp rfl]
      go_simp
    · rw [HX.out]
      exact ⟨none, 0, rfl, .nil _ _ _ _, L1.out.put _ _⟩
  · obtain ⟨k, hk, h1, h2⟩ := has_first hh
    obtain ⟨hf, -⟩ := fndP_at hk h1 h2
    have HF := Lib.hid hf
    rw [plc_at hk h1 h2] at HPL
    have hk' : (k : Int) < ps.length := by omega
    have hkn : ¬ (k : Int) < 0 := by omega
    have hsn : s = ⟨ps[k].n.toArray⟩ := by rw [beq_iff_eq] at h2; rw [h2, mk_list]
    have HSN := Lib.hid hsn
    have HSM := Lib.hid (HP.out.2 ps[k] (List.getElem_mem hk)).2.1
    clear hf hh h1 h2 hsn
    go_enter Tryz.func18, Tryz.ntmps18
    go_wp2_with fail
    refine (HPL.out _ L0.out.bl.below).mono ?_
    rintro r w1 ⟨rfl, hbw⟩
    have L1 := Lib.hid (L0.out.call hbw)
    clear hbw
    obtain ⟨b, off, rfl, c0, a1, d1, c1, hv⟩ := param_at (HR.out.call L1.out.bl.below) hk
    have hml := mks_len ps[k].v
    rw [← hml] at c1
    have HCL := Lib.hid (clone_any (mks ps[k].v) (by rw [hml]; exact HSM.out) a1 d1 w1 hv)
    have Z1 := Lib.hid L1.out.box.lt
    have HML := Lib.hid hml
    clear hv hml
    generalize ps[k] = p at *
    generalize hts : mks p.v = ts at *
    have HTS := Lib.hid hts
    clear hts
    go_wp2_with fail
    refine (HCL.out).mono ?_
    rintro r w2 ⟨a2, c2, F, rfl, hO, hbw⟩
    have HO := Lib.hid hO
    have L2 := Lib.hid (L1.out.call hbw)
    have x0 := L2.out.box.cell (i := 0) rfl
    have x1 := L2.out.box.cell (i := 1) rfl
    have xf := L2.out.box.frozen
    clear hO hbw
    go_wp2_with fail
    refine bodyPost_ret (v := .tuple #[.agg #[.string s, .slice a2 ts.length c2], .bool true]) ?_ rfl ?_
    · rw [results_cell_tmp rfl]
      go_simp
    · rw [HF.out]
      have hn : w.heap.size ∉ F := fun hm => by have := (HO.out.own.lt _ hm).1; have := Z1.out; omega
      refine ⟨a2, c2, ?_, ?_, L2.out.put _ _⟩
      · rw [← HML.out, HSN.out]
      · rw [HTS.out]
        exact ((HO.out.own.set_far (p := ⟨w.heap.size, 0, none⟩) hn _).set_far (p := ⟨w.heap.size, 1, none⟩) hn _).rd
theorem texts_eq_any (xs ys : List ByteArray) (hx : xs.length ≤ 1000) (hy : ys.length ≤ 1000) (a b : Option Addr) (c d : Nat) (w : World) (h1 : Rd w (txD xs) (.slice a xs.length c)) (h2 : Rd w (txD ys) (.slice b ys.length d)) :
    Calls Tryz.prog 44 #[.slice a xs.length c, .slice b ys.length d] w fun r w' => r = .returned (.bool (decide (xs = ys))) ∧ Below w.heap.size w w' := by
  have cells : ∀ {ts : List ByteArray} {b0 off0 c0 : Nat}, Rd w (txD ts) (.slice (some ⟨b0, off0, none⟩) ts.length c0) → ∀ j, j < ts.length → w.cell? ⟨b0, off0 + j, none⟩ = some (.string (ts.getD j ByteArray.empty)) := fun {ts b0 off0 c0} h j hj => by
    obtain ⟨b', off', e, c1⟩ := text_at h hj
    injection e with e
    injection e with e1 e2
    subst e1 e2
    rw [c1, List.getD_eq_getElem?_getD, List.getElem?_eq_getElem hj]
    rfl
  by_cases hl : xs.length = ys.length
  · rcases Nat.eq_zero_or_pos xs.length with h0 | h0
    · obtain rfl := List.length_eq_zero_iff.1 h0
      obtain rfl := List.length_eq_zero_iff.1 hl.symm
      exact (shEqualEmpty a b c 0 d w (by omega)).mono fun r w' x => ⟨x.1, x.2 ▸ Below.refl _ _⟩
    · obtain ⟨b1, o1, rfl, -⟩ := text_at h1 h0
      obtain ⟨b2, o2, rfl, -⟩ := text_at h2 (show 0 < ys.length by omega)
      refine (shEqual b1 o1 xs.length c b2 o2 ys.length d xs ys w (Nat.le_refl _) (Nat.le_refl _) (by omega) (by omega) (cells h1) (cells h2)).mono ?_
      rintro r w' ⟨rfl, q, rfl⟩
      rw [List.take_of_length_le (Nat.le_refl _), List.take_of_length_le (Nat.le_refl _)]
      exact ⟨rfl, (Bl.refl w).drewN q |>.below⟩
  · refine (shEqualLens a b xs.length c ys.length d w hl).mono fun r w' x => ⟨x.1.trans ?_, x.2 ▸ Below.refl _ _⟩
    rw [decide_eq_false (fun e => hl (congrArg List.length e))]
theorem mks_inj {a b : List (List UInt8)} (h : mks a = mks b) : a = b := by
  have := congrArg (List.map fun t : ByteArray => t.data.toList) h
  rwa [show (mks a).map (fun t : ByteArray => t.data.toList) = a from mks_map_data a, show (mks b).map (fun t : ByteArray => t.data.toList) = b from mks_map_data b] at this
set_option maxRecDepth 20000 in
set_option maxHeartbeats 1000000 in
theorem same1_any (p q : PP) (hp : p.v.length ≤ 1000) (hq : q.v.length ≤ 1000) (a b : Option Addr) (c d : Nat) (w : World) (h1 : Rd w (txD (mks p.v)) (.slice a (mks p.v).length c)) (h2 : Rd w (txD (mks q.v)) (.slice b (mks q.v).length d)) :
    Calls Tryz.prog 43 #[.agg #[.string ⟨p.n.toArray⟩, .slice a p.v.length c], .agg #[.string ⟨q.n.toArray⟩, .slice b q.v.length d]] w fun r w' => r = .returned (.bool (decide (p = q))) ∧ Below w.heap.size w w' := by
  have l1 := mks_len p.v
  have l2 := mks_len q.v
  have HB := (Bl.refl w).alloc (.cells #[.string ⟨p.n.toArray⟩, .slice a p.v.length c] 46) |>.alloc (.cells #[.string ⟨q.n.toArray⟩, .slice b q.v.length d] 46)
  have HE := texts_eq_any (mks p.v) (mks q.v) (by omega) (by omega) a b c d _ (h1.call HB.below) (h2.call HB.below)
  rw [l1, l2] at HE
  have tn := tl_ne p.n q.n
  by_cases en : p.n = q.n
  · rw [decide_eq_true en] at tn
    have ed : decide (mks p.v = mks q.v) = decide (p = q) := by
      by_cases ev : p.v = q.v
      · rw [decide_eq_true (congrArg mks ev), decide_eq_true (PP.ext' en ev)]
      · rw [decide_eq_false (fun x => ev (mks_inj x)), decide_eq_false (fun x => ev (congrArg PP.v x))]
    rw [ed] at HE
    have HE2 := Lib.hid HE
    have HB2 := Lib.hid HB
    clear HE HB ed en h1 h2 l1 l2
    generalize ByteArray.mk p.n.toArray = np at *
    generalize ByteArray.mk q.n.toArray = nq at *
    generalize decide (p = q) = z at *
    go_enter Tryz.func43, Tryz.ntmps43
    go_wp2_with (go_at_call 44; with_reducible refine (HE2.out).mono ?_; rintro r w1 ⟨rfl, hbw⟩; have B1 := Lib.hid (HB2.out.call hbw); clear hbw)
    go_ret
    exact ⟨rfl, B1.out.below⟩
  · rw [decide_eq_false en] at tn
    have hx : decide (p = q) = false := decide_eq_false (fun x => en (congrArg PP.n x))
    have HX := Lib.hid hx
    have HB2 := Lib.hid HB
    clear HE HB en h1 h2 l1 l2 hx
    generalize ByteArray.mk p.n.toArray = np at *
    generalize ByteArray.mk q.n.toArray = nq at *
    go_enter Tryz.func43, Tryz.ntmps43
    go_wp2_with fail
    go_ret
    exact ⟨by rw [HX.out]; rfl, HB2.out.below⟩
set_option maxRecDepth 20000 in
set_option maxHeartbeats 2000000 in
theorem equalfunc_any (ps qs : List PP) (hp : SmA ps) (hq : SmA qs) (a b : Option Addr) (c d : Nat) (w : World) (ha : Rd w (psD 46 ps) (.slice a ps.length c)) (hb : Rd w (psD 46 qs) (.slice b qs.length d)) :
    Calls Tryz.prog 42 #[.slice a ps.length c, .slice b qs.length d, .func (.func 43) #[] #[]] w fun r w' => r = .returned (.bool (decide (ps = qs))) ∧ Below w.heap.size w w' := by
  have HA := Lib.hid ha
  have HB := Lib.hid hb
  have HP := Lib.hid hp
  have HQ := Lib.hid hq
  have hl := hp.1
  have hl2 := hq.1
  clear ha hb hp hq
  by_cases hn : ps.length = qs.length
  · have t0 : ((ps.length : Int) != (qs.length : Int)) = false := by simp; omega
    have HNN := Lib.hid hn
    have hlt : ∀ k, k < ps.length → k < qs.length := fun k h => by omega
    have HLT := Lib.hid hlt
    clear hn hlt
    go_enter Tryz.func42, Tryz.ntmps42
    go_wp2_with fail
    clear t0
    go_loopw [7, 8, 9, 17] (fun _ _ _ i wr => ∃ k : Nat, k ≤ ps.length ∧ i = .int .i64 k ∧ Hid (ps.take k = qs.take k) ∧ Hid (Bl w wr)) (fun _ _ _ i _ => ps.length - (intOf i).toNat)
    case atStart => exact ⟨0, Nat.zero_le _, rfl, Lib.hid rfl, Lib.hid (Bl.refl w)⟩
    case round =>
      obtain ⟨k, hk, rfl, hq, hb⟩ := hrel
      by_cases h : k < ps.length
      · have h' : (k : Int) < ps.length := by omega
        have hq2 := HLT.out k h
        have hq2' : (k : Int) < qs.length := by omega
        obtain ⟨ba, oa, rfl, c0, a1, d1, c1, hv1⟩ := param_at (HA.out.call hb.out.below) h
        obtain ⟨bb, ob, rfl, e0, a2, d2, e1, hv2⟩ := param_at (HB.out.call hb.out.below) hq2
        have e0' := ((new1 wr (.cells #[.string ⟨ps[k].n.toArray⟩, .slice a1 ps[k].v.length d1] 46)).cell (p := ⟨bb, ob + k * 2, none⟩) (Byt.cell_lt e0)).trans e0
        have e1' := ((new1 wr (.cells #[.string ⟨ps[k].n.toArray⟩, .slice a1 ps[k].v.length d1] 46)).cell (p := ⟨bb, ob + k * 2 + 1, none⟩) (Byt.cell_lt e1)).trans e1
        clear e0 e1
        have hbb := ((hb.out.alloc (.cells #[.string ⟨ps[k].n.toArray⟩, .slice a1 ps[k].v.length d1] 46)).alloc (.cells #[.string ⟨qs[k].n.toArray⟩, .slice a2 qs[k].v.length d2] 46))
        have hb2 : Below wr.heap.size wr _ := ((Bl.refl wr).alloc (.cells #[.string ⟨ps[k].n.toArray⟩, .slice a1 ps[k].v.length d1] 46) |>.alloc (.cells #[.string ⟨qs[k].n.toArray⟩, .slice a2 qs[k].v.length d2] 46)).below
        have HS := Lib.hid (same1_any ps[k] qs[k] (HP.out.2 ps[k] (List.getElem_mem h)).2.1 (HQ.out.2 qs[k] (List.getElem_mem hq2)).2.1 a1 a2 d1 d2 _ (hv1.call hb2) (hv2.call hb2))
        have HBB := Lib.hid hbb
        have HTE := Lib.hid (take_eq h hq2 hq.out)
        have HNE := Lib.hid (ne_of_get h hq2)
        clear hv1 hv2 hbb hb2 hq
        generalize ps[k] = p at *
        generalize qs[k] = q at *
        generalize ByteArray.mk p.n.toArray = np at *
        generalize ByteArray.mk q.n.toArray = nq at *
        by_cases he : p = q
        · rw [decide_eq_true he] at HS
          have HQ2 := Lib.hid (HTE.out he)
          clear HTE HNE he
          go_wp2_with (go_at_call 43; with_reducible refine (HS.out).mono ?_; rintro r w1 ⟨rfl, hbw⟩; have B1 := Lib.hid (HBB.out.call hbw); clear hbw)
          go_roundw
          case rel => exact ⟨k + 1, by omega, by go_num, HQ2, B1⟩
          case measure => simp [intOf]; omega
        · rw [decide_eq_false he] at HS
          have HX := Lib.hid (decide_eq_false (HNE.out he))
          clear HTE HNE he
          go_wp2_with (go_at_call 43; with_reducible refine (HS.out).mono ?_; rintro r w1 ⟨rfl, hbw⟩; have B1 := Lib.hid (HBB.out.call hbw); clear hbw)
          go_ret
          exact ⟨by rw [HX.out]; rfl, B1.out.below⟩
      · obtain rfl : k = ps.length := by omega
        have hx := hq.out
        rw [List.take_of_length_le (Nat.le_refl _), List.take_of_length_le (by rw [HNN.out]; exact Nat.le_refl _)] at hx
        have HX := Lib.hid (decide_eq_true hx)
        clear hx hq
        go_wp2_with fail
        go_ret
        exact ⟨by rw [HX.out]; rfl, hb.out.below⟩
  · have t0 : ((ps.length : Int) != (qs.length : Int)) = true := by simp; omega
    have HX := Lib.hid (decide_eq_false (fun e : ps = qs => hn (congrArg List.length e)))
    clear hn
    go_enter Tryz.func42, Tryz.ntmps42
    go_wp2_with fail
    go_ret
    exact ⟨by rw [HX.out]; rfl, Below.refl _ _⟩
theorem psame_any (ps qs : List PP) (hp : SmA ps) (hq : SmA qs) (a b : Option Addr) (c d : Nat) (w : World) (ha : Rd w (psD 46 ps) (.slice a ps.length c)) (hb : Rd w (psD 46 qs) (.slice b qs.length d)) :
    Calls Tryz.prog 24 #[.slice a ps.length c, .slice b qs.length d] w fun r w' => r = .returned (.bool (decide (ps = qs))) ∧ Below w.heap.size w w' := by
  have HE := Lib.hid (equalfunc_any ps qs hp hq a b c d w ha hb)
  clear ha hb hp hq
  generalize decide (ps = qs) = z at *
  go_enter Tryz.func24, Tryz.ntmps24
  go_wp2_with (go_at_call 42; with_reducible refine (HE.out).mono ?_; rintro r w1 ⟨rfl, hbw⟩; have B1 := Lib.hid hbw; clear hbw)
  go_ret
  exact ⟨rfl, B1.out⟩
end Go.Proofs.YtndbgdapojkfaaaGreatDoor.Par

/- What the contracts of package param (XParProA .. XParProJ) give the laws. -/
set_option linter.unusedVariables false
namespace Go.Proofs.YtndbgdapojkfaaaGreatDoor.Par
open Go.RowKit Go.Deep Go.Proofs.YtndbgdapojkfaaaGreatDoor.Byt Go.Proofs.YtndbgdapojkfaaaGreatDoor.Utf Go.Proofs.YtndbgdapojkfaaaGreatDoor.Tre Go.Proofs.YtndbgdapojkfaaaGreatDoor.Txt

/-- What may be is small. -/
theorem sm_chk {ps : List PP} (h : chkA ps = 0) : SmA ps := by
  obtain ⟨h1, h2, h3⟩ := chkA_was h
  refine ⟨by omega, fun p hp => ?_⟩
  obtain ⟨n1, n2, n3, n4⟩ := chkP_was (chkPs_at h2 p hp)
  have hn := of_decide_eq_true n1
  exact ⟨by omega, by omega, fun v hv => by have := chkVs_len n4 v hv; omega⟩
theorem sm_nil : SmA [] := ⟨by decide, fun p hp => by cases hp⟩
/-- What Parse tells is small, and of few bytes; with an error there are no parameters. -/
theorem prs_sm (L : List UInt8) : SmA (prs L []).1 := by
  rcases h : prs L [] with ⟨ps, m, e⟩
  by_cases he : e = 0
  · subst he
    exact sm_chk (prs_may h)
  · have := prs_no (L := L) (by rw [h]; exact he)
    rw [h] at this
    rw [show ps = [] from this]
    exact sm_nil
/-- Parse, where nothing is wrong, and where something is. -/
theorem pp_ok {s : ByteArray} (hs : s.size ≤ 5000) {ps : List PP} {m : Nat} (h : prs s.data.toList [] = (ps, m, 0)) (w : World) : Calls Tryz.prog 8 #[.string s] w fun r w' => ∃ a c, r = .returned (.tuple #[.slice a ps.length c, .int .i64 m, .nilIface]) ∧ (ps.length : Int) ≤ c ∧ Rd w' (psD 46 ps) (.slice a ps.length c) ∧ Below w.heap.size w w' := by
  have hp := pparse_any s hs w
  rw [h] at hp
  refine hp.mono ?_
  rintro r w' ⟨a, c, ev, rfl, h1, h2, h3, h4⟩
  obtain rfl := Ero.Ee.nil h3
  exact ⟨a, c, rfl, h1, h2, h4⟩
theorem pp_no {s : ByteArray} (hs : s.size ≤ 5000) {m : Nat} {e : Int} (he : ¬ e = 0) (h : prs s.data.toList [] = ([], m, e)) (w : World) : Calls Tryz.prog 8 #[.string s] w fun r w' => ∃ a c ev, r = .returned (.tuple #[.slice a ([] : List PP).length c, .int .i64 0, ev]) ∧ Rd w' (psD 46 []) (.slice a ([] : List PP).length c) ∧ Ero.Ee w' e m ev ∧ Below w.heap.size w w' := by
  have hp := pparse_any s hs w
  rw [h] at hp
  refine hp.mono ?_
  rintro r w' ⟨a, c, ev, rfl, h1, h2, h3, h4⟩
  dsimp only at h3
  rw [if_neg he] at h3
  refine ⟨a, c, ev, ?_, h2, h3, h4⟩
  dsimp only
  rw [if_neg he]
theorem rp_any {s : ByteArray} (hs : s.size ≤ 5000) {ps : List PP} {m : Nat} {e : Int} (h : prs s.data.toList [] = (ps, m, e)) (w : World) : Calls Tryz.prog 9 #[.string s] w fun r w' => ∃ a c, r = .returned (.tuple #[.slice a ps.length c, .int .i64 m, .int .i64 e]) ∧ (ps.length : Int) ≤ c ∧ Rd w' (psD 49 ps) (.slice a ps.length c) ∧ Below w.heap.size w w' := by
  have hp := rparse_any s hs w
  rw [h] at hp
  exact hp
theorem rsame_self (ps : List PP) (hp : SmA ps) (a b : Option Addr) (c d : Nat) (w : World) (ha : Rd w (psD 49 ps) (.slice a ps.length c)) (hb : Rd w (psD 49 ps) (.slice b ps.length d)) :
    Calls Tryz.prog 10 #[.slice a ps.length c, .slice b ps.length d] w fun r w' => r = .returned (.bool true) ∧ Below w.heap.size w w' := by
  have := rsame_any ps ps hp hp a b c d w ha hb
  rwa [decide_eq_true rfl] at this
theorem psame_self (ps : List PP) (hp : SmA ps) (a b : Option Addr) (c d : Nat) (w : World) (ha : Rd w (psD 46 ps) (.slice a ps.length c)) (hb : Rd w (psD 46 ps) (.slice b ps.length d)) :
    Calls Tryz.prog 24 #[.slice a ps.length c, .slice b ps.length d] w fun r w' => r = .returned (.bool true) ∧ Below w.heap.size w w' := by
  have := psame_any ps ps hp hp a b c d w ha hb
  rwa [decide_eq_true rfl] at this
theorem pprt_may (ps : List PP) (h : chkA ps = 0) (a : Option Addr) (c : Nat) (hc : (ps.length : Int) ≤ c) (w : World) (hr : Rd w (psD 46 ps) (.slice a ps.length c)) :
    Calls Tryz.prog 16 #[.slice a ps.length c] w fun r w' => r = .returned (.tuple #[.string ⟨(prtA ps).toArray⟩, .int .i64 0]) ∧ Below w.heap.size w w' := by
  have := pprts_any ps (sm_chk h) a c hc w hr
  unfold prtAR at this
  rwa [if_neg (by rw [h]; decide)] at this
theorem pprt_not (ps : List PP) (hp : SmA ps) (h : ¬ chkA ps = 0) (a : Option Addr) (c : Nat) (hc : (ps.length : Int) ≤ c) (w : World) (hr : Rd w (psD 46 ps) (.slice a ps.length c)) :
    Calls Tryz.prog 16 #[.slice a ps.length c] w fun r w' => r = .returned (.tuple #[.string ⟨#[]⟩, .int .i64 (chkA ps)]) ∧ Below w.heap.size w w' := by
  have := pprts_any ps hp a c hc w hr
  unfold prtAR at this
  rwa [if_pos h] at this
theorem back_none {ps : List PP} (h : chkA ps = 0) : prs (prtA ps) [] = (ps, (prtA ps).length, 0) := by
  have := prs_back h (rest := []) rfl (by decide) (by decide)
  rwa [List.append_nil] at this
theorem prt_size {ps : List PP} (h : chkA ps = 0) : (prtA ps).length ≤ 4584 := by
  obtain ⟨h1, h2, h3⟩ := chkA_was h
  have := prtA_len h2
  omega
end Go.Proofs.YtndbgdapojkfaaaGreatDoor.Par
