/- The walks of EscapeTells, EscapeReads, EscapeBack. -/
import Derived.Test.YtmgobcekhgljeaaDoorEscAw
import Derived.Test.YtmgobcekhgljeaaDoorCls
set_option linter.unusedVariables false
namespace Go.Proofs.YtmgobcekhgljeaaDoor.Esc
open Go.RowKit Go.Deep Go.Proofs.YtmgobcekhgljeaaDoor.Byt Go.Proofs.YtmgobcekhgljeaaDoor.Utf Go.Proofs.YtmgobcekhgljeaaDoor.Tre Go.Proofs.YtmgobcekhgljeaaDoor.Txt Go.Proofs.YtmgobcekhgljeaaDoor.Ero Go.Proofs.YtmgobcekhgljeaaDoor.Cls

/-- Texts that are not too long. -/
def Fit (ts : List ByteArray) : Prop := ∀ t ∈ ts, t.size ≤ 100
theorem Fit.snoc {ts : List ByteArray} {k : Nat} (h : Fit (ts.take k)) (hk : k < ts.length) (hs : ts[k].size ≤ 100) : Fit (ts.take (k + 1)) := by
  rw [List.take_succ_eq_append_getElem hk]
  intro t ht
  rcases List.mem_append.1 ht with ht | ht
  · exact h t ht
  · have : t = ts[k] := by simpa using ht
    subst this
    exact hs
/-- What is held beside a cell that holds a text. -/
structure Cl (w W : World) (ts : List ByteArray) (a : Option Addr) (c : Nat) (q : Addr) (t : ByteArray) : Prop where
  bl : Bl w W
  tx : Rd W (txD ts) (.slice a ts.length c)
  cell : W.cell? q = some (.string t)
theorem Cl.keep {w : World} {ts : List ByteArray} {a : Option Addr} {c : Nat} {q : Addr} {t : ByteArray} : ∀ W W', Cl w W ts a c q t → Below W.heap.size W W' → Cl w W' ts a c q t :=
  fun _ _ h hb => ⟨h.bl.call hb, h.tx.call hb, (hb.cell (Byt.cell_lt h.cell)).trans h.cell⟩
set_option maxRecDepth 20000 in
set_option maxHeartbeats 1000000 in
theorem walk_tells (ts : List ByteArray) (a : Option Addr) (c : Nat) (w : World) (hT : Flt.ETab w) (ha : Rd w (txD ts) (.slice a ts.length c)) (hmax : ts.length ≤ 9223372036854775807) : Calls Tryd.prog 3 #[.slice a ts.length c] w fun r w' => r = .returned (.bool true) ∧ Below w.heap.size w w' := by
  have HT := Lib.hid hT
  have HX := Lib.hid ha
  have HA := Lib.hid (fun W hW => awake_any W hW)
  clear hT ha
  by_cases hn : (10 : Int) < ts.length
  · go_enter Tryd.func3, Tryd.ntmps3
    go_wp2_with (go_at_call 7; with_reducible refine (HA.out _ HT.out).mono ?_; rintro r w1 ⟨rfl, hb⟩; have B1 := Lib.hid hb; clear hb)
    go_ret
    exact ⟨rfl, B1.out⟩
  clear hmax
  have hn10 : ts.length ≤ 10 := by omega
  go_enter Tryd.func3, Tryd.ntmps3
  go_wp2_with fail
  go_loopw [3] (fun v wr => ∃ k : Nat, k ≤ ts.length ∧ v = .int .i64 k ∧ Hid (Fit (ts.take k)) ∧ Hid (Bl w wr)) (fun v _ => ts.length - (intOf v).toNat)
  case atStart => exact ⟨0, Nat.zero_le _, rfl, Lib.hid (fun t ht => by simp at ht), Lib.hid (Bl.refl w)⟩
  case round =>
    obtain ⟨k, hk, rfl, hf, hbl⟩ := hrel
    by_cases h : k < ts.length
    · have h' : (k : Int) < ts.length := by omega
      have hrd := HX.out.call hbl.out.below
      obtain ⟨b, off, rfl, c0⟩ := text_at hrd h
      have HRD := Lib.hid hrd
      have HN := Lib.hid (fun (hs : ts[k].size ≤ 100) => hf.out.snoc h hs)
      clear hrd
      generalize ts[k] = t at *
      by_cases hl : (100 : Int) < t.size
      · go_wp2_with (go_at_call 7; with_reducible refine (HA.out _ (HT.out.call hbl.out.below)).mono ?_; rintro r w1 ⟨rfl, hb⟩; have B1 := Lib.hid (hbl.out.call hb); clear hb)
        go_ret
        exact ⟨rfl, B1.out.below⟩
      · have hs4 : t.size ≤ 100 := by omega
        have HG : Cl w wr.drew ts (some ⟨b, off, none⟩) c ⟨b, off + k, none⟩ t := Cl.keep _ _ ⟨hbl.out, HRD.out, c0⟩ (Below.refl _ _).drew
        have y0 := fun z : Wd (fun W => Cl w W ts (some ⟨b, off, none⟩) c ⟨b, off + k, none⟩ t) => z.ok.cell
        have HK := Lib.hid (Cl.keep (w := w) (ts := ts) (a := some ⟨b, off, none⟩) (c := c) (q := ⟨b, off + k, none⟩) (t := t))
        have K1 := Lib.hid (fun W => esc_any t (by omega) W)
        have K2 := Lib.hid (fun W => resc_any t (by omega) W)
        have HN2 := Lib.hid (HN.out hs4)
        clear HN
        generalize ByteArray.mk (esc t.data.toList).toArray = y at *
        have ty : (y.toList != y.toList) = false := by simp
        go_wp2_with fail
        refine wp_region_class (fun W => Cl w W ts (some ⟨b, off, none⟩) c ⟨b, off + k, none⟩ t) HG (by kernel_rfl) (by kernel_rfl) ?_
        intro hne
        clear HG c0
        repeat (first
          | go_big_quiet_step (fail)
          | go_big_quiet_step (exact wd_call HK.out (K1.out _))
          | go_big_quiet_step (exact wd_call HK.out (K2.out _)))
        refine wpQuiet_nil ?_
        rintro _ ⟨z, rfl⟩
        have HZ := Lib.hid z.ok.bl
        clear y0 hne
        go_wp2_with fail
        go_roundw
        case rel => exact ⟨k + 1, by omega, by go_num, HN2, HZ⟩
        case measure => simp [intOf]; omega
    · obtain rfl : k = ts.length := by omega
      rw [List.take_of_length_le (Nat.le_refl _)] at hf
      have HJ := Lib.hid (fun W h => join_any ts hn10 hf.out a c W h)
      have HQ := Lib.hid (fun W h => rjoin_any ts hn10 hf.out a c W h)
      have HRD := Lib.hid (HX.out.call hbl.out.below)
      generalize ByteArray.mk (joinE (lists ts)).toArray = y at *
      have ty : (y.toList == y.toList) = true := by simp
      go_wp2_with (first
        | (go_at_call 10; with_reducible refine (HJ.out _ HRD.out).mono ?_; rintro r w3 ⟨rfl, hb⟩; have B3 := Lib.hid (hbl.out.call hb); have R3 := Lib.hid (HRD.out.call hb); clear hb)
        | (go_at_call 11; with_reducible refine (HQ.out _ R3.out).mono ?_; rintro r w4 ⟨rfl, hb⟩; have B4 := Lib.hid (B3.out.call hb); clear hb)
        | (go_at_call 7; with_reducible refine (HA.out _ (HT.out.call B4.out.below)).mono ?_; rintro r w5 ⟨rfl, hb⟩; have B5 := Lib.hid (B4.out.call hb); clear hb))
      go_ret
      exact ⟨rfl, B5.out.below⟩
theorem rsplit_sl (s : ByteArray) (hs : s.size ≤ 1000) (w : World) : Calls Tryd.prog 15 #[.string s] w fun r w' => ∃ a c, r = .returned (.tuple #[.slice a (mks (spl s.data.toList 0 [] []).1).length c, .int .i64 (spl s.data.toList 0 [] []).2.1, .int .i64 (spl s.data.toList 0 [] []).2.2]) ∧ Rd w' (txD (mks (spl s.data.toList 0 [] []).1)) (.slice a (mks (spl s.data.toList 0 [] []).1).length c) ∧ Below w.heap.size w w' := rsplit_any s hs w
set_option maxRecDepth 20000 in
set_option maxHeartbeats 1000000 in
theorem walk_reads (s : ByteArray) (w : World) (hT : Flt.ETab w) : Calls Tryd.prog 4 #[.string s] w fun r w' => r = .returned (.bool true) ∧ Below w.heap.size w w' := by
  have HT := Lib.hid hT
  have HA := Lib.hid (fun W hW => awake_any W hW)
  clear hT
  by_cases hn : (300 : Int) < s.size
  · go_enter Tryd.func4, Tryd.ntmps4
    go_wp2_with (go_at_call 7; with_reducible refine (HA.out _ HT.out).mono ?_; rintro r w1 ⟨rfl, hb⟩; have B1 := Lib.hid hb; clear hb)
    go_ret
    exact ⟨rfl, B1.out⟩
  have hs : s.size ≤ 300 := by omega
  have H1 := Lib.hid (fun W => unesc_any s (by omega) W)
  have H2 := Lib.hid (fun W => runesc_any s (by omega) W)
  have H3 := Lib.hid (fun W => split_any s (by omega) W)
  have H4 := Lib.hid (fun W => rsplit_sl s (by omega) W)
  have hu := une_ways s.data.toList 0 []
  have hp := spl_ways s.data.toList 0 [] []
  have hsm := (spl_small s.data.toList 0 [] []).1
  rw [len_list] at hu hp hsm
  generalize (ByteArray.mk (une s.data.toList 0 []).1.toArray) = x at *
  have hu1 : (une s.data.toList 0 []).2.1 = 0 → (une s.data.toList 0 []).2.2 = 0 := by omega
  have hu2 : 0 ≤ (une s.data.toList 0 []).2.2 ∧ (une s.data.toList 0 []).2.2 ≤ 300 := by omega
  have hp1 : (spl s.data.toList 0 [] []).2.1 = 0 → (spl s.data.toList 0 [] []).2.2 = 0 := by omega
  have hp2 : 0 ≤ (spl s.data.toList 0 [] []).2.2 ∧ (spl s.data.toList 0 [] []).2.2 ≤ 300 := by omega
  clear hu hp
  generalize (une s.data.toList 0 []).2.1 = e1 at *
  generalize (une s.data.toList 0 []).2.2 = k1 at *
  generalize (spl s.data.toList 0 [] []).2.1 = e2 at *
  generalize (spl s.data.toList 0 [] []).2.2 = k2 at *
  rw [← mks_len] at hsm
  generalize mks (spl s.data.toList 0 [] []).1 = ps at *
  have HC1 := Lib.hid (fun W v (h : Ee W e1 k1 v) hT => code_any h hT)
  have HP1 := Lib.hid (fun W v (h : Ee W e1 k1 v) hT => place_any h hT hu1 (by omega) (by omega))
  have HC2 := Lib.hid (fun W v (h : Ee W e2 k2 v) hT => code_any h hT)
  have HP2 := Lib.hid (fun W v (h : Ee W e2 k2 v) hT => place_any h hT hp1 (by omega) (by omega))
  have HS := Lib.hid (fun a b c d W h1 h2 => same_any ps (by rw [List.length_nil] at hsm; omega) a b c d W h1 h2)
  clear hu1 hu2 hp1 hp2 hsm
  have tx : (x.toList == x.toList) = true := by simp
  have q1 : (e1 == e1) = true := by simp
  have q2 : (k1 == k1) = true := by simp
  have q3 : (e2 == e2) = true := by simp
  have q4 : (k2 == k2) = true := by simp
  have q5 : ((e1 == 0) == (e1 == 0)) = true := by simp
  have q6 : ((e2 == 0) == (e2 == 0)) = true := by simp
  go_enter Tryd.func4, Tryd.ntmps4
  go_wp2_with (first
    | (go_at_call 12; with_reducible refine (H1.out _).mono ?_; rintro r w1 ⟨v1, rfl, he, hb⟩; have E1 := Lib.hid he; have B1 := Lib.hid ((Bl.refl w).call hb); have z1 := fun W => he.eql W; have y1 := fun o W => he.ask o W; clear he hb)
    | (go_at_call 13; with_reducible refine (H2.out _).mono ?_; rintro r w2 ⟨rfl, hb⟩; have E2 := Lib.hid (E1.out.call hb); have B2 := Lib.hid (B1.out.call hb); clear hb)
    | (go_at_call 14; with_reducible refine (H3.out _).mono ?_; rintro r w3 ⟨a3, c3, v3, rfl, hr, he, hb⟩; have E3 := Lib.hid (E2.out.call hb); have F3 := Lib.hid he; have R3 := Lib.hid hr; have B3 := Lib.hid (B2.out.call hb); have z3 := fun W => he.eql W; have y3 := fun o W => he.ask o W; clear he hr hb)
    | (go_at_call 15; with_reducible refine (H4.out _).mono ?_; rintro r w4 ⟨a4, c4, rfl, hr, hb⟩; have E4 := Lib.hid (E3.out.call hb); have F4 := Lib.hid (F3.out.call hb); have R4 := Lib.hid (R3.out.call hb); have S4 := Lib.hid hr; have B4 := Lib.hid (B3.out.call hb); clear hr hb)
    | (go_at_call 16; with_reducible refine (HC1.out _ _ E4.out (HT.out.call B4.out.below)).mono ?_; rintro r w5 ⟨rfl, hb⟩; have E5 := Lib.hid (E4.out.call hb); have F5 := Lib.hid (F4.out.call hb); have R5 := Lib.hid (R4.out.call hb); have S5 := Lib.hid (S4.out.call hb); have B5 := Lib.hid (B4.out.call hb); clear hb)
    | (go_at_call 17; with_reducible refine (HP1.out _ _ E5.out (HT.out.call B5.out.below)).mono ?_; rintro r w6 ⟨rfl, hb⟩; have F6 := Lib.hid (F5.out.call hb); have R6 := Lib.hid (R5.out.call hb); have S6 := Lib.hid (S5.out.call hb); have B6 := Lib.hid (B5.out.call hb); clear hb)
    | (go_at_call 18; with_reducible refine (HS.out _ _ _ _ _ R6.out S6.out).mono ?_; rintro r w7 ⟨rfl, hb⟩; have F7 := Lib.hid (F6.out.call hb); have B7 := Lib.hid (B6.out.call hb); clear hb)
    | (go_at_call 16; with_reducible refine (HC2.out _ _ F7.out (HT.out.call B7.out.below)).mono ?_; rintro r w8 ⟨rfl, hb⟩; have F8 := Lib.hid (F7.out.call hb); have B8 := Lib.hid (B7.out.call hb); clear hb)
    | (go_at_call 17; with_reducible refine (HP2.out _ _ F8.out (HT.out.call B8.out.below)).mono ?_; rintro r w9 ⟨rfl, hb⟩; have B9 := Lib.hid (B8.out.call hb); clear hb)
    | (go_at_call 7; with_reducible refine (HA.out _ (HT.out.call B9.out.below)).mono ?_; rintro r w10 ⟨rfl, hb⟩; have B10 := Lib.hid (B9.out.call hb); clear hb))
  go_ret
  exact ⟨rfl, B10.out.below⟩
set_option maxRecDepth 20000 in
set_option maxHeartbeats 1000000 in
theorem walk_back (ts : List ByteArray) (a : Option Addr) (c : Nat) (w : World) (hT : Flt.ETab w) (ha : Rd w (txD ts) (.slice a ts.length c)) (hmax : ts.length ≤ 9223372036854775807) : Calls Tryd.prog 5 #[.slice a ts.length c] w fun r w' => r = .returned (.bool true) ∧ Below w.heap.size w w' := by
  have HT := Lib.hid hT
  have HX := Lib.hid ha
  have HA := Lib.hid (fun W hW => awake_any W hW)
  clear hT ha
  by_cases hn : (10 : Int) < ts.length
  · go_enter Tryd.func5, Tryd.ntmps5
    go_wp2_with (go_at_call 7; with_reducible refine (HA.out _ HT.out).mono ?_; rintro r w1 ⟨rfl, hb⟩; have B1 := Lib.hid hb; clear hb)
    go_ret
    exact ⟨rfl, B1.out⟩
  clear hmax
  by_cases hz : (ts.length : Int) = 0
  · go_enter Tryd.func5, Tryd.ntmps5
    go_wp2_with (go_at_call 7; with_reducible refine (HA.out _ HT.out).mono ?_; rintro r w1 ⟨rfl, hb⟩; have B1 := Lib.hid hb; clear hb)
    go_ret
    exact ⟨rfl, B1.out⟩
  have hz0 : ((ts.length : Int) == 0) = false := by rw [beq_eq_false_iff_ne]; exact hz
  have hn10 : ts.length ≤ 10 := by omega
  have HZ := Lib.hid (show 0 < ts.length by omega)
  clear hz
  go_enter Tryd.func5, Tryd.ntmps5
  go_wp2_with fail
  go_loopw [3] (fun v wr => ∃ k : Nat, k ≤ ts.length ∧ v = .int .i64 k ∧ Hid (Fit (ts.take k)) ∧ Hid (Bl w wr)) (fun v _ => ts.length - (intOf v).toNat)
  case atStart => exact ⟨0, Nat.zero_le _, rfl, Lib.hid (fun t ht => by simp at ht), Lib.hid (Bl.refl w)⟩
  case round =>
    obtain ⟨k, hk, rfl, hf, hbl⟩ := hrel
    by_cases h : k < ts.length
    · have h' : (k : Int) < ts.length := by omega
      have hrd := HX.out.call hbl.out.below
      obtain ⟨b, off, rfl, c0⟩ := text_at hrd h
      have HN := Lib.hid (fun (hs : ts[k].size ≤ 100) => hf.out.snoc h hs)
      clear hrd
      generalize ts[k] = t at *
      have l0 := Byt.cell_lt c0
      by_cases hl : (100 : Int) < t.size
      · go_wp2_with (go_at_call 7; with_reducible refine (HA.out _ (HT.out.call hbl.out.below)).mono ?_; rintro r w1 ⟨rfl, hb⟩; have B1 := Lib.hid (hbl.out.call hb); clear hb)
        go_ret
        exact ⟨rfl, B1.out.below⟩
      · have hs4 : t.size ≤ 100 := by omega
        have HN2 := Lib.hid (HN.out hs4)
        have K1 := Lib.hid (fun W => esc_any t (by omega) W)
        have hel := (esc_len t.data.toList).2
        rw [len_list] at hel
        have hyl : (ByteArray.mk (esc t.data.toList).toArray).data.toList = esc t.data.toList := by simp
        have hU := fun W => unesc_any ⟨(esc t.data.toList).toArray⟩ (by rw [size_mk]; omega) W
        rw [hyl, une_esc, List.nil_append, mk_list] at hU
        have K2 : Hid (∀ W, Calls Tryd.prog 12 #[.string ⟨(esc t.data.toList).toArray⟩] W fun r w' => r = .returned (.tuple #[.string t, .nilIface]) ∧ Below W.heap.size W w') := Lib.hid (fun W => (hU W).mono (by
          rintro r w' ⟨ev, rfl, h1, h2⟩
          obtain rfl := Ee.nil h1
          exact ⟨rfl, h2⟩))
        have C0 := Lib.hid c0
        have L0 := Lib.hid l0
        clear HN hel hyl hU
        generalize ByteArray.mk (esc t.data.toList).toArray = y at *
        have tt : (t.toList != t.toList) = false := by simp
        go_wp2_with (first
          | (go_at_call 8; with_reducible refine (K1.out _).mono ?_; rintro r w1 ⟨rfl, hb⟩; have B1 := Lib.hid ((Bl.refl wr).call hb); clear hb)
          | (go_at_call 12; with_reducible refine (K2.out _).mono ?_; rintro r w2 ⟨rfl, hb⟩; have B2 := Lib.hid (B1.out.call hb); have c2 := (B2.out.below.cell (p := ⟨b, off + k, none⟩) L0.out).trans C0.out; clear hb))
        go_roundw
        case rel => exact ⟨k + 1, by omega, by go_num, HN2, Lib.hid (hbl.out.call B2.out.below)⟩
        case measure => simp [intOf]; omega
    · obtain rfl : k = ts.length := by omega
      rw [List.take_of_length_le (Nat.le_refl _)] at hf
      have HJ := Lib.hid (fun W h => join_any ts hn10 hf.out a c W h)
      have HRD := Lib.hid (HX.out.call hbl.out.below)
      have hjl := joinE_len (lists ts) (fun y hy => by
        obtain ⟨t, ht, rfl⟩ := List.mem_map.1 hy
        rw [len_list]
        exact hf.out t ht)
      rw [lists_len] at hjl
      have hyl : (ByteArray.mk (joinE (lists ts)).toArray).data.toList = joinE (lists ts) := by simp
      have hne : lists ts ≠ [] := by
        intro e
        have := congrArg List.length e
        rw [lists_len, List.length_nil] at this
        have := HZ.out
        omega
      have hU := fun W => split_any ⟨(joinE (lists ts)).toArray⟩ (by rw [size_mk]; omega) W
      rw [hyl, spl_join _ hne, List.nil_append] at hU
      dsimp only at hU
      rw [mks_lists] at hU
      have K2 : Hid (∀ W, Calls Tryd.prog 14 #[.string ⟨(joinE (lists ts)).toArray⟩] W fun r w' => ∃ a c, r = .returned (.tuple #[.slice a ts.length c, .nilIface]) ∧ Rd w' (txD ts) (.slice a ts.length c) ∧ Below W.heap.size W w') := Lib.hid (fun W => (hU W).mono (by
        rintro r w' ⟨a, c, ev, rfl, h1, h2, h3⟩
        obtain rfl := Ee.nil h2
        exact ⟨a, c, rfl, h1, h3⟩))
      have HS := Lib.hid (fun a b c d W h1 h2 => same_any ts (by omega) a b c d W h1 h2)
      clear hjl hyl hne hU
      generalize ByteArray.mk (joinE (lists ts)).toArray = y at *
      go_wp2_with (first
        | (go_at_call 10; with_reducible refine (HJ.out _ HRD.out).mono ?_; rintro r w3 ⟨rfl, hb⟩; have B3 := Lib.hid (hbl.out.call hb); have R3 := Lib.hid (HRD.out.call hb); clear hb)
        | (go_at_call 14; with_reducible refine (K2.out _).mono ?_; rintro r w4 ⟨a4, c4, rfl, hr, hb⟩; have B4 := Lib.hid (B3.out.call hb); have R4 := Lib.hid (R3.out.call hb); have S4 := Lib.hid hr; clear hr hb)
        | (go_at_call 18; with_reducible refine (HS.out _ _ _ _ _ S4.out R4.out).mono ?_; rintro r w5 ⟨rfl, hb⟩; have B5 := Lib.hid (B4.out.call hb); clear hb)
        | (go_at_call 7; with_reducible refine (HA.out _ (HT.out.call B5.out.below)).mono ?_; rintro r w6 ⟨rfl, hb⟩; have B6 := Lib.hid (B5.out.call hb); clear hb))
      go_ret
      exact ⟨rfl, B6.out.below⟩
end Go.Proofs.YtmgobcekhgljeaaDoor.Esc
