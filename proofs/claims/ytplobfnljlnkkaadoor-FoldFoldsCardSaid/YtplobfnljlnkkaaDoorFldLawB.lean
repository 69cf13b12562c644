/- The walk of FoldPlaces. -/
import Derived.Test.YtplobfnljlnkkaaDoorFldLawA
set_option linter.unusedVariables false
namespace Go.Proofs.YtplobfnljlnkkaaDoor.Fld
open Go.RowKit Go.Deep Go.Proofs.YtplobfnljlnkkaaDoor.Byt Go.Proofs.YtplobfnljlnkkaaDoor.Utf Go.Proofs.YtplobfnljlnkkaaDoor.Tre

/-- Where a line's byte stands, as Place tells it. -/
theorem plc_a {L : List UInt8} {l : PL} {lo hi k : Nat} (h : LOk L l lo hi) (hk : k < l.t.length) (hh : hi ≤ 100000) : plcA l k = plc l.ps k := by
  unfold plcA plcR
  rw [show max (0 : Int) (min (l.t.length : Int) (k : Int)) = k by omega]
  have := h.at' k hk
  unfold wrap64
  omega
/-- The last place that was told is ahead of the next byte of a line, and ahead of the next line. -/
def La (l : PL) (hi k : Nat) (z : Int) : Prop := (-1 ≤ z ∧ z < hi) ∧ (k < l.t.length → z < plc l.ps k)
theorem La.start {L : List UInt8} {l : PL} {lo hi : Nat} (h : LOk L l lo hi) (hl : lo ≤ hi) {z : Int} (z0 : -1 ≤ z) (z1 : z < lo) : La l hi 0 z := ⟨⟨z0, by omega⟩, fun hk => by have := (h.at' 0 hk).1; omega⟩
theorem La.step {L : List UInt8} {l : PL} {lo hi k : Nat} (h : LOk L l lo hi) (hk : k < l.t.length) : La l hi (k + 1) (plc l.ps k) := ⟨⟨by have := (h.at' k hk).1; omega, (h.at' k hk).2.1⟩, fun h2 => h.next k h2⟩

set_option maxRecDepth 20000 in
set_option maxHeartbeats 2000000 in
theorem walk_places (s : ByteArray) (w : World) (hT : Flt.ETab w) : Calls Tryd.prog 7 #[.string s] w fun r w' => r = .returned (.bool true) ∧ Below w.heap.size w w' := by
  have HT := Lib.hid hT
  have HA := Lib.hid (fun W hW => awake_any W hW)
  clear hT
  by_cases hn : (2000 : Int) < s.size
  · go_enter Tryd.func7, Tryd.ntmps7
    go_wp2_with (go_at_call 8; with_reducible refine (HA.out _ HT.out).mono ?_; rintro r w1 ⟨rfl, hb⟩; have B1 := Lib.hid hb; clear hb)
    go_ret
    exact ⟨rfl, B1.out⟩
  have hs : s.size ≤ 10000 := by omega
  have hU := unfR_unf s.data.toList
  by_cases h0 : (unfR s.data.toList).2.1 = 0
  · have e2 : (unfR s.data.toList).2.2 = 0 := by
      rcases hU.e with ⟨_, h⟩ | ⟨_, h, _⟩ | ⟨_, h, _⟩
      · exact h
      · omega
      · omega
    have H1 := Lib.hid (fun W => unf_ok s hs h0 W)
    have hI := unfR_inn s.data.toList
    have hE : unfR s.data.toList = ((unfR s.data.toList).1, 0, 0) := by
      rw [← h0]
      conv => rhs; rw [h0]
      show _ = ((unfR s.data.toList).1, (0 : Int), (0 : Int))
      rw [← Prod.eta (unfR s.data.toList), ← Prod.eta (unfR s.data.toList).2, h0, e2]
    obtain ⟨b, hb, hbs⟩ := places hE
    have hn' := hU.n
    have hl' := hU.l
    clear hE h0 e2 hU
    generalize (unfR s.data.toList).1 = ls at *
    rw [len_list] at hb hn' hl'
    have HB := Lib.hid hbs
    have HL := Lib.hid hl'
    have HI := Lib.hid hI
    have HE := Lib.hid hb
    have hmono : ∀ m, m ≤ ls.length → ∀ i, i ≤ m → b i ≤ b m := by
      intro m
      induction m with
      | zero => intro _ i hi; have : i = 0 := by omega
                subst this; exact Nat.le_refl _
      | succ m ih =>
        intro hm i hi
        rcases Nat.lt_or_ge m i with h | h
        · have : i = m + 1 := by omega
          subst this; exact Nat.le_refl _
        · exact Nat.le_trans (ih (by omega) i h) (hbs m (by omega)).1
    have HM := Lib.hid (fun i (hi : i ≤ ls.length) => (hb ▸ hmono ls.length (Nat.le_refl _) i hi : b i ≤ s.size))
    clear hbs hl' hI hb hmono
    go_enter Tryd.func7, Tryd.ntmps7
    go_wp2_with (go_at_call 9; with_reducible refine (H1.out _).mono ?_; rintro r w1 ⟨a1, c1, rfl, hr, hb⟩; have R1 := Lib.hid hr; have B1 := Lib.hid ((Bl.refl w).call hb); clear hr hb)
    clear H1
    go_loopw [5, 6] (fun z i wr => ∃ (k : Nat) (y : Int), k ≤ ls.length ∧ i = .int .i64 k ∧ z = .int .i64 y ∧ -1 ≤ y ∧ y ≤ 2000 ∧ Hid (y < b k) ∧ Hid (Bl w1 wr)) (fun _ i _ => ls.length - (intOf i).toNat)
    case atStart => exact ⟨0, -1, Nat.zero_le _, rfl, rfl, Int.le_refl _, by omega, Lib.hid (by omega), Lib.hid (Bl.refl w1)⟩
    case round =>
      obtain ⟨k, y, hk, rfl, rfl, y0, y1, hy, hbl⟩ := hrel
      by_cases h : k < ls.length
      · have h' : (k : Int) < ls.length := by omega
        obtain ⟨ba, oa, rfl, a0, pa, ca, a1, pra⟩ := line_at R1.out h
        have hm := HL.out ls[k] (List.getElem_mem h)
        have hi := HI.out ls[k] (List.getElem_mem h)
        obtain ⟨hbb, hok⟩ := HB.out k h
        have hbk := HM.out (k + 1) (by omega)
        have HO := Lib.hid hok
        have l0 := Byt.cell_lt a0
        have A0 := Lib.hid a0
        have A1 := Lib.hid a1
        have PA := Lib.hid pra
        have hst := La.start hok hbb y0 hy.out
        have HK := Lib.hid (fun (j : Nat) (hj : j < ls[k].t.length) W (hW : Rd W (pD 61 ls[k].ps) (.slice pa ls[k].ps.length ca)) => (by
          have := place_any ls[k] (by omega) (by omega) pa ca j (by omega) (by omega) (fun p hp => by
            have := hi p hp
            rw [len_list] at this
            omega) W hW
          rwa [plc_a hok hj (by omega)] at this : Calls Tryd.prog 19 #[.agg #[.string ⟨ls[k].t.toArray⟩, .slice pa ls[k].ps.length ca], .int .i64 j] W fun r w' => r = .returned (.int .i64 (plc ls[k].ps j)) ∧ Below W.heap.size W w'))
        have hsz : (ByteArray.mk ls[k].t.toArray).size = ls[k].t.length := size_mk _
        have HS := Lib.hid hst
        clear a0 a1 pra hst hi hok
        generalize hlq : ls[k] = l at *
        have HTX := Lib.hid (fun j (hj : j < l.t.length) (hj' : j < (ByteArray.mk l.t.toArray).size) => (by
          show ((l.t.toArray)[j]).toNat = at_ l.t j
          unfold at_
          rw [List.getD_eq_getElem?_getD, List.getElem?_eq_getElem hj]
          simp : ((ByteArray.mk l.t.toArray)[j]'hj').toNat = at_ l.t j))
        rw [← hsz] at hm
        generalize hxq : ByteArray.mk l.t.toArray = tx at *
        have HSZ := Lib.hid hsz
        clear hsz hxq hlq
        go_wp2_with fail
        go_loopw [5, 7] (fun z q wq => ∃ (j : Nat) (x : Int), j ≤ tx.size ∧ q = .int .i64 j ∧ z = .int .i64 x ∧ -1 ≤ x ∧ x ≤ 2000 ∧ Hid (La l (b (k + 1)) j x) ∧ Hid (Bl wr wq)) (fun _ q _ => tx.size - (intOf q).toNat)
        case atStart => exact ⟨0, y, Nat.zero_le _, rfl, rfl, y0, y1, HS, Lib.hid (Bl.refl wr)⟩
        case round =>
          obtain ⟨j, x, hj, rfl, rfl, x0, x1, hx, hbq⟩ := hrel
          have hbw := hbl.out.call hbq.out.below
          have c0 := (hbw.below.cell (p := ⟨ba, oa + k * 2, none⟩) l0).trans A0.out
          have c1 := (hbw.below.cell (p := ⟨ba, oa + k * 2 + 1, none⟩) l0).trans A1.out
          by_cases hlt : j < tx.size
          · have hj' : (j : Int) < tx.size := by omega
            have hjl : j < l.t.length := HSZ.out ▸ hlt
            have HK2 := Lib.hid (HK.out j hjl wr (PA.out.call hbw.below))
            obtain ⟨v0, v1, v2⟩ := HO.out.at' j hjl
            have v3 := hx.out.2 hjl
            have HN := La.step HO.out hjl
            have v4 := HTX.out j hjl hlt
            rw [← v4] at v2
            generalize plc l.ps j = m' at *
            obtain ⟨m, rfl⟩ : ∃ m : Nat, m' = m := ⟨m'.toNat, by omega⟩
            rw [Int.toNat_natCast] at v2
            have hm2 : m < s.size := by omega
            have v5 : (s[m]'hm2).toNat = (tx[j]'hlt).toNat := by rw [← v2, at_get hm2]
            have v6 : (((s[m]'hm2).toNat : Int) != ((tx[j]'hlt).toNat : Int)) = false := by rw [v5]; simp
            have m1 : ¬ (m : Int) ≤ x := by omega
            have m2 : ¬ (s.size : Int) ≤ m := by omega
            have m3 : (m : Int) < s.size := by omega
            have HNN := Lib.hid HN
            have L0 := Lib.hid (Nat.lt_of_lt_of_le l0 hbw.below.size)
            have HX0 := Lib.hid hbq.out
            clear HK HTX v0 v1 v2 v3 v4 HN hbw
            go_wp2_with (go_at_call 19; with_reducible refine HK2.out.mono ?_; rintro r w5 ⟨rfl, hb⟩; have d0 := (hb.cell (p := ⟨ba, oa + k * 2, none⟩) L0.out).trans c0; have B5 := Lib.hid (HX0.out.call hb); clear hb c0 c1)
            go_quiet (fail)
            go_wp2_with fail
            go_roundw
            case rel => exact ⟨j + 1, m, by omega, by go_num, rfl, by omega, by omega, HNN, Lib.hid (B5.out.drewN _)⟩
            case measure => simp [intOf]; omega
          · obtain rfl : j = tx.size := by omega
            have hx2 := hx.out.1.2
            go_wp2_with fail
            go_roundw
            case rel => exact ⟨k + 1, x, by omega, by go_num, rfl, x0, x1, Lib.hid hx2, Lib.hid (hbl.out.call hbq.out.below)⟩
            case measure => simp [intOf]; omega
      · obtain rfl : k = ls.length := by omega
        go_wp2_with (go_at_call 8; with_reducible refine (HA.out _ (HT.out.call ((B1.out.call hbl.out.below).below))).mono ?_; rintro r w9 ⟨rfl, hb⟩; have B9 := Lib.hid ((B1.out.call hbl.out.below).call hb); clear hb)
        go_ret
        exact ⟨rfl, B9.out.below⟩
  · have H1 := Lib.hid (fun W => unf_err s hs h0 W)
    have hz : (unfR s.data.toList).1.length = 0 := by
      rcases hU.e with ⟨h, _⟩ | ⟨h, _⟩ | ⟨h, _⟩
      · exact absurd h h0
      · rw [h]; rfl
      · rw [h]; rfl
    rw [hz] at H1
    unfold Flt.FV at H1
    clear hU h0 hz
    go_enter Tryd.func7, Tryd.ntmps7
    go_wp2_with (first
      | (go_at_call 9; with_reducible refine (H1.out _).mono ?_; rintro r w1 ⟨a1, c1, b1, rfl, -, -, hb⟩; have B1 := Lib.hid ((Bl.refl w).call hb); clear hb)
      | (go_at_call 8; with_reducible refine (HA.out _ (HT.out.call B1.out.below)).mono ?_; rintro r w7 ⟨rfl, hb⟩; have B7 := Lib.hid (B1.out.call hb); clear hb))
    go_ret
    exact ⟨rfl, B7.out.below⟩
end Go.Proofs.YtplobfnljlnkkaaDoor.Fld
