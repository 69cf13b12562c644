/- The walk of EscapeOnce. -/
import Derived.Test.YtmgobcekhgljeaaDoorEscLaw
set_option linter.unusedVariables false
namespace Go.Proofs.YtmgobcekhgljeaaDoor.Esc
open Go.RowKit Go.Deep Go.Proofs.YtmgobcekhgljeaaDoor.Byt Go.Proofs.YtmgobcekhgljeaaDoor.Utf Go.Proofs.YtmgobcekhgljeaaDoor.Tre Go.Proofs.YtmgobcekhgljeaaDoor.Txt Go.Proofs.YtmgobcekhgljeaaDoor.Ero

theorem is_form (W : World) (k : Int) (v : Value) (h : Ee W 4 k v) : Calls Tryd.prog 19 #[v, .iface 37 (.int .i64 4)] W fun r w' => r = .returned (.bool true) ∧ W = w' := by
  obtain ⟨b, rfl⟩ := h.some (by decide)
  obtain ⟨h⟩ := h
  have h' : Flt.Er W 4 (Flt.FV b) [k] := h
  cases h' with
  | some b l h => exact Flt.eIs_any 4 4 (Flt.FV b) [k] W h
/-- A text of which k bytes are no LF. -/
def NoLf (t : ByteArray) (k : Nat) : Prop := ∀ i (h : i < t.size), i < k → (t[i]'h).toNat ≠ 10
theorem NoLf.step {t : ByteArray} {k : Nat} (h : NoLf t k) (hk : k < t.size) (hb : (t[k]'hk).toNat ≠ 10) : NoLf t (k + 1) := fun i hi hik => by
  rcases Nat.lt_or_ge i k with h1 | h1
  · exact h i hi h1
  · have : i = k := by omega
    subst this
    exact hb
theorem NoLf.all {t : ByteArray} (h : NoLf t t.size) : ∀ c ∈ t.data.toList, c.toNat ≠ 10 := by
  intro b hb
  obtain ⟨i, hi, rfl⟩ := List.mem_iff_getElem.1 hb
  rw [len_list] at hi
  have := h i hi hi
  rw [Array.getElem_toList]
  exact this
/-- Byte for byte the same, but for N. -/
theorem once_at {u s : ByteArray} (h : Nn u.data.toList s.data.toList) {i : Nat} (hu : i < u.size) (hs : i < s.size) : (u[i]'hu).toNat = (s[i]'hs).toNat ∨ ((u[i]'hu).toNat = 110 ∧ (s[i]'hs).toNat = 78 ∧ 0 < i ∧ ∃ h' : i - 1 < s.size, (s[i - 1]'h').toNat = 92) := by
  have := h.at i
  rw [at_get hu, at_get hs] at this
  rcases this with h | ⟨h1, h2, h3, h4⟩
  · exact .inl h
  · have h' : i - 1 < s.size := by omega
    rw [at_get h'] at h4
    exact .inr ⟨h1, h2, h3, h', h4⟩
set_option maxRecDepth 20000 in
set_option maxHeartbeats 1000000 in
theorem walk_once (s : ByteArray) (w : World) (hT : Flt.ETab w) : Calls Tryd.prog 6 #[.string s] w fun r w' => r = .returned (.bool true) ∧ Below w.heap.size w w' := by
  have HT := Lib.hid hT
  have HA := Lib.hid (fun W hW => awake_any W hW)
  clear hT
  by_cases hn : (200 : Int) < s.size
  · go_enter Tryd.func6, Tryd.ntmps6
    go_wp2_with (go_at_call 7; with_reducible refine (HA.out _ HT.out).mono ?_; rintro r w1 ⟨rfl, hb⟩; have B1 := Lib.hid hb; clear hb)
    go_ret
    exact ⟨rfl, B1.out⟩
  have hs : s.size ≤ 200 := by omega
  go_enter Tryd.func6, Tryd.ntmps6
  go_wp2_with fail
  go_loop [3] (fun v => ∃ j : Nat, j ≤ s.size ∧ v = .int .i64 j ∧ Hid (NoLf s j)) (fun v => s.size - (intOf v).toNat)
  case atStart => exact ⟨0, Nat.zero_le _, rfl, Lib.hid (fun i hi h0 => absurd h0 (Nat.not_lt_zero i))⟩
  case round =>
    obtain ⟨j, hj, rfl, hc⟩ := hrel
    by_cases hlt : j < s.size
    · have hj' : (j : Int) < s.size := by omega
      by_cases d1 : (s[j]'hlt).toNat = 10
      · go_wp2_with (go_at_call 7; with_reducible refine (HA.out _ HT.out).mono ?_; rintro r w1 ⟨rfl, hb⟩; have B1 := Lib.hid hb; clear hb)
        go_ret
        exact ⟨rfl, B1.out⟩
      · have HS := Lib.hid (hc.out.step hlt d1)
        have t1 : (((s[j]'hlt).toNat : Int) == 10) = false := by rw [beq_eq_false_iff_ne]; omega
        clear d1
        go_wp2_with fail
        go_round
        case rel => exact ⟨j + 1, by omega, by go_num, HS⟩
        case measure => simp [intOf]; omega
    · obtain rfl : j = s.size := by omega
      have hu := une_ways s.data.toList 0 []
      have ho := une_once s.data.toList hc.out.all 0 []
      have H1 := Lib.hid (fun W => unesc_any s (by omega) W)
      rcases hu with ⟨h0, h1⟩ | ⟨h0, h1, h2, h3⟩
      · obtain ⟨U, hU, hN⟩ := ho h0
        rw [List.nil_append] at hU
        have hlen := hN.len
        have hul := (esc_len U).1
        rw [len_list] at hlen
        have K1 : Hid (∀ W, Calls Tryd.prog 12 #[.string s] W fun r w' => r = .returned (.tuple #[.string ⟨U.toArray⟩, .nilIface]) ∧ Below W.heap.size W w') := Lib.hid (fun W => (H1.out W).mono (by
          rintro r w' ⟨ev, rfl, g1, g2⟩
          rw [h0] at g1
          obtain rfl := Ee.nil g1
          exact ⟨by rw [hU], g2⟩))
        have hud : (ByteArray.mk U.toArray).data.toList = U := by simp
        have he := fun W => esc_any ⟨U.toArray⟩ (by rw [size_mk]; omega) W
        rw [hud] at he
        have K2 := Lib.hid he
        have hyl : (ByteArray.mk (esc U).toArray).data.toList = esc U := by simp
        have hys : (ByteArray.mk (esc U).toArray).size = s.size := by rw [size_mk]; exact hlen
        rw [← hyl] at hN
        have HN := Lib.hid hN
        clear H1 ho hU hN hlen hul hud he hyl h0 h1 hc
        generalize ByteArray.mk (esc U).toArray = y at *
        generalize ByteArray.mk U.toArray = t at *
        have tn : ((s.size : Int) != s.size) = false := by simp
        have HY := Lib.hid hys
        go_wp2_with (first
          | (go_at_call 12; with_reducible refine (K1.out _).mono ?_; rintro r w1 ⟨rfl, hb⟩; have B1 := Lib.hid ((Bl.refl w).call hb); clear hb)
          | (go_at_call 8; with_reducible refine (K2.out _).mono ?_; rintro r w2 ⟨rfl, hb⟩; have B2 := Lib.hid (B1.out.call hb); clear hb))
        clear K1 K2 hys
        go_loopw [7] (fun v wr => ∃ i : Nat, i ≤ s.size ∧ v = .int .i64 i ∧ Hid (Bl w2 wr)) (fun v _ => s.size - (intOf v).toNat)
        case atStart => exact ⟨0, Nat.zero_le _, rfl, Lib.hid (Bl.refl w2)⟩
        case round =>
          obtain ⟨i, hi, rfl, hbl⟩ := hrel
          by_cases h : i < s.size
          · have h' : (i : Int) < s.size := by omega
            have hu : i < y.size := by rw [HY.out]; exact h
            have hu' : (i : Int) < y.size := by omega
            have Bq := fun q => Lib.hid (hbl.out.drewN q)
            rcases once_at HN.out hu h with e | ⟨e1, e2, e3, h4, e4⟩
            · have t1 : (((y[i]'hu).toNat : Int) != ((s[i]'h).toNat : Int)) = false := by rw [e]; simp
              clear e
              go_wp2_with fail
              go_quiet (fail)
              go_wp2_with fail
              go_roundw
              case rel => exact ⟨i + 1, by omega, by go_num, Bq _⟩
              case measure => simp [intOf]; omega
            · have t1 : (((y[i]'hu).toNat : Int) != ((s[i]'h).toNat : Int)) = true := by rw [e1, e2]; rfl
              have t2 : (((y[i]'hu).toNat : Int) != 110) = false := by rw [e1]; rfl
              have t3 : (((s[i]'h).toNat : Int) != 78) = false := by rw [e2]; rfl
              have t4 : ((i : Int) == 0) = false := by rw [beq_eq_false_iff_ne]; omega
              have kw : IntKind.i64.wrap ((i : Int) - 1) = ((i - 1 : Nat) : Int) := by rw [IntWalk.i64_in _ (by omega)]; omega
              have t5 : (((s[i - 1]'h4).toNat : Int) != 92) = false := by rw [e4]; rfl
              have h5 : ((i - 1 : Nat) : Int) < s.size := by omega
              generalize hq : i - 1 = m at *
              clear e1 e2 e4 hq
              go_wp2_with fail
              go_quiet (fail)
              go_wp2_with fail
              go_roundw
              case rel => exact ⟨i + 1, by omega, by go_num, Bq _⟩
              case measure => simp [intOf]; omega
          · obtain rfl : i = s.size := by omega
            go_wp2_with (go_at_call 7; with_reducible refine (HA.out _ (HT.out.call (B2.out.call hbl.out.below).below)).mono ?_; rintro r w9 ⟨rfl, hb⟩; have B9 := Lib.hid ((B2.out.call hbl.out.below).call hb); clear hb)
            go_ret
            exact ⟨rfl, B9.out.below⟩
      · rw [h0, h1] at H1
        generalize (une s.data.toList 0 []).2.2 = k at *
        have HI := Lib.hid (fun W v h => is_form W k v h)
        clear ho h0 h1 h2 h3 hc
        have te : ((4 : Int) != 0) = true := by decide
        have te2 : ((4 : Int) == 0) = false := by decide
        go_wp2_with (first
          | (go_at_call 12; with_reducible refine (H1.out _).mono ?_; rintro r w1 ⟨v1, rfl, he, hb⟩; have E1 := Lib.hid he; have B1 := Lib.hid ((Bl.refl w).call hb); have z1 := fun W => he.neq W; have y1 := fun o W => he.asks o W; clear he hb)
          | (go_at_call 19; with_reducible refine (HI.out _ _ E1.out).mono ?_; rintro r w2 ⟨rfl, rfl⟩)
          | (go_at_call 7; with_reducible refine (HA.out _ (HT.out.call B1.out.below)).mono ?_; rintro r w9 ⟨rfl, hb⟩; have B9 := Lib.hid (B1.out.call hb); clear hb))
        go_ret
        exact ⟨rfl, B9.out.below⟩
end Go.Proofs.YtmgobcekhgljeaaDoor.Esc
