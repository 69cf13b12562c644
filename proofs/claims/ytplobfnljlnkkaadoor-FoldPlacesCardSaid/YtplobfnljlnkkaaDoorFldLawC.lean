/- The walk of FoldBack. -/
import Derived.Test.YtplobfnljlnkkaaDoorFldLawA
set_option linter.unusedVariables false
namespace Go.Proofs.YtplobfnljlnkkaaDoor.Fld
open Go.RowKit Go.Deep Go.Proofs.YtplobfnljlnkkaaDoor.Byt Go.Proofs.YtplobfnljlnkkaaDoor.Utf Go.Proofs.YtplobfnljlnkkaaDoor.Tre

/-- Texts that may be folded and put back. -/
def Fits (ts : List ByteArray) : Prop := ∀ t ∈ ts, fit t.data.toList ∧ t.size ≤ 400
theorem Fits.snoc {ts : List ByteArray} {k : Nat} (h : Fits (ts.take k)) (hk : k < ts.length) (hf : fit ts[k].data.toList) (hs : ts[k].size ≤ 400) : Fits (ts.take (k + 1)) := by
  rw [List.take_succ_eq_append_getElem hk]
  intro t ht
  rcases List.mem_append.1 ht with ht | ht
  · exact h t ht
  · have : t = ts[k] := by simpa using ht
    subst this
    exact ⟨hf, hs⟩
/-- A text of which k bytes end no row. -/
def Cl (t : ByteArray) (k : Nat) : Prop := ∀ i (h : i < t.size), i < k → (t[i]'h).toNat ≠ 10 ∧ (t[i]'h).toNat ≠ 13
theorem Cl.step {t : ByteArray} {k : Nat} (h : Cl t k) (hk : k < t.size) (hb : (t[k]'hk).toNat ≠ 10 ∧ (t[k]'hk).toNat ≠ 13) : Cl t (k + 1) := fun i hi hik => by
  rcases Nat.lt_or_ge i k with h1 | h1
  · exact h i hi h1
  · have : i = k := by omega
    subst this
    exact hb
theorem Cl.clean {t : ByteArray} (h : Cl t t.size) : clean t.data.toList := by
  intro b hb
  obtain ⟨i, hi, rfl⟩ := List.mem_iff_getElem.1 hb
  rw [len_list] at hi
  have := h i hi hi
  rw [Array.getElem_toList]
  exact this
theorem fit_of {t : ByteArray} (h : Cl t t.size) (h0 : ∀ h : 0 < t.size, (t[0]'h).toNat ≠ 32 ∧ (t[0]'h).toNat ≠ 9) : fit t.data.toList := by
  refine ⟨h.clean, fun hne => ?_⟩
  have hp : 0 < t.size := by
    have := List.length_pos_iff.2 hne
    rwa [len_list] at this
  have := h0 hp
  rw [at_get hp]
  exact this
/-- What the texts' rows are, put back. -/
theorem back_of {ts : List ByteArray} (hf : Fits ts) (hn : ts.length ≤ 10) : ∃ ls : List PL, ls.map (·.t) = lists ts ∧ unfR (joinL (lists ts)) = (ls, 0, 0) :=
  back (fun t ht => by obtain ⟨x, hx, rfl⟩ := List.mem_map.1 ht; exact (hf x hx).1) (fun t ht => by obtain ⟨x, hx, rfl⟩ := List.mem_map.1 ht; rw [len_list]; exact (hf x hx).2) (by unfold lists; rw [List.length_map]; exact hn)

set_option maxRecDepth 20000 in
set_option maxHeartbeats 2000000 in
theorem walk_back (ts : List ByteArray) (a : Option Addr) (c : Nat) (w : World) (hT : Flt.ETab w) (ha : Rd w (txD ts) (.slice a ts.length c)) (hmax : ts.length ≤ 9223372036854775807) : Calls Tryd.prog 5 #[.slice a ts.length c] w fun r w' => r = .returned (.bool true) ∧ Below w.heap.size w w' := by
  have HT := Lib.hid hT
  have HX := Lib.hid ha
  have HA := Lib.hid (fun W hW => awake_any W hW)
  clear hT ha
  by_cases hn : (10 : Int) < ts.length
  · go_enter Tryd.func5, Tryd.ntmps5
    go_wp2_with (go_at_call 8; with_reducible refine (HA.out _ HT.out).mono ?_; rintro r w1 ⟨rfl, hb⟩; have B1 := Lib.hid hb; clear hb)
    go_ret
    exact ⟨rfl, B1.out⟩
  clear hmax
  have hn10 : ts.length ≤ 10 := by omega
  go_enter Tryd.func5, Tryd.ntmps5
  go_wp2_with fail
  go_loop [3] (fun v => ∃ k : Nat, k ≤ ts.length ∧ v = .int .i64 k ∧ Hid (Fits (ts.take k))) (fun v => ts.length - (intOf v).toNat)
  case atStart => exact ⟨0, Nat.zero_le _, rfl, Lib.hid (fun t ht => by simp at ht)⟩
  case round =>
    obtain ⟨k, hk, rfl, hf⟩ := hrel
    by_cases h : k < ts.length
    · have h' : (k : Int) < ts.length := by omega
      obtain ⟨b, off, rfl, c0⟩ := text_at HX.out h
      have HN := Lib.hid (fun hf2 hs => hf.out.snoc h hf2 hs)
      generalize ts[k] = t at *
      by_cases hl : (400 : Int) < t.size
      · go_wp2_with (go_at_call 8; with_reducible refine (HA.out _ HT.out).mono ?_; rintro r w1 ⟨rfl, hb⟩; have B1 := Lib.hid hb; clear hb)
        go_ret
        exact ⟨rfl, B1.out⟩
      · have hcut : (t.size = 0 ∨ ∃ h0 : 0 < t.size, ((t[0]'h0).toNat = 32 ∨ (t[0]'h0).toNat = 9)) ∨ ∃ h0 : 0 < t.size, ((t[0]'h0).toNat ≠ 32 ∧ (t[0]'h0).toNat ≠ 9) := by
          rcases Nat.eq_zero_or_pos t.size with h0 | h0
          · exact .inl (.inl h0)
          · by_cases hb : (t[0]'h0).toNat = 32 ∨ (t[0]'h0).toNat = 9
            · exact .inl (.inr ⟨h0, hb⟩)
            · exact .inr ⟨h0, by omega, by omega⟩
        rcases hcut with (hz | ⟨h0, hb⟩) | ⟨h0, hb1, hb2⟩
        · have HZ := Lib.hid (fun h : 0 < t.size => (absurd hz (by omega) : (t[0]'h).toNat ≠ 32 ∧ (t[0]'h).toNat ≠ 9))
          have hz' : (t.size : Int) = 0 := by omega
          clear hz
          go_wp2_with fail
          go_loop [5] (fun v => ∃ j : Nat, j ≤ t.size ∧ v = .int .i64 j ∧ Hid (Cl t j)) (fun v => t.size - (intOf v).toNat)
          case atStart => exact ⟨0, Nat.zero_le _, rfl, Lib.hid (fun i hi h0 => absurd h0 (Nat.not_lt_zero i))⟩
          case round =>
            obtain ⟨j, hj, rfl, hc⟩ := hrel
            by_cases hlt : j < t.size
            · exact absurd hlt (by omega)
            · obtain rfl : j = t.size := by omega
              have HFit := Lib.hid (HN.out (fit_of hc.out HZ.out) (by omega))
              go_wp2_with fail
              go_round
              case rel => exact ⟨k + 1, by omega, by go_num, HFit⟩
              case measure => simp [intOf]; omega
        · have h0' : (0 : Int) < t.size := by omega
          rcases hb with hb | hb
          · go_wp2_with (go_at_call 8; with_reducible refine (HA.out _ HT.out).mono ?_; rintro r w1 ⟨rfl, hb⟩; have B1 := Lib.hid hb; clear hb)
            go_ret
            exact ⟨rfl, B1.out⟩
          · go_wp2_with (go_at_call 8; with_reducible refine (HA.out _ HT.out).mono ?_; rintro r w1 ⟨rfl, hb⟩; have B1 := Lib.hid hb; clear hb)
            go_ret
            exact ⟨rfl, B1.out⟩
        · have h0' : (0 : Int) < t.size := by omega
          have HZ := Lib.hid (fun h : 0 < t.size => (⟨hb1, hb2⟩ : (t[0]'h).toNat ≠ 32 ∧ (t[0]'h).toNat ≠ 9))
          have t3 : (((t[0]'h0).toNat : Int) == 32) = false := by rw [beq_eq_false_iff_ne]; omega
          have t4 : (((t[0]'h0).toNat : Int) == 9) = false := by rw [beq_eq_false_iff_ne]; omega
          clear hb1 hb2
          go_wp2_with fail
          go_loop [5] (fun v => ∃ j : Nat, j ≤ t.size ∧ v = .int .i64 j ∧ Hid (Cl t j)) (fun v => t.size - (intOf v).toNat)
          case atStart => exact ⟨0, Nat.zero_le _, rfl, Lib.hid (fun i hi h0 => absurd h0 (Nat.not_lt_zero i))⟩
          case round =>
            obtain ⟨j, hj, rfl, hc⟩ := hrel
            by_cases hlt : j < t.size
            · have hj' : (j : Int) < t.size := by omega
              by_cases d1 : (t[j]'hlt).toNat = 10
              · go_wp2_with (go_at_call 8; with_reducible refine (HA.out _ HT.out).mono ?_; rintro r w1 ⟨rfl, hb⟩; have B1 := Lib.hid hb; clear hb)
                go_ret
                exact ⟨rfl, B1.out⟩
              · by_cases d2 : (t[j]'hlt).toNat = 13
                · go_wp2_with (go_at_call 8; with_reducible refine (HA.out _ HT.out).mono ?_; rintro r w1 ⟨rfl, hb⟩; have B1 := Lib.hid hb; clear hb)
                  go_ret
                  exact ⟨rfl, B1.out⟩
                · have HS := Lib.hid (hc.out.step hlt ⟨d1, d2⟩)
                  have t1 : (((t[j]'hlt).toNat : Int) == 10) = false := by rw [beq_eq_false_iff_ne]; omega
                  have t2 : (((t[j]'hlt).toNat : Int) == 13) = false := by rw [beq_eq_false_iff_ne]; omega
                  clear d1 d2
                  go_wp2_with fail
                  go_round
                  case rel => exact ⟨j + 1, by omega, by go_num, HS⟩
                  case measure => simp [intOf]; omega
            · obtain rfl : j = t.size := by omega
              have HFit := Lib.hid (HN.out (fit_of hc.out HZ.out) (by omega))
              go_wp2_with fail
              go_round
              case rel => exact ⟨k + 1, by omega, by go_num, HFit⟩
              case measure => simp [intOf]; omega
    · obtain rfl : k = ts.length := by omega
      rw [List.take_of_length_le (Nat.le_refl _)] at hf
      obtain ⟨ls, hm, hu⟩ := back_of hf.out hn10
      have hsz := joinL_len (lists ts) (fun x hx => by obtain ⟨t, ht, rfl⟩ := List.mem_map.1 hx; rw [len_list]; exact (hf.out t ht).2)
      rw [show (lists ts).length = ts.length by unfold lists; rw [List.length_map]] at hsz
      have HJ := Lib.hid (fun W hW => join_any ts hn10 (fun t ht => (hf.out t ht).2) a c W hW)
      have hdl : (ByteArray.mk (joinL (lists ts)).toArray).data.toList = joinL (lists ts) := by simp
      have hU := fun W => unf_ok ⟨(joinL (lists ts)).toArray⟩ (by rw [size_mk]; omega) (by rw [hdl, hu]) W
      rw [hdl, hu] at hU
      have HU := Lib.hid hU
      have hll : ls.length = ts.length := by
        have := congrArg List.length hm
        unfold lists at this
        rwa [List.length_map, List.length_map] at this
      have HTX := Lib.hid (fun (i : Nat) (h1 : i < ls.length) (h2 : i < ts.length) => (by
        have h3 : (ls.map (·.t))[i]? = (lists ts)[i]? := by rw [hm]
        unfold lists at h3
        rw [List.getElem?_map, List.getElem?_map, List.getElem?_eq_getElem h1, List.getElem?_eq_getElem h2] at h3
        have h4 : ls[i].t = ts[i].data.toList := by simpa using h3
        rw [h4, mk_list] : ByteArray.mk ls[i].t.toArray = ts[i]))
      clear hU hdl hsz hu hm hf
      generalize ByteArray.mk (joinL (lists ts)).toArray = y at *
      have hne : ((ts.length : Int) != ts.length) = false := by simp
      dsimp only at HU
      rw [hll] at HU
      have HLL := Lib.hid hll
      clear hll
      go_wp2_with (first
        | (go_at_call 17; with_reducible refine (HJ.out _ HX.out).mono ?_; rintro r w1 ⟨rfl, hb⟩; have B1 := Lib.hid hb; clear hb)
        | (go_at_call 9; with_reducible refine (HU.out _).mono ?_; rintro r w2 ⟨a2, c2, rfl, hr, hb⟩; have R2 := Lib.hid hr; have B2 := Lib.hid ((Bl.mk B1.out B1.out.size).call hb); clear hr hb))
      go_loopw [8] (fun v wr => ∃ k : Nat, k ≤ ts.length ∧ v = .int .i64 k ∧ Hid (Bl w2 wr)) (fun v _ => ts.length - (intOf v).toNat)
      case atStart => exact ⟨0, Nat.zero_le _, rfl, Lib.hid (Bl.refl w2)⟩
      case round =>
        obtain ⟨k, hk, rfl, hbl⟩ := hrel
        by_cases h : k < ts.length
        · have h' : (k : Int) < ts.length := by omega
          have hk2 : k < ls.length := HLL.out ▸ h
          have hR := R2.out.call hbl.out.below
          rw [← HLL.out] at hR
          obtain ⟨ba, oa, rfl, a0, pa, ca, a1, -⟩ := line_at hR hk2
          obtain ⟨b, off, rfl, c0⟩ := text_at (HX.out.call (B2.out.call hbl.out.below).below) h
          rw [HTX.out k hk2 h] at a0
          generalize ts[k] = t at *
          have tt : (t.toList != t.toList) = false := by simp
          clear a1 hR
          go_wp2_with fail
          go_quiet (fail)
          go_wp2_with fail
          go_roundw
          case rel => exact ⟨k + 1, by omega, by go_num, Lib.hid (hbl.out.drewN _)⟩
          case measure => simp [intOf]; omega
        · obtain rfl : k = ts.length := by omega
          go_wp2_with (go_at_call 8; with_reducible refine (HA.out _ (HT.out.call (B2.out.call hbl.out.below).below)).mono ?_; rintro r w9 ⟨rfl, hb⟩; have B9 := Lib.hid ((B2.out.call hbl.out.below).call hb); clear hb)
          go_ret
          exact ⟨rfl, B9.out.below⟩
end Go.Proofs.YtplobfnljlnkkaaDoor.Fld
