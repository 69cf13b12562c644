/- The walk of FaultOuter. -/
import Derived.Test.YtihhdognjcmbkaaDoorFltLaw
import Derived.Test.YtihhdognjcmbkaaDoorFltErT
namespace Go.Proofs.YtihhdognjcmbkaaDoor.Flt
open Go.RowKit

/-- A fault seen from outside: its place, what it wraps. -/
structure Seen (w : World) (e : Int) (b : Nat) (u : Value) (z : Int) (l : List Int) : Prop where
  c0 : w.cell? ⟨b, 0, none⟩ = some (.int .i64 z)
  c1 : w.cell? ⟨b, 1, none⟩ = some u
  ch : Ch w e (FV b) (z :: l)
  cu : Ch w e u l
theorem Ch.seen {w : World} {e : Int} {b : Nat} {L : List Int} {z : Int} {l : List Int} (h : Ch w e (FV b) L) (hL : L = z :: l) : ∃ u, Seen w e b u z l := by
  have h' := h
  unfold FV at h'
  cases h' with
  | cons b u a l h0 h1 h2 hr =>
    injection hL with e1 e2
    subst e1 e2
    exact ⟨u, h0, h1, h, h2⟩
theorem Seen.call {w w' : World} {e : Int} {b : Nat} {u : Value} {z : Int} {l : List Int} (h : Seen w e b u z l) (hb : Below w.heap.size w w') : Seen w' e b u z l :=
  ⟨(hb.cell (p := ⟨b, 0, none⟩) (cell_lt h.c0)).trans h.c0, (hb.cell (p := ⟨b, 1, none⟩) (cell_lt h.c1)).trans h.c1, h.ch.call hb, h.cu.call hb⟩
theorem Ch.er {w : World} {e : Int} {v : Value} {l : List Int} (h : Ch w e v l) (hl : l ≠ []) : Er w e v l := by
  cases h with
  | num => exact absurd rfl hl
  | cons b u a l h0 h1 h hr => exact .some b _ (.cons b u a l h0 h1 h hr)
theorem empty_not {s : ByteArray} (h : 1 ≤ s.size) : s.toList.isEmpty = false := by
  rw [ByteArray.toList_eq, List.isEmpty_eq_false_iff]
  intro e
  have : s.data.toList.length = s.size := by simp
  rw [e] at this
  simp at this
  omega
theorem rev_last (zs : List Int) (m : Nat) (h : zs.length = m + 1) : zs.reverse = zs.getD m 0 :: (zs.take m).reverse := by
  have h1 : zs = zs.take m ++ [zs.getD m 0] := by
    conv => lhs; rw [← List.take_append_drop m zs]
    congr 1
    rw [List.drop_eq_getElem_cons (by omega), List.drop_eq_nil_of_le (by omega)]
    simp [List.getD_eq_getElem?_getD, List.getElem?_eq_getElem (show m < zs.length by omega)]
  conv => lhs; rw [h1]
  rw [List.reverse_append]
  rfl
set_option maxHeartbeats 2000000 in
theorem walk_outer (e : Int) (e0 : -32768 ≤ e) (e1 : e ≤ 32767) (a : Option Addr) (n c : Nat) (zs : List Int) (w : World) (hT : ETab w) (hP : PTab w) (hz : R32 w a n zs) :
    Calls Tryd.prog 6 #[.int .i16 e, .slice a n c] w fun r w' => r = .returned (.bool true) ∧ Below w.heap.size w w' := by
  have HT := Lib.hid hT
  have HP := Lib.hid hP
  have HZ := Lib.hid hz
  have HA := Lib.hid (fun W hW => awake_any W hW)
  clear hT hz hP
  by_cases hn : (40 : Int) < n
  · go_enter Tryd.func6, Tryd.ntmps6
    go_wp2_with (go_at_call 7; with_reducible refine (HA.out _ HT.out).mono ?_; rintro r w1 ⟨rfl, hb⟩; have B1 := Lib.hid hb; clear hb)
    go_ret
    exact ⟨rfl, B1.out⟩
  by_cases hp : (n : Int) = 0
  · go_enter Tryd.func6, Tryd.ntmps6
    go_wp2_with (go_at_call 7; with_reducible refine (HA.out _ HT.out).mono ?_; rintro r w1 ⟨rfl, hb⟩; have B1 := Lib.hid hb; clear hb)
    go_ret
    exact ⟨rfl, B1.out⟩
  have t0 : ((n : Int) == 0) = false := by rw [beq_eq_false_iff_ne]; exact hp
  rcases he : (e == 0) with _ | _
  rotate_left
  · go_enter Tryd.func6, Tryd.ntmps6
    go_wp2_with (go_at_call 7; with_reducible refine (HA.out _ HT.out).mono ?_; rintro r w1 ⟨rfl, hb⟩; have B1 := Lib.hid hb; clear hb)
    go_ret
    exact ⟨rfl, B1.out⟩
  · obtain ⟨m, rfl⟩ : ∃ m, n = m + 1 := ⟨n - 1, by omega⟩
    have hn4 : m + 1 ≤ 40 := by omega
    have hz := HZ.out
    obtain ⟨b0, off, rfl, hb0, hc0⟩ := hz.at' (by omega)
    have hl := hz.len
    have hsm := hz.sm hn4
    have hr := rev_last zs m hl
    obtain ⟨z0, z1⟩ := hz.in' m (by omega)
    have hm := hc0 m (by omega)
    have HM0 := Lib.hid hm
    have HB0 := Lib.hid hb0
    have hll : ((zs.take m).reverse.length : Int) = m := by rw [List.length_reverse, List.length_take]; omega
    have hsmr : Sm (zs.getD m 0 :: (zs.take m).reverse) := by rw [← hr]; exact ⟨by rw [List.length_reverse]; exact hsm.1, fun x hx => hsm.2 x (List.mem_reverse.1 hx)⟩
    have HM := Lib.hid (fun W hW => made_ch e e0 e1 he (some ⟨b0, off, none⟩) (m + 1) c zs W hW hn4 (by omega))
    rw [hr] at HM
    clear hc0 hsm hr hm hb0 hl hz
    generalize zs.getD m 0 = z at *
    generalize (zs.take m).reverse = l at *
    have hp2 : l ≠ [] ∨ m = 0 := by rcases Nat.eq_zero_or_pos m with h | h; exact .inr h; exact .inl (by rintro rfl; simp at hll; omega)
    have P1 := Lib.hid (fun b u W hW (hC : Seen W e b u z l) => place_any e (FV b) (z :: l) W hW (.some b _ hC.ch) hsmr)
    have D1 := Lib.hid (fun b u W hW (hC : Seen W e b u z l) => depth_any e (FV b) (z :: l) W hW (.some b _ hC.ch) hsmr)
    have HAs := Lib.hid (fun b n old W a b' c => eAs_fault b n old W a b' c)
    have HEr := Lib.hid (fun b u W hW hQ (hC : Seen W e b u z l) => error_any e b (z :: l) e1 hsmr W hW hQ hC.ch)
    have HUn := Lib.hid (fun b u W h => unwrap_any b u W h)
    have i1 : IntKind.i64.wrap z = z := IntWalk.i64_in _ (by omega)
    rw [List.length_cons, show ((l.length + 1 : Nat) : Int) = (m : Int) + 1 by omega] at D1
    rw [List.sum_cons] at P1
    have hss := (hsmr.part (p := z :: l) (q := []) (by simp))
    rw [List.sum_cons] at hss
    obtain ⟨s0, s1, -⟩ := hss
    have tz : (z != z) = false := by simp
    have tm : ((m : Int) + 1 != (m : Int) + 1) = false := by simp
    rcases Nat.eq_zero_or_pos m with hm0 | hm0
    · subst hm0
      have hl0 : l = [] := List.eq_nil_of_length_eq_zero (by omega)
      subst hl0
      rw [List.sum_nil, Int.add_zero] at P1
      rw [Nat.add_zero] at HM0
      have tz1 : (z == z) = true := by simp
      unfold FV at HM P1 D1 HAs
      go_enter Tryd.func6, Tryd.ntmps6
      go_wp2_with (first
        | (go_at_call 8; with_reducible refine (HM.out _ HZ.out).mono ?_; rintro r w1 ⟨b1, rfl, hC, hb⟩; obtain ⟨u, hs⟩ := Ch.seen (z := z) (l := []) hC rfl; have S1 := Lib.hid hs; have B1 := Lib.hid ((Bl.refl w).call hb); clear hC hb hs)
        | (go_at_call 19; with_reducible refine (HAs.out b1 _ (.pointer none) _ ((B1.out.call (new1 _ _)).tab HT.out) (by simp) (by simp)).mono ?_; rintro r w2 ⟨rfl, hb⟩; obtain ⟨hv, d0⟩ := (Vr.new w1).found b1 hb; have V2 := Lib.hid hv; have S2 := Lib.hid (S1.out.call hv.bl.below); have B2 := Lib.hid (B1.out.call hv.bl.below); have c0 := S2.out.c0; have g0 := (B2.out.below.cell (p := ⟨b0, off, none⟩) HB0.out).trans HM0.out; clear hb hv)
        | (go_at_call 14; with_reducible refine (D1.out _ _ _ (B2.out.tab HT.out) S2.out).mono ?_; rintro r w3 ⟨rfl, hb⟩; replace d0 := (hb.cell (p := ⟨w1.heap.size, 0, none⟩) (cell_lt d0)).trans d0; have S3 := Lib.hid (S2.out.call hb); have B3 := Lib.hid (B2.out.call hb); clear hb c0 g0)
        | (go_at_call 20; with_reducible refine (HEr.out _ _ _ (B3.out.tab HT.out) (HP.out.call B3.out.below) S3.out).mono ?_; rintro r w4 ⟨s4, rfl, hs4, hb⟩; have te4 := empty_not hs4; replace d0 := (hb.cell (p := ⟨w1.heap.size, 0, none⟩) (cell_lt d0)).trans d0; have S4 := Lib.hid (S3.out.call hb); have B4 := Lib.hid (B3.out.call hb); clear hb hs4)
        | (go_at_call 12; with_reducible refine (P1.out _ _ _ (B4.out.tab HT.out) S4.out).mono ?_; rintro r w5 ⟨rfl, hb⟩; have B5 := Lib.hid (B4.out.call hb); clear hb)
        | (go_at_call 7; with_reducible refine (HA.out _ (B5.out.tab HT.out)).mono ?_; rintro r w6 ⟨rfl, hb⟩; have B6 := Lib.hid (B5.out.call hb); clear hb))
      go_ret
      exact ⟨rfl, B6.out.below⟩
    · have hl2 : l ≠ [] := by rcases hp2 with h | h; exact h; omega
      have hsl : Sm l := ⟨by have := hsmr.1; rw [List.length_cons] at this; omega, fun x hx => hsmr.2 x (List.mem_cons_of_mem _ hx)⟩
      have P2 := Lib.hid (fun u W hW (hC : Ch W e u l) => place_any e u l W hW (hC.er hl2) hsl)
      have D2 := Lib.hid (fun u W hW (hC : Ch W e u l) => depth_any e u l W hW (hC.er hl2) hsl)
      have C2 := Lib.hid (fun u W hW (hC : Ch W e u l) => code_any e u l W hW (hC.er hl2))
      rw [if_neg hl2] at C2
      rw [hll] at D2
      obtain ⟨q0, q1, -⟩ := hsl.part (p := l) (q := []) (by simp)
      generalize l.sum = s at *
      have tn : decide ((40 : Int) < (m : Int) + 1) = false := decide_eq_false (by omega)
      have tn0 : ((m : Int) + 1 == 0) = false := by rw [beq_eq_false_iff_ne]; omega
      have tm1 : ((m : Int) + 1 == 1) = false := by rw [beq_eq_false_iff_ne]; omega
      have ie : IntKind.i64.wrap e = e := IntWalk.i64_in _ (by omega)
      have is' : IntKind.i64.wrap (z + s - z) = s := by rw [show z + s - z = s by omega]; exact IntWalk.i64_in _ (by omega)
      have ts : (s == s) = true := by simp
      have te : (e == e) = true := by simp
      have tmm : ((m : Int) == m) = true := by simp
      unfold FV at HM P1 D1 HAs
      go_enter Tryd.func6, Tryd.ntmps6
      go_wp2_with (first
        | (go_at_call 8; with_reducible refine (HM.out _ HZ.out).mono ?_; rintro r w1 ⟨b1, rfl, hC, hb⟩; obtain ⟨u, hs⟩ := Ch.seen (z := z) (l := l) hC rfl; have S1 := Lib.hid hs; have B1 := Lib.hid ((Bl.refl w).call hb); clear hC hb hs)
        | (go_at_call 19; with_reducible refine (HAs.out b1 _ (.pointer none) _ ((B1.out.call (new1 _ _)).tab HT.out) (by simp) (by simp)).mono ?_; rintro r w2 ⟨rfl, hb⟩; obtain ⟨hv, d0⟩ := (Vr.new w1).found b1 hb; have V2 := Lib.hid hv; have S2 := Lib.hid (S1.out.call hv.bl.below); have B2 := Lib.hid (B1.out.call hv.bl.below); have c0 := S2.out.c0; have g0 := (B2.out.below.cell (p := ⟨b0, off + m, none⟩) HB0.out).trans HM0.out; clear hb hv)
        | (go_at_call 14; with_reducible refine (D1.out _ _ _ (B2.out.tab HT.out) S2.out).mono ?_; rintro r w3 ⟨rfl, hb⟩; replace d0 := (hb.cell (p := ⟨w1.heap.size, 0, none⟩) (cell_lt d0)).trans d0; have S3 := Lib.hid (S2.out.call hb); have B3 := Lib.hid (B2.out.call hb); clear hb c0 g0)
        | (go_at_call 20; with_reducible refine (HEr.out _ _ _ (B3.out.tab HT.out) (HP.out.call B3.out.below) S3.out).mono ?_; rintro r w4 ⟨s4, rfl, hs4, hb⟩; have te4 := empty_not hs4; replace d0 := (hb.cell (p := ⟨w1.heap.size, 0, none⟩) (cell_lt d0)).trans d0; have S4 := Lib.hid (S3.out.call hb); have B4 := Lib.hid (B3.out.call hb); clear hb hs4)
        | (go_at_call 21; with_reducible refine (HUn.out _ _ _ S4.out.c1).mono ?_; rintro r w4 ⟨rfl, rfl⟩)
        | (go_at_call 12; with_reducible refine (P2.out _ _ (B4.out.tab HT.out) S4.out.cu).mono ?_; rintro r w5 ⟨rfl, hb⟩; have S5 := Lib.hid (S4.out.call hb); have B5 := Lib.hid (B4.out.call hb); clear hb)
        | (go_at_call 12; with_reducible refine (P1.out _ _ _ (B5.out.tab HT.out) S5.out).mono ?_; rintro r w6 ⟨rfl, hb⟩; have S6 := Lib.hid (S5.out.call hb); have B6 := Lib.hid (B5.out.call hb); clear hb)
        | (go_at_call 14; with_reducible refine (D2.out _ _ (B6.out.tab HT.out) S6.out.cu).mono ?_; rintro r w7 ⟨rfl, hb⟩; have S7 := Lib.hid (S6.out.call hb); have B7 := Lib.hid (B6.out.call hb); clear hb)
        | (go_at_call 10; with_reducible refine (C2.out _ _ (B7.out.tab HT.out) S7.out.cu).mono ?_; rintro r w8 ⟨rfl, hb⟩; have B8 := Lib.hid (B7.out.call hb); clear hb)
        | (go_at_call 7; with_reducible refine (HA.out _ (B8.out.tab HT.out)).mono ?_; rintro r w9 ⟨rfl, hb⟩; have B9 := Lib.hid (B8.out.call hb); clear hb))
      go_ret
      exact ⟨rfl, B9.out.below⟩
end Go.Proofs.YtihhdognjcmbkaaDoor.Flt
