/- Contract of the document's ParseOffset, of any text. -/
import Derived.Test.YtmbbjpfhdijmbaaDoorSpnROPar
namespace Go.Proofs.YtmbbjpfhdijmbaaDoor.Spn
open Go.RowKit
set_option linter.unusedVariables false

theorem pr_dv {a b : UInt8} (ha : isDg a = true) (hb : isDg b = true) : pr a b = dv [a, b] := by
  rw [isDg_iff] at ha hb
  unfold pr
  rw [dv_two]
  omega
theorem dgto_iff (b : UInt8) (r : List UInt8) : DgTo (ByteArray.mk (b :: r).toArray) (ByteArray.mk (b :: r).toArray).size ↔ allD r = true := by
  have hz : (ByteArray.mk (b :: r).toArray).size = r.length + 1 := by rw [size_mk]; rfl
  have hg : ∀ i (h : i < (ByteArray.mk (b :: r).toArray).size), (ByteArray.mk (b :: r).toArray)[i] = (b :: r)[i]'(by rw [hz] at h; simpa using h) := by
    intro i h
    rw [← getD h]
  rw [allD_iff]
  constructor
  · intro h x hx
    obtain ⟨i, hi, rfl⟩ := List.getElem_of_mem hx
    have hi2 : i + 1 < (ByteArray.mk (b :: r).toArray).size := by rw [hz]; omega
    have := h (i + 1) hi2 (by omega) hi2
    rw [hg (i + 1) hi2] at this
    rw [isDg_iff]
    simpa using this
  · intro h i hi h1 _
    obtain ⟨j, rfl⟩ : ∃ j, i = j + 1 := ⟨i - 1, by omega⟩
    rw [hg (j + 1) hi]
    rw [hz] at hi
    have := h (r[j]'(by omega)) (List.getElem_mem _)
    rw [isDg_iff] at this
    simpa using this
theorem sg_plus {b : UInt8} (h : b = 43) : ((b.toNat : Int) != 43) = false ∧ ((b.toNat : Int) == 45) = false := by rw [h]; decide
theorem sg_minus {b : UInt8} (h : b = 45) : ((b.toNat : Int) != 43) = true ∧ ((b.toNat : Int) != 45) = false ∧ ((b.toNat : Int) == 45) = true := by rw [h]; decide
theorem sg_none {b : UInt8} (h1 : ¬ b = 43) (h2 : ¬ b = 45) : ((b.toNat : Int) != 43) = true ∧ ((b.toNat : Int) != 45) = true := ⟨u8_ne (b := 43) h1, u8_ne (b := 45) h2⟩
theorem rpo_l5 (b0 b1 b2 b3 b4 : UInt8) (w : World) :
    Calls Tryd.prog 11 #[.string ⟨([b0, b1, b2, b3, b4] : List UInt8).toArray⟩] w fun r w' => r = .returned (.tuple #[.int .i64 (ofV [b0, b1, b2, b3, b4]), .int .i64 (ofE [b0, b1, b2, b3, b4])]) ∧ Below w.heap.size w w' := by
  by_cases hd : allD [b1, b2, b3, b4] = true
  · have HD := Lib.hid ((dgto_iff b0 [b1, b2, b3, b4]).2 hd)
    have ha := allD_iff.1 hd
    have hp : (b0 = 43 ∨ b0 = 45) → ofF [b0, b1, b2, b3, b4] = true := fun h => ofF_iff.2 ⟨by simp, by rcases h with h | h <;> simp [h], hd⟩
    have ex : pr b1 b2 = ofH [b0, b1, b2, b3, b4] := pr_dv (ha _ (by simp)) (ha _ (by simp))
    have ey : pr b3 b4 = ofM [b0, b1, b2, b3, b4] := pr_dv (ha _ (by simp)) (ha _ (by simp))
    have ez : ofS [b0, b1, b2, b3, b4] = 0 := rfl
    have en : ofN [b0, b1, b2, b3, b4] = ofH [b0, b1, b2, b3, b4] * 3600 + ofM [b0, b1, b2, b3, b4] * 60 + ofS [b0, b1, b2, b3, b4] := rfl
    by_cases s1 : b0 = 43
    · have hf := hp (Or.inl s1)
      obtain ⟨g1, g3⟩ := sg_plus s1
      have hg : sgV [b0, b1, b2, b3, b4] = 1 := by rw [s1]; rfl
      obtain ⟨x0, x9, y0, y9, z0, z9⟩ := of_in hf
      rcases ofR_cases (l := [b0, b1, b2, b3, b4]) with ⟨hr, c⟩ | ⟨hr, c⟩
      · rw [ofV_not (by rw [of_range hf hr]; decide), of_range hf hr]
        rcases c with c1 | ⟨c1, c2⟩ | ⟨c1, c2, c3⟩ | ⟨c1, c2, c3, hg2, c4⟩
        · exact rpo_5ap _ _ _ rfl HD g1 g3 ex ey x0 x9 y0 y9 c1 w
        · exact rpo_5bp _ _ _ rfl HD g1 g3 ex ey x0 x9 y0 y9 c1 c2 w
        · omega
        · omega
      · obtain ⟨e1, e2⟩ := of_ok hf hr
        obtain ⟨c1, c2, c3, hg2⟩ := c
        rw [e1, e2, hg, Int.one_mul, show ofN [b0, b1, b2, b3, b4] = (ofH [b0, b1, b2, b3, b4] * 60 + ofM [b0, b1, b2, b3, b4]) * 60 by omega]
        exact rpo_5fp _ _ _ rfl HD g1 g3 ex ey x0 x9 y0 y9 c1 c2 w
    · by_cases s2 : b0 = 45
      · have hf := hp (Or.inr s2)
        obtain ⟨g1, g2, g3⟩ := sg_minus s2
        have hg : sgV [b0, b1, b2, b3, b4] = -1 := by rw [s2]; rfl
        obtain ⟨x0, x9, y0, y9, z0, z9⟩ := of_in hf
        rcases ofR_cases (l := [b0, b1, b2, b3, b4]) with ⟨hr, c⟩ | ⟨hr, c⟩
        · rw [ofV_not (by rw [of_range hf hr]; decide), of_range hf hr]
          rcases c with c1 | ⟨c1, c2⟩ | ⟨c1, c2, c3⟩ | ⟨c1, c2, c3, hg2, c4⟩
          · exact rpo_5am _ _ _ rfl HD g1 g2 g3 ex ey x0 x9 y0 y9 c1 w
          · exact rpo_5bm _ _ _ rfl HD g1 g2 g3 ex ey x0 x9 y0 y9 c1 c2 w
          · omega
          · exact rpo_5dm _ _ _ rfl HD g1 g2 g3 ex ey x0 x9 y0 y9 c1 c2 (by rw [beq_iff_eq]; omega) w
        · obtain ⟨e1, e2⟩ := of_ok hf hr
          obtain ⟨c1, c2, c3, hg2⟩ := c
          rw [e1, e2, hg, Int.neg_mul, Int.one_mul, show ofN [b0, b1, b2, b3, b4] = (ofH [b0, b1, b2, b3, b4] * 60 + ofM [b0, b1, b2, b3, b4]) * 60 by omega]
          exact rpo_5em _ _ _ rfl HD g1 g2 g3 ex ey x0 x9 y0 y9 c1 c2 (by rw [beq_eq_false_iff_ne]; omega) w
      · obtain ⟨g1, g2⟩ := sg_none s1 s2
        have e : ofE [b0, b1, b2, b3, b4] = 4 := of_form (by rcases h : ofF [b0, b1, b2, b3, b4] with _ | _; rfl; have := (ofF_iff.1 h).2.1; simp [s1, s2] at this)
        rw [ofV_not (by rw [e]; decide), e]
        exact rpo_sign5 (ByteArray.mk ([b0, b1, b2, b3, b4] : List UInt8).toArray) rfl g1 g2 w
  · have e : ofE [b0, b1, b2, b3, b4] = 4 := of_form (by rcases h : ofF [b0, b1, b2, b3, b4] with _ | _; rfl; exact absurd (ofF_iff.1 h).2.2 hd)
    have HN := Lib.hid (fun h => hd ((dgto_iff b0 [b1, b2, b3, b4]).1 h))
    rw [ofV_not (by rw [e]; decide), e]
    by_cases s1 : b0 = 43
    · obtain ⟨g1, g3⟩ := sg_plus s1
      exact rpo_dig5p (ByteArray.mk ([b0, b1, b2, b3, b4] : List UInt8).toArray) rfl g1 g3 HN w
    · by_cases s2 : b0 = 45
      · obtain ⟨g1, g2, g3⟩ := sg_minus s2
        exact rpo_dig5m (ByteArray.mk ([b0, b1, b2, b3, b4] : List UInt8).toArray) rfl g1 g2 g3 HN w
      · obtain ⟨g1, g2⟩ := sg_none s1 s2
        exact rpo_sign5 (ByteArray.mk ([b0, b1, b2, b3, b4] : List UInt8).toArray) rfl g1 g2 w
theorem rpo_l7 (b0 b1 b2 b3 b4 b5 b6 : UInt8) (w : World) :
    Calls Tryd.prog 11 #[.string ⟨([b0, b1, b2, b3, b4, b5, b6] : List UInt8).toArray⟩] w fun r w' => r = .returned (.tuple #[.int .i64 (ofV [b0, b1, b2, b3, b4, b5, b6]), .int .i64 (ofE [b0, b1, b2, b3, b4, b5, b6])]) ∧ Below w.heap.size w w' := by
  by_cases hd : allD [b1, b2, b3, b4, b5, b6] = true
  · have HD := Lib.hid ((dgto_iff b0 [b1, b2, b3, b4, b5, b6]).2 hd)
    have ha := allD_iff.1 hd
    have hp : (b0 = 43 ∨ b0 = 45) → ofF [b0, b1, b2, b3, b4, b5, b6] = true := fun h => ofF_iff.2 ⟨by simp, by rcases h with h | h <;> simp [h], hd⟩
    have ex : pr b1 b2 = ofH [b0, b1, b2, b3, b4, b5, b6] := pr_dv (ha _ (by simp)) (ha _ (by simp))
    have ey : pr b3 b4 = ofM [b0, b1, b2, b3, b4, b5, b6] := pr_dv (ha _ (by simp)) (ha _ (by simp))
    have ez : pr b5 b6 = ofS [b0, b1, b2, b3, b4, b5, b6] := pr_dv (ha _ (by simp)) (ha _ (by simp))
    have en : ofN [b0, b1, b2, b3, b4, b5, b6] = ofH [b0, b1, b2, b3, b4, b5, b6] * 3600 + ofM [b0, b1, b2, b3, b4, b5, b6] * 60 + ofS [b0, b1, b2, b3, b4, b5, b6] := rfl
    by_cases s1 : b0 = 43
    · have hf := hp (Or.inl s1)
      obtain ⟨g1, g3⟩ := sg_plus s1
      have hg : sgV [b0, b1, b2, b3, b4, b5, b6] = 1 := by rw [s1]; rfl
      obtain ⟨x0, x9, y0, y9, z0, z9⟩ := of_in hf
      rcases ofR_cases (l := [b0, b1, b2, b3, b4, b5, b6]) with ⟨hr, c⟩ | ⟨hr, c⟩
      · rw [ofV_not (by rw [of_range hf hr]; decide), of_range hf hr]
        rcases c with c1 | ⟨c1, c2⟩ | ⟨c1, c2, c3⟩ | ⟨c1, c2, c3, hg2, c4⟩
        · exact rpo_7ap _ _ _ _ rfl HD g1 g3 ex ey ez x0 x9 y0 y9 z0 z9 c1 w
        · exact rpo_7bp _ _ _ _ rfl HD g1 g3 ex ey ez x0 x9 y0 y9 z0 z9 c1 c2 w
        · exact rpo_7cp _ _ _ _ rfl HD g1 g3 ex ey ez x0 x9 y0 y9 z0 z9 c1 c2 c3 w
        · omega
      · obtain ⟨e1, e2⟩ := of_ok hf hr
        obtain ⟨c1, c2, c3, hg2⟩ := c
        rw [e1, e2, hg, Int.one_mul, show ofN [b0, b1, b2, b3, b4, b5, b6] = (ofH [b0, b1, b2, b3, b4, b5, b6] * 60 + ofM [b0, b1, b2, b3, b4, b5, b6]) * 60 + ofS [b0, b1, b2, b3, b4, b5, b6] by omega]
        exact rpo_7fp _ _ _ _ rfl HD g1 g3 ex ey ez x0 x9 y0 y9 z0 z9 c1 c2 c3 w
    · by_cases s2 : b0 = 45
      · have hf := hp (Or.inr s2)
        obtain ⟨g1, g2, g3⟩ := sg_minus s2
        have hg : sgV [b0, b1, b2, b3, b4, b5, b6] = -1 := by rw [s2]; rfl
        obtain ⟨x0, x9, y0, y9, z0, z9⟩ := of_in hf
        rcases ofR_cases (l := [b0, b1, b2, b3, b4, b5, b6]) with ⟨hr, c⟩ | ⟨hr, c⟩
        · rw [ofV_not (by rw [of_range hf hr]; decide), of_range hf hr]
          rcases c with c1 | ⟨c1, c2⟩ | ⟨c1, c2, c3⟩ | ⟨c1, c2, c3, hg2, c4⟩
          · exact rpo_7am _ _ _ _ rfl HD g1 g2 g3 ex ey ez x0 x9 y0 y9 z0 z9 c1 w
          · exact rpo_7bm _ _ _ _ rfl HD g1 g2 g3 ex ey ez x0 x9 y0 y9 z0 z9 c1 c2 w
          · exact rpo_7cm _ _ _ _ rfl HD g1 g2 g3 ex ey ez x0 x9 y0 y9 z0 z9 c1 c2 c3 w
          · exact rpo_7dm _ _ _ _ rfl HD g1 g2 g3 ex ey ez x0 x9 y0 y9 z0 z9 c1 c2 c3 (by rw [beq_iff_eq]; omega) w
        · obtain ⟨e1, e2⟩ := of_ok hf hr
          obtain ⟨c1, c2, c3, hg2⟩ := c
          rw [e1, e2, hg, Int.neg_mul, Int.one_mul, show ofN [b0, b1, b2, b3, b4, b5, b6] = (ofH [b0, b1, b2, b3, b4, b5, b6] * 60 + ofM [b0, b1, b2, b3, b4, b5, b6]) * 60 + ofS [b0, b1, b2, b3, b4, b5, b6] by omega]
          exact rpo_7em _ _ _ _ rfl HD g1 g2 g3 ex ey ez x0 x9 y0 y9 z0 z9 c1 c2 c3 (by rw [beq_eq_false_iff_ne]; omega) w
      · obtain ⟨g1, g2⟩ := sg_none s1 s2
        have e : ofE [b0, b1, b2, b3, b4, b5, b6] = 4 := of_form (by rcases h : ofF [b0, b1, b2, b3, b4, b5, b6] with _ | _; rfl; have := (ofF_iff.1 h).2.1; simp [s1, s2] at this)
        rw [ofV_not (by rw [e]; decide), e]
        exact rpo_sign7 (ByteArray.mk ([b0, b1, b2, b3, b4, b5, b6] : List UInt8).toArray) rfl g1 g2 w
  · have e : ofE [b0, b1, b2, b3, b4, b5, b6] = 4 := of_form (by rcases h : ofF [b0, b1, b2, b3, b4, b5, b6] with _ | _; rfl; exact absurd (ofF_iff.1 h).2.2 hd)
    have HN := Lib.hid (fun h => hd ((dgto_iff b0 [b1, b2, b3, b4, b5, b6]).1 h))
    rw [ofV_not (by rw [e]; decide), e]
    by_cases s1 : b0 = 43
    · obtain ⟨g1, g3⟩ := sg_plus s1
      exact rpo_dig7p (ByteArray.mk ([b0, b1, b2, b3, b4, b5, b6] : List UInt8).toArray) rfl g1 g3 HN w
    · by_cases s2 : b0 = 45
      · obtain ⟨g1, g2, g3⟩ := sg_minus s2
        exact rpo_dig7m (ByteArray.mk ([b0, b1, b2, b3, b4, b5, b6] : List UInt8).toArray) rfl g1 g2 g3 HN w
      · obtain ⟨g1, g2⟩ := sg_none s1 s2
        exact rpo_sign7 (ByteArray.mk ([b0, b1, b2, b3, b4, b5, b6] : List UInt8).toArray) rfl g1 g2 w
theorem rpoffset_l (l : List UInt8) (w : World) :
    Calls Tryd.prog 11 #[.string ⟨l.toArray⟩] w fun r w' => r = .returned (.tuple #[.int .i64 (ofV l), .int .i64 (ofE l)]) ∧ Below w.heap.size w w' := by
  by_cases h5 : l.length = 5
  · match l, h5 with
    | [b0, b1, b2, b3, b4], _ => exact rpo_l5 b0 b1 b2 b3 b4 w
  · by_cases h7 : l.length = 7
    · match l, h7 with
      | [b0, b1, b2, b3, b4, b5, b6], _ => exact rpo_l7 b0 b1 b2 b3 b4 b5 b6 w
    · have e : ofE l = 4 := of_form (by rcases h : ofF l with _ | _; rfl; have := (ofF_iff.1 h).1; omega)
      rw [ofV_not (by rw [e]; decide), e]
      exact rpo_size _ (by rw [size_mk]; exact h5) (by rw [size_mk]; exact h7) w
end Go.Proofs.YtmbbjpfhdijmbaaDoor.Spn
