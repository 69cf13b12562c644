/- Plain facts: what is printed is parsed, what is parsed is printed, and texts stand in the order of their seconds. -/
import Derived.Test.YtiimkkhjejcmfaaDoorMomFrm
import Derived.Laws.Strings
namespace Go.Proofs.YtiimkkhjejcmfaaDoor.Mom
open Civ

theorem text1 (s : Int) : textL 1 s = [dgt (yOf (s / 86400) / 1000), dgt (yOf (s / 86400) / 100), dgt (yOf (s / 86400) / 10), dgt (yOf (s / 86400)), dgt (mOf (s / 86400) / 10), dgt (mOf (s / 86400)), dgt (dOf (s / 86400) / 10), dgt (dOf (s / 86400))] := by
  rw [text_1, dateL, low_four, low_two, low_two]; rfl
theorem text2 (s : Int) : textL 2 s = [dgt (yOf (s / 86400) / 1000), dgt (yOf (s / 86400) / 100), dgt (yOf (s / 86400) / 10), dgt (yOf (s / 86400)), dgt (mOf (s / 86400) / 10), dgt (mOf (s / 86400)), dgt (dOf (s / 86400) / 10), dgt (dOf (s / 86400)), 84,
    dgt (s % 86400 / 3600 / 10), dgt (s % 86400 / 3600), dgt (s % 86400 / 60 % 60 / 10), dgt (s % 86400 / 60 % 60), dgt (s % 86400 % 60 / 10), dgt (s % 86400 % 60)] := by
  rw [text_2, dateL, timeL, low_four, low_two, low_two, low_two, low_two, low_two]; rfl
theorem text3 (s : Int) : textL 3 s = [dgt (yOf (s / 86400) / 1000), dgt (yOf (s / 86400) / 100), dgt (yOf (s / 86400) / 10), dgt (yOf (s / 86400)), dgt (mOf (s / 86400) / 10), dgt (mOf (s / 86400)), dgt (dOf (s / 86400) / 10), dgt (dOf (s / 86400)), 84,
    dgt (s % 86400 / 3600 / 10), dgt (s % 86400 / 3600), dgt (s % 86400 / 60 % 60 / 10), dgt (s % 86400 / 60 % 60), dgt (s % 86400 % 60 / 10), dgt (s % 86400 % 60), 90] := by
  rw [text_3, dateL, timeL, low_four, low_two, low_two, low_two, low_two, low_two]; rfl

theorem sgn_84 : sgn 84 = 84 := rfl
theorem sgn_90 : sgn 90 = 90 := rfl
theorem kinds : ∀ {k : Int}, 1 ≤ k → k ≤ 3 → k = 1 ∨ k = 2 ∨ k = 3 := by intro k h1 h2; omega
/-- Of which form a value's text is. -/
theorem text_kind {k : Int} (s : Int) (h1 : 1 ≤ k) (h2 : k ≤ 3) : kindA (textL k s) = k := by
  rcases kinds h1 h2 with rfl | rfl | rfl
  · apply kindA_1; rw [text1]; simp [dgt_sgn, F1]
  · apply kindA_2; rw [text2]; simp [dgt_sgn, F2, sgn_84]
  · apply kindA_3; rw [text3]; simp [dgt_sgn, F3, sgn_84, sgn_90]
theorem text_date {k s : Int} (h1 : 1 ≤ k) (h2 : k ≤ 3) (h3 : 0 ≤ s) (h4 : s ≤ 315537897599) : yL (textL k s) = yOf (s / 86400) ∧ mL (textL k s) = mOf (s / 86400) ∧ dL (textL k s) = dOf (s / 86400) := by
  have h := dOf_is (n := s / 86400) (by omega) (by omega)
  have y1 := h.y1; have y2 := h.y2; have m1 := h.m1; have m2 := h.m2; have d1 := h.d1; have d2 := h.d2
  have := @monL_hi (oneY (yOf (s / 86400))) (mOf (s / 86400)) (oneY_hi _)
  rcases kinds h1 h2 with rfl | rfl | rfl
  · rw [text1]; exact ⟨dv_low4 (by omega) (by omega), dv_low2 (by omega) (by omega), dv_low2 (by omega) (by omega)⟩
  · rw [text2]; exact ⟨dv_low4 (by omega) (by omega), dv_low2 (by omega) (by omega), dv_low2 (by omega) (by omega)⟩
  · rw [text3]; exact ⟨dv_low4 (by omega) (by omega), dv_low2 (by omega) (by omega), dv_low2 (by omega) (by omega)⟩
theorem text_time {k s : Int} (h1 : 2 ≤ k) (h2 : k ≤ 3) : hL (textL k s) = s % 86400 / 3600 ∧ miL (textL k s) = s % 86400 / 60 % 60 ∧ sL (textL k s) = s % 86400 % 60 := by
  rcases kinds (k := k) (by omega) h2 with rfl | rfl | rfl
  · omega
  · rw [text2]; exact ⟨dv_low2 (by omega) (by omega), dv_low2 (by omega) (by omega), dv_low2 (by omega) (by omega)⟩
  · rw [text3]; exact ⟨dv_low2 (by omega) (by omega), dv_low2 (by omega) (by omega), dv_low2 (by omega) (by omega)⟩
/-- What is printed is parsed. -/
theorem text_parse {k s : Int} (h : chkA k s = 0) : paE (textL k s) = 0 ∧ paK (textL k s) = k ∧ paS (textL k s) = s := by
  obtain ⟨h1, h2, h3, h4, h5⟩ := chk_ok h
  have hk := text_kind s h1 h2
  obtain ⟨y, m, d⟩ := text_date h1 h2 h3 h4
  have hi := dOf_is (n := s / 86400) (by omega) (by omega)
  have hd : isD (yL (textL k s)) (mL (textL k s)) (dL (textL k s)) = true := by rw [y, m, d]; exact isD_of ⟨hi.d1, hi.len⟩
  by_cases k1 : k = 1
  · have hE := paE_day (l := textL k s) (by omega) hd
    have := h5 k1
    refine ⟨hE, by rw [paK_ok hE, hk], ?_⟩
    rw [paS_ok hE, if_pos (by omega), y, m, d, hi.is]; omega
  · obtain ⟨a, b, c⟩ := text_time (k := k) (s := s) (by omega) h2
    have hl : late (textL k s) = false := by
      unfold late; rw [a, b, c]; simp; omega
    have hE := paE_time (l := textL k s) (by omega) (by omega) hd hl
    refine ⟨hE, by rw [paK_ok hE, hk], ?_⟩
    rw [paS_ok hE, if_neg (by omega), y, m, d, a, b, c, hi.is]; omega
theorem text_one {k a b : Int} (ha : chkA k a = 0) (hb : chkA k b = 0) (h : textL k a = textL k b) : a = b := by
  have h1 := (text_parse ha).2.2
  have h2 := (text_parse hb).2.2
  rw [h] at h1; omega
theorem text_some {k : Int} (s : Int) (h1 : 1 ≤ k) (h2 : k ≤ 3) : ¬ textL k s = [] := by
  rcases kinds h1 h2 with rfl | rfl | rfl
  · rw [text1]; simp
  · rw [text2]; simp
  · rw [text3]; simp
theorem text_len {k : Int} (s : Int) (h1 : 1 ≤ k) (h2 : k ≤ 3) : (textL k s).length ≤ 16 := by
  rcases kinds h1 h2 with rfl | rfl | rfl
  · rw [text1]; simp
  · rw [text2]; simp
  · rw [text3]; simp

theorem low_dig4 {a b c d : UInt8} (ha : isDg a = true) (hb : isDg b = true) (hc : isDg c = true) (hd : isDg d = true) {n : Int} (hn : n = dv [a, b, c, d]) : [dgt (n / 1000), dgt (n / 100), dgt (n / 10), dgt n] = [a, b, c, d] := by
  rw [hn, ← low_four, low_dv4 ha hb hc hd]
theorem low_dig2 {a b : UInt8} (ha : isDg a = true) (hb : isDg b = true) {n : Int} (hn : n = dv [a, b]) : [dgt (n / 10), dgt n] = [a, b] := by
  rw [hn, ← low_two, low_dv2 ha hb]
theorem dv2_lo {a b : UInt8} (ha : isDg a = true) (hb : isDg b = true) : 0 ≤ dv [a, b] := by
  rw [isDg_iff] at ha hb; rw [dv_two]; omega
/-- What is parsed is printed. -/
theorem parse_text {l : List UInt8} (h : paE l = 0) : chkA (paK l) (paS l) = 0 ∧ textL (paK l) (paS l) = l := by
  obtain ⟨h0, hd, hl⟩ := pa_ok h
  have hi := isDate_of (isD_yes hd).1 (isD_yes hd).2
  obtain ⟨y, m, d⟩ := hi.eq
  have n0 := hi.lo
  have n1 := hi.hi
  rw [paK_ok h, paS_ok h]
  generalize hn : dayN (yL l) (mL l) (dL l) = n at *
  rcases kindA_cases l with ⟨ek, hf⟩ | ⟨ek, hf⟩ | ⟨ek, hf⟩ | ⟨ek, h1, h2, h3⟩
  · rw [if_pos ek, ek]
    have hs : (n * 86400 + 0) / 86400 = n := by omega
    refine ⟨chk_of (by omega) (by omega) (by omega) (by omega) (fun _ => by omega), ?_⟩
    rw [text1, hs]
    obtain ⟨a, b, c, x, e, f, g, i, rfl, ha, hb, hc, hx, he, hf, hg, hi⟩ := form1 hf
    have q1 := low_dig4 (n := yOf n) ha hb hc hx y.symm
    have q2 := low_dig2 (n := mOf n) he hf m.symm
    have q3 := low_dig2 (n := dOf n) hg hi d.symm
    simp only [List.cons.injEq, and_true] at q1 q2 q3
    simp only [q1, q2, q3]
  · have hk1 : ¬ kindA l = 1 := by omega
    rw [if_neg hk1, ek]
    have hl' := late_no (hl hk1)
    obtain ⟨a, b, c, x, e, f, g, i, j, k, o, p, q, r, rfl, ha, hb, hc, hx, he, hf, hg, hi, hj, hk, ho, hp, hq, hr⟩ := form2 hf
    have u1 : 0 ≤ hL [a, b, c, x, e, f, g, i, 84, j, k, o, p, q, r] := dv2_lo hj hk
    have u2 : 0 ≤ miL [a, b, c, x, e, f, g, i, 84, j, k, o, p, q, r] := dv2_lo ho hp
    have u3 : 0 ≤ sL [a, b, c, x, e, f, g, i, 84, j, k, o, p, q, r] := dv2_lo hq hr
    refine ⟨chk_of (by omega) (by omega) (by omega) (by omega) (fun _ => by omega), ?_⟩
    rw [text2]
    have w1 : hL [a, b, c, x, e, f, g, i, 84, j, k, o, p, q, r] = dv [j, k] := rfl
    have w2 : miL [a, b, c, x, e, f, g, i, 84, j, k, o, p, q, r] = dv [o, p] := rfl
    have w3 : sL [a, b, c, x, e, f, g, i, 84, j, k, o, p, q, r] = dv [q, r] := rfl
    generalize hS : n * 86400 + (hL [a, b, c, x, e, f, g, i, 84, j, k, o, p, q, r] * 3600 + miL [a, b, c, x, e, f, g, i, 84, j, k, o, p, q, r] * 60 + sL [a, b, c, x, e, f, g, i, 84, j, k, o, p, q, r]) = S
    rw [show S / 86400 = n by omega]
    have q1 := low_dig4 (n := yOf n) ha hb hc hx y.symm
    have q2 := low_dig2 (n := mOf n) he hf m.symm
    have q3 := low_dig2 (n := dOf n) hg hi d.symm
    have q4 := low_dig2 (n := S % 86400 / 3600) hj hk (by omega)
    have q5 := low_dig2 (n := S % 86400 / 60 % 60) ho hp (by omega)
    have q6 := low_dig2 (n := S % 86400 % 60) hq hr (by omega)
    simp only [List.cons.injEq, and_true] at q1 q2 q3 q4 q5 q6
    simp only [q1, q2, q3, q4, q5, q6]
  · have hk1 : ¬ kindA l = 1 := by omega
    rw [if_neg hk1, ek]
    have hl' := late_no (hl hk1)
    obtain ⟨a, b, c, x, e, f, g, i, j, k, o, p, q, r, rfl, ha, hb, hc, hx, he, hf, hg, hi, hj, hk, ho, hp, hq, hr⟩ := form3 hf
    have u1 : 0 ≤ hL [a, b, c, x, e, f, g, i, 84, j, k, o, p, q, r, 90] := dv2_lo hj hk
    have u2 : 0 ≤ miL [a, b, c, x, e, f, g, i, 84, j, k, o, p, q, r, 90] := dv2_lo ho hp
    have u3 : 0 ≤ sL [a, b, c, x, e, f, g, i, 84, j, k, o, p, q, r, 90] := dv2_lo hq hr
    refine ⟨chk_of (by omega) (by omega) (by omega) (by omega) (fun _ => by omega), ?_⟩
    rw [text3]
    have w1 : hL [a, b, c, x, e, f, g, i, 84, j, k, o, p, q, r, 90] = dv [j, k] := rfl
    have w2 : miL [a, b, c, x, e, f, g, i, 84, j, k, o, p, q, r, 90] = dv [o, p] := rfl
    have w3 : sL [a, b, c, x, e, f, g, i, 84, j, k, o, p, q, r, 90] = dv [q, r] := rfl
    generalize hS : n * 86400 + (hL [a, b, c, x, e, f, g, i, 84, j, k, o, p, q, r, 90] * 3600 + miL [a, b, c, x, e, f, g, i, 84, j, k, o, p, q, r, 90] * 60 + sL [a, b, c, x, e, f, g, i, 84, j, k, o, p, q, r, 90]) = S
    rw [show S / 86400 = n by omega]
    have q1 := low_dig4 (n := yOf n) ha hb hc hx y.symm
    have q2 := low_dig2 (n := mOf n) he hf m.symm
    have q3 := low_dig2 (n := dOf n) hg hi d.symm
    have q4 := low_dig2 (n := S % 86400 / 3600) hj hk (by omega)
    have q5 := low_dig2 (n := S % 86400 / 60 % 60) ho hp (by omega)
    have q6 := low_dig2 (n := S % 86400 % 60) hq hr (by omega)
    simp only [List.cons.injEq, and_true] at q1 q2 q3 q4 q5 q6
    simp only [q1, q2, q3, q4, q5, q6]
  · contradiction

/-- The order of bytes. -/
theorem less_same : ∀ (x a b : List UInt8), Op.bytesLess (x ++ a) (x ++ b) = Op.bytesLess a b
  | [], _, _ => rfl
  | c :: x, a, b => by
    have := less_same x a b
    simp [Op.bytesLess, this]
theorem less_irr : ∀ a : List UInt8, Op.bytesLess a a = false
  | [] => rfl
  | c :: x => by
    have := less_irr x
    simp [Op.bytesLess, this]
theorem less_asym : ∀ a b : List UInt8, Op.bytesLess a b = true → Op.bytesLess b a = false
  | [], [], _ => rfl
  | [], _ :: _, _ => rfl
  | _ :: _, [], h => by simp [Op.bytesLess] at h
  | c :: x, d :: y, h => by
    have ih := less_asym x y
    simp [Op.bytesLess] at h ⊢
    rcases h with h | ⟨rfl, h⟩
    · refine ⟨UInt8.le_of_lt h, ?_⟩
      rintro rfl
      exact absurd h (UInt8.lt_irrefl _)
    · exact ⟨UInt8.le_refl _, fun _ => ih h⟩
theorem dgt_lt {a b : Int} : dgt a < dgt b ↔ a % 10 < b % 10 := by
  rw [UInt8.lt_iff_toNat_lt]
  have := dgt_nat a; have := dgt_nat b; omega
theorem dgt_eq {a b : Int} : dgt a = dgt b ↔ a % 10 = b % 10 := by
  rw [← UInt8.toNat_inj]
  have := dgt_nat a; have := dgt_nat b; omega
theorem less2 {n m : Int} (h0 : 0 ≤ n) (h : n < m) (h1 : m < 100) (a b : List UInt8) : Op.bytesLess (low n 2 ++ a) (low m 2 ++ b) = true := by
  rw [low_two, low_two]
  simp [Op.bytesLess, dgt_lt, dgt_eq]
  omega
theorem less4 {n m : Int} (h0 : 0 ≤ n) (h : n < m) (h1 : m < 10000) (a b : List UInt8) : Op.bytesLess (low n 4 ++ a) (low m 4 ++ b) = true := by
  rw [low_four, low_four]
  have := show n / 10 / 10 = n / 100 by omega
  have := show m / 10 / 10 = m / 100 by omega
  have := show n / 100 / 10 = n / 1000 by omega
  have := show m / 100 / 10 = m / 1000 by omega
  have := show n / 1000 / 10 = 0 by omega
  have := show m / 1000 / 10 = 0 by omega
  simp [Op.bytesLess, dgt_lt, dgt_eq]
  omega
theorem date_less {n n' y m d y' m' d' : Int} (h : IsDate n y m d) (k : IsDate n' y' m' d') (hn : n < n') : y < y' ∨ (y = y' ∧ (m < m' ∨ (m = m' ∧ d < d'))) := by
  have h0 := h.is; have k0 := k.is; have h1 := h.d1; have k1 := k.d1; have h2 := h.d2; have k2 := k.d2
  have hy := h.year.1; have ky := k.year.2
  have := aheadY_lt (y := y) (z := y' + 1) (by omega)
  by_cases e : y = y'
  · subst e
    refine .inr ⟨rfl, ?_⟩
    unfold dayN at h0 k0
    by_cases e1 : m < m'
    · exact .inl e1
    · by_cases e2 : m' < m
      · have := cumL_mono (oneY_lo y) k.m1 h.m2 e2; omega
      · obtain rfl : m = m' := by omega
        exact .inr ⟨rfl, by omega⟩
  · exact .inl (by omega)
theorem dateL_less {n n' : Int} (h0 : 0 ≤ n) (h : n < n') (h1 : n' ≤ 3652058) (a b : List UInt8) : Op.bytesLess (dateL n ++ a) (dateL n' ++ b) = true := by
  have i := dOf_is (n := n) h0 (by omega)
  have j := dOf_is (n := n') (by omega) h1
  have := i.y1; have := j.y2; have := i.m1; have := j.m2; have := i.d1; have := j.d2
  have := @monL_hi (oneY (yOf n')) (mOf n') (oneY_hi _)
  unfold dateL
  rw [List.append_assoc, List.append_assoc, List.append_assoc, List.append_assoc]
  rcases date_less i j h with c | ⟨c, c2 | ⟨c2, c3⟩⟩
  · exact less4 (by omega) c (by omega) _ _
  · rw [c, less_same]; exact less2 (by omega) c2 (by omega) _ _
  · rw [c, less_same, c2, less_same]; exact less2 (by omega) c3 (by omega) _ _
theorem timeL_less {t u : Int} (h0 : 0 ≤ t) (h : t < u) (h1 : u < 86400) (a b : List UInt8) : Op.bytesLess (timeL t ++ a) (timeL u ++ b) = true := by
  unfold timeL
  rw [List.append_assoc, List.append_assoc, List.append_assoc, List.append_assoc]
  by_cases c : t / 3600 < u / 3600
  · exact less2 (by omega) c (by omega) _ _
  · have e : t / 3600 = u / 3600 := by omega
    rw [e, less_same]
    by_cases c2 : t / 60 % 60 < u / 60 % 60
    · exact less2 (by omega) c2 (by omega) _ _
    · have e2 : t / 60 % 60 = u / 60 % 60 := by omega
      rw [e2, less_same]; exact less2 (by omega) (by omega) (by omega) _ _
theorem less_cons (c : UInt8) (a b : List UInt8) : Op.bytesLess (c :: a) (c :: b) = Op.bytesLess a b := less_same [c] a b
theorem text_less_of {k a b : Int} (ha : chkA k a = 0) (hb : chkA k b = 0) (h : a < b) : Op.bytesLess (textL k a) (textL k b) = true := by
  obtain ⟨k1, k2, a0, a1, a2⟩ := chk_ok ha
  obtain ⟨-, -, b0, b1, b2⟩ := chk_ok hb
  by_cases hn : a / 86400 < b / 86400
  · unfold textL
    exact dateL_less (by omega) hn (by omega) _ _
  · have e : a / 86400 = b / 86400 := by omega
    rcases kinds k1 k2 with rfl | rfl | rfl
    · have := a2 rfl; have := b2 rfl; omega
    · rw [text_2, text_2, e, less_same, less_cons]
      have := timeL_less (t := a % 86400) (u := b % 86400) (by omega) (by omega) (by omega) [] []
      simpa using this
    · rw [text_3, text_3, e, less_same, less_cons]
      exact timeL_less (t := a % 86400) (u := b % 86400) (by omega) (by omega) (by omega) _ _
/-- Texts of one kind stand in the order of their seconds. -/
theorem text_less {k a b : Int} (ha : chkA k a = 0) (hb : chkA k b = 0) : Op.bytesLess (textL k a) (textL k b) = decide (a < b) := by
  by_cases h : a < b
  · rw [decide_eq_true h]; exact text_less_of ha hb h
  · rw [decide_eq_false h]
    by_cases e : a = b
    · subst e; exact less_irr _
    · exact less_asym _ _ (text_less_of hb ha (by omega))
end Go.Proofs.YtiimkkhjejcmfaaDoor.Mom
