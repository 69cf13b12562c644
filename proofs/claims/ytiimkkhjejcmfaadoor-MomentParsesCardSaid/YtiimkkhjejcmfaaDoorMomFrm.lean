/- Plain facts: a text's length, and of which form it is. -/
import Derived.Test.YtiimkkhjejcmfaaDoorMomNum
namespace Go.Proofs.YtiimkkhjejcmfaaDoor.Mom

theorem list8 {l : List UInt8} (h : l.length = 8) : ∃ a b c d e f g i, l = [a, b, c, d, e, f, g, i] := by
  match l, h with
  | [a, b, c, d, e, f, g, i], _ => exact ⟨a, b, c, d, e, f, g, i, rfl⟩
theorem list15 {l : List UInt8} (h : l.length = 15) : ∃ a b c d e f g i t j k m n o p, l = [a, b, c, d, e, f, g, i, t, j, k, m, n, o, p] := by
  match l, h with
  | [a, b, c, d, e, f, g, i, t, j, k, m, n, o, p], _ => exact ⟨a, b, c, d, e, f, g, i, t, j, k, m, n, o, p, rfl⟩
theorem list16 {l : List UInt8} (h : l.length = 16) : ∃ a b c d e f g i t j k m n o p z, l = [a, b, c, d, e, f, g, i, t, j, k, m, n, o, p, z] := by
  match l, h with
  | [a, b, c, d, e, f, g, i, t, j, k, m, n, o, p, z], _ => exact ⟨a, b, c, d, e, f, g, i, t, j, k, m, n, o, p, z, rfl⟩

/-- What a form asks of a text. -/
structure Fm1 (l : List UInt8) : Prop where
  len : l.length = 8
  a8 : allD (l.take 8) = true
structure Fm2 (l : List UInt8) : Prop where
  len : l.length = 15
  a8 : allD (l.take 8) = true
  t8 : l[8]? = some 84
  a6 : allD ((l.drop 9).take 6) = true
structure Fm3 (l : List UInt8) : Prop where
  len : l.length = 16
  a8 : allD (l.take 8) = true
  t8 : l[8]? = some 84
  a6 : allD ((l.drop 9).take 6) = true
  z : l[15]? = some 90
theorem fm1 {l : List UInt8} (h : l.map sgn = F1) : Fm1 l := by
  obtain ⟨a, b, c, d, e, f, g, i, rfl, ha, hb, hc, hd, he, hf, hg, hi⟩ := form1 h
  exact ⟨rfl, by simp [allD, *]⟩
theorem fm2 {l : List UInt8} (h : l.map sgn = F2) : Fm2 l := by
  obtain ⟨a, b, c, d, e, f, g, i, j, k, m, n, o, p, rfl, ha, hb, hc, hd, he, hf, hg, hi, hj, hk, hm, hn, ho, hp⟩ := form2 h
  exact ⟨rfl, by simp [allD, *], rfl, by simp [allD, *]⟩
theorem fm3 {l : List UInt8} (h : l.map sgn = F3) : Fm3 l := by
  obtain ⟨a, b, c, d, e, f, g, i, j, k, m, n, o, p, rfl, ha, hb, hc, hd, he, hf, hg, hi, hj, hk, hm, hn, ho, hp⟩ := form3 h
  exact ⟨rfl, by simp [allD, *], rfl, by simp [allD, *], rfl⟩
theorem fm1_kind {l : List UInt8} (h : Fm1 l) : kindA l = 1 := by
  apply kindA_1
  obtain ⟨a, b, c, d, e, f, g, i, rfl⟩ := list8 h.len
  have := h.a8
  simp [allD] at this
  simp [F1, sgn_zero, this]
theorem fm2_kind {l : List UInt8} (h : Fm2 l) : kindA l = 2 := by
  apply kindA_2
  obtain ⟨a, b, c, d, e, f, g, i, t, j, k, m, n, o, p, rfl⟩ := list15 h.len
  have h1 := h.a8
  have h2 := h.t8
  have h3 := h.a6
  simp [allD] at h1 h2 h3
  simp [F2, sgn_zero, sgn_t, h1, h2, h3]
theorem fm3_kind {l : List UInt8} (h : Fm3 l) : kindA l = 3 := by
  apply kindA_3
  obtain ⟨a, b, c, d, e, f, g, i, t, j, k, m, n, o, p, z, rfl⟩ := list16 h.len
  have h1 := h.a8
  have h2 := h.t8
  have h3 := h.a6
  have h4 := h.z
  simp [allD] at h1 h2 h3 h4
  simp [F3, sgn_zero, sgn_t, sgn_z, h1, h2, h3, h4]
theorem at_some {s : ByteArray} {k : Nat} {b : UInt8} (hk : k < s.size) (h : s.data.toList[k]? = some b) : s[k] = b := by
  rw [List.getElem?_eq_getElem (by simpa using hk), getD hk] at h
  exact Option.some.inj h
theorem some_at {s : ByteArray} {k : Nat} {b : UInt8} (hk : k < s.size) (h : s[k] = b) : s.data.toList[k]? = some b := by
  rw [List.getElem?_eq_getElem (by simpa using hk), getD hk, h]
end Go.Proofs.YtiimkkhjejcmfaaDoor.Mom
