/- What a range over a text tells at a place: the rune, and how far it goes on. -/
import Derived.Test.YtndbgdapojkfaaaGreatDoorUtfRefB
import Derived.Lib.DecodeNEq
import Derived.Laws.RangeAny
set_option linter.unusedVariables false
namespace Go.Proofs.YtndbgdapojkfaaaGreatDoor.Utf
open Go.RowKit Go.Proofs.YtndbgdapojkfaaaGreatDoor.Byt

theorem slow_sz (n b0 b1 b2 b3 sz lo hi : Nat) (hn : 1 ≤ n) (h1 : b1 < 256) (h2 : b2 < 256) (h3 : b3 < 256) (h0 : 194 ≤ b0 ∧ b0 ≤ 244) (hl : loN b0 = lo) (hh : hiN b0 = hi) (hs : sz = if b0 ≤ 223 then 2 else if b0 ≤ 239 then 3 else 4) :
    (Lib.slowN n b0 b1 b2 b3 sz lo hi).2 = (if szN n b0 b1 b2 b3 = 0 then 1 else szN n b0 b1 b2 b3) ∧ (szN n b0 b1 b2 b3 = 0 → (Lib.slowN n b0 b1 b2 b3 sz lo hi).1 = 65533) := by
  by_cases c2 : b0 ≤ 223
  · have e2 : sz = 2 := by rw [hs, if_pos c2]
    have hlo : lo = 128 := by rw [← hl]; unfold loN; repeat' split
                              all_goals omega
    have hhi : hi = 191 := by rw [← hh]; unfold hiN; repeat' split
                              all_goals omega
    subst e2 hlo hhi
    have ez : szN n b0 b1 b2 b3 = if 1 < n ∧ 128 ≤ b1 ∧ b1 ≤ 191 then 2 else 0 := by
      unfold szN
      rw [if_neg (by omega)]
      by_cases t : 1 < n ∧ 128 ≤ b1 ∧ b1 ≤ 191
      · rw [if_pos ⟨by omega, t⟩, if_pos t]
      · rw [if_neg (fun x => t x.2), if_neg (by omega), if_neg (by omega), if_neg t]
    rw [ez]
    unfold Lib.slowN
    by_cases t : 1 < n ∧ 128 ≤ b1 ∧ b1 ≤ 191
    · rw [if_pos t, if_neg (by omega), if_neg (by omega), if_pos (by omega)]
      simp
    · rw [if_neg t]
      by_cases u : n < 2
      · rw [if_pos u]; simp
      · rw [if_neg u, if_pos (by omega)]; simp
  by_cases c3 : b0 ≤ 239
  · have e2 : sz = 3 := by rw [hs, if_neg c2, if_pos c3]
    have ez : szN n b0 b1 b2 b3 = if (1 < n ∧ lo ≤ b1 ∧ b1 ≤ hi) ∧ (2 < n ∧ 128 ≤ b2 ∧ b2 ≤ 191) then 3 else 0 := by
      unfold szN
      rw [if_neg (by omega), if_neg (by omega), hl, hh]
      by_cases t : (1 < n ∧ lo ≤ b1 ∧ b1 ≤ hi) ∧ (2 < n ∧ 128 ≤ b2 ∧ b2 ≤ 191)
      · rw [if_pos ⟨by omega, t⟩, if_pos t]
      · rw [if_neg (fun x => t x.2), if_neg (by omega), if_neg t]
    subst e2
    rw [ez]
    unfold Lib.slowN
    by_cases t : (1 < n ∧ lo ≤ b1 ∧ b1 ≤ hi) ∧ (2 < n ∧ 128 ≤ b2 ∧ b2 ≤ 191)
    · rw [if_pos t, if_neg (by omega), if_neg (by omega), if_neg (by omega), if_neg (by omega), if_pos (by omega)]
      simp
    · rw [if_neg t]
      by_cases u : n < 3
      · rw [if_pos u]; simp
      · rw [if_neg u]
        by_cases u2 : b1 < lo ∨ hi < b1
        · rw [if_pos u2]; simp
        · rw [if_neg u2, if_neg (by omega), if_pos (by omega)]; simp
  · have e2 : sz = 4 := by rw [hs, if_neg c2, if_neg c3]
    have ez : szN n b0 b1 b2 b3 = if (1 < n ∧ lo ≤ b1 ∧ b1 ≤ hi) ∧ (2 < n ∧ 128 ≤ b2 ∧ b2 ≤ 191) ∧ (3 < n ∧ 128 ≤ b3 ∧ b3 ≤ 191) then 4 else 0 := by
      unfold szN
      rw [if_neg (by omega), if_neg (by omega), if_neg (by omega), hl, hh]
      by_cases t : (1 < n ∧ lo ≤ b1 ∧ b1 ≤ hi) ∧ (2 < n ∧ 128 ≤ b2 ∧ b2 ≤ 191) ∧ (3 < n ∧ 128 ≤ b3 ∧ b3 ≤ 191)
      · rw [if_pos ⟨by omega, t⟩, if_pos t]
      · rw [if_neg (fun x => t x.2), if_neg t]
    subst e2
    rw [ez]
    unfold Lib.slowN
    by_cases t : (1 < n ∧ lo ≤ b1 ∧ b1 ≤ hi) ∧ (2 < n ∧ 128 ≤ b2 ∧ b2 ≤ 191) ∧ (3 < n ∧ 128 ≤ b3 ∧ b3 ≤ 191)
    · rw [if_pos t, if_neg (by omega), if_neg (by omega), if_neg (by omega), if_neg (by omega), if_neg (by omega), if_neg (by omega)]
      simp
    · rw [if_neg t]
      by_cases u : n < 4
      · rw [if_pos u]; simp
      · rw [if_neg u]
        by_cases u2 : b1 < lo ∨ hi < b1
        · rw [if_pos u2]; simp
        · rw [if_neg u2, if_neg (by omega)]
          by_cases u3 : b2 < 128 ∨ 191 < b2
          · rw [if_pos u3]; simp
          · rw [if_neg u3, if_neg (by omega), if_pos (by omega)]; simp
/-- The model's decoding, held against the document's size. -/
theorem dec_sz (n b0 b1 b2 b3 : Nat) (hn : 1 ≤ n) (h0 : b0 < 256) (h1 : b1 < 256) (h2 : b2 < 256) (h3 : b3 < 256) :
    (Lib.decodeN n b0 b1 b2 b3).2 = (if szN n b0 b1 b2 b3 = 0 then 1 else szN n b0 b1 b2 b3) ∧ (szN n b0 b1 b2 b3 = 0 → (Lib.decodeN n b0 b1 b2 b3).1 = 65533) := by
  by_cases c0 : b0 < 128
  · have e : Lib.decodeN n b0 b1 b2 b3 = (b0, 1) := by unfold Lib.decodeN; rw [if_pos c0]
    have ez : szN n b0 b1 b2 b3 = 1 := by unfold szN; rw [if_pos c0]
    rw [e, ez]; simp
  by_cases c1 : b0 < 194 ∨ 244 < b0
  · have hx1 : Lib.firstT b0 = 241 := by
      unfold Lib.firstT
      repeat' split
      all_goals omega
    have e : Lib.decodeN n b0 b1 b2 b3 = (65533, 1) := Lib.bad_eq n b0 b1 b2 b3 h0 hx1
    have ez : szN n b0 b1 b2 b3 = 0 := by unfold szN; rw [if_neg c0, if_neg (by omega), if_neg (by omega), if_neg (by omega)]
    rw [e, ez]; simp
  have hx : Lib.firstT b0 < 240 := by
    unfold Lib.firstT
    repeat' split
    all_goals omega
  have hb : 194 ≤ b0 ∧ b0 ≤ 244 := by omega
  have key : ∃ sz lo hi, Lib.slowN n b0 b1 b2 b3 sz lo hi = Lib.decodeN n b0 b1 b2 b3 ∧ loN b0 = lo ∧ hiN b0 = hi ∧ sz = if b0 ≤ 223 then 2 else if b0 ≤ 239 then 3 else 4 := by
    rcases Lib.firstT_low hx with h | h | h | h | h | h | h
    · exact ⟨2, 128, 191, Lib.slow_C2 n b0 b1 b2 b3 hn h1 h2 h3 h, by unfold loN; rw [if_neg (by omega), if_neg (by omega)], by unfold hiN; rw [if_neg (by omega), if_neg (by omega)], by rw [if_pos (by omega)]⟩
    · exact ⟨3, 160, 191, Lib.slow_E0 n b0 b1 b2 b3 hn h1 h2 h3 h, by subst h; rfl, by subst h; rfl, by subst h; rfl⟩
    · exact ⟨3, 128, 191, Lib.slow_E1 n b0 b1 b2 b3 hn h1 h2 h3 h, by unfold loN; rw [if_neg (by omega), if_neg (by omega)], by unfold hiN; rw [if_neg (by omega), if_neg (by omega)], by rw [if_neg (by omega), if_pos (by omega)]⟩
    · exact ⟨3, 128, 159, Lib.slow_ED n b0 b1 b2 b3 hn h1 h2 h3 h, by subst h; rfl, by subst h; rfl, by subst h; rfl⟩
    · exact ⟨4, 144, 191, Lib.slow_F0 n b0 b1 b2 b3 hn h1 h2 h3 h, by subst h; rfl, by subst h; rfl, by subst h; rfl⟩
    · exact ⟨4, 128, 191, Lib.slow_F1 n b0 b1 b2 b3 hn h1 h2 h3 h, by unfold loN; rw [if_neg (by omega), if_neg (by omega)], by unfold hiN; rw [if_neg (by omega), if_neg (by omega)], by rw [if_neg (by omega), if_neg (by omega)]⟩
    · exact ⟨4, 128, 143, Lib.slow_F4 n b0 b1 b2 b3 hn h1 h2 h3 h, by subst h; rfl, by subst h; rfl, by subst h; rfl⟩
  obtain ⟨sz, lo, hi, e, hl, hh, hs⟩ := key
  rw [← e]
  exact slow_sz n b0 b1 b2 b3 sz lo hi hn h1 h2 h3 hb hl hh hs
theorem get_nat (s : ByteArray) (k : Nat) : (s.get! k).toNat = at_ s.data.toList k := by
  unfold at_
  show (s.data[k]!).toNat = _
  by_cases h : k < s.data.size
  · rw [getElem!_pos s.data k h, List.getD_eq_getElem?_getD, List.getElem?_eq_getElem (by simpa using h)]
    rfl
  · rw [getElem!_neg s.data k h, List.getD_eq_getElem?_getD, List.getElem?_eq_none (by simpa using h)]
    rfl
/-- What a range over a text tells at a place. -/
theorem decode_any (s : ByteArray) (i : Nat) (h : i < s.size) : (Utf8.decode s i).2 = wd (s.data.toList.drop i) ∧ (Sz (s.data.toList.drop i) = 0 → (Utf8.decode s i).1 = 65533) ∧ ((s[i]'h).toNat < 128 → (Utf8.decode s i).1 = (s[i]'h).toNat) ∧ (128 ≤ (s[i]'h).toNat → 128 ≤ (Utf8.decode s i).1) := by
  have e := Lib.decode_at s i
  rw [get_nat, get_nat, get_nat, get_nat] at e
  have hd := dec_sz (s.size - i) (at_ s.data.toList i) (at_ s.data.toList (i + 1)) (at_ s.data.toList (i + 2)) (at_ s.data.toList (i + 3)) (by omega) (at_lt _ _) (at_lt _ _) (at_lt _ _) (at_lt _ _)
  have hz : Sz (s.data.toList.drop i) = szN (s.size - i) (at_ s.data.toList i) (at_ s.data.toList (i + 1)) (at_ s.data.toList (i + 2)) (at_ s.data.toList (i + 3)) := by
    unfold Sz
    rw [List.length_drop, len_list, at_drop, at_drop, at_drop, at_drop, Nat.add_zero]
  rw [← e, ← hz] at hd
  exact ⟨hd.1, hd.2, fun hc => by rw [decode_ascii s i h hc], fun hc => (decode_high s i h hc).1⟩
end Go.Proofs.YtndbgdapojkfaaaGreatDoor.Utf
