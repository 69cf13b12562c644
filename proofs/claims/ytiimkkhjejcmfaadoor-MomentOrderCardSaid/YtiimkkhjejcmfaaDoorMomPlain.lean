/- Plain facts of dates and times of day as texts: digits, forms, and what each function answers. -/
import Derived.Test.YtiimkkhjejcmfaaDoorCivPlain
namespace Go.Proofs.YtiimkkhjejcmfaaDoor.Mom
open Civ

/-- Is it a digit? -/
def isDg (b : UInt8) : Bool := decide (48 ≤ b.toNat) && decide (b.toNat ≤ 57)
theorem isDg_iff {b : UInt8} : isDg b = true ↔ 48 ≤ b.toNat ∧ b.toNat ≤ 57 := by unfold isDg; simp
theorem isDg_no {b : UInt8} : isDg b = false ↔ ¬ (48 ≤ b.toNat ∧ b.toNat ≤ 57) := by rw [← isDg_iff]; simp
/-- Has a text digits alone? -/
def allD (l : List UInt8) : Bool := l.all isDg
theorem allD_iff {l : List UInt8} : allD l = true ↔ ∀ b ∈ l, isDg b = true := by unfold allD; simp
/-- A sign of a form: any digit is a nought. -/
def sgn (b : UInt8) : UInt8 := if isDg b = true then 48 else b
theorem sgn_yes {b : UInt8} (h : isDg b = true) : sgn b = 48 := if_pos h
theorem sgn_no {b : UInt8} (h : isDg b = false) : sgn b = b := if_neg (by simp [h])
theorem sgn_zero {b : UInt8} : sgn b = 48 ↔ isDg b = true := by
  constructor
  · intro h
    rcases e : isDg b with _ | _
    · rw [sgn_no e] at h; subst h; exact e.symm
    · rfl
  · exact sgn_yes
theorem sgn_t {b : UInt8} : sgn b = 84 ↔ b = 84 := by
  constructor
  · intro h
    rcases e : isDg b with _ | _
    · rwa [sgn_no e] at h
    · rw [sgn_yes e] at h; cases h
  · rintro rfl; rfl
theorem sgn_z {b : UInt8} : sgn b = 90 ↔ b = 90 := by
  constructor
  · intro h
    rcases e : isDg b with _ | _
    · rwa [sgn_no e] at h
    · rw [sgn_yes e] at h; cases h
  · rintro rfl; rfl
/-- The number of digits. -/
def dv (l : List UInt8) : Int := l.foldl (fun a b => a * 10 + ((b.toNat : Int) - 48)) 0
theorem dv_nil : dv [] = 0 := rfl
theorem dv_snoc (l : List UInt8) (b : UInt8) : dv (l ++ [b]) = dv l * 10 + ((b.toNat : Int) - 48) := by simp [dv, List.foldl_append]
theorem dv_two (a b : UInt8) : dv [a, b] = ((a.toNat : Int) - 48) * 10 + ((b.toNat : Int) - 48) := by simp [dv]
theorem dv_four (a b c d : UInt8) : dv [a, b, c, d] = ((a.toNat : Int) - 48) * 1000 + ((b.toNat : Int) - 48) * 100 + ((c.toNat : Int) - 48) * 10 + ((d.toNat : Int) - 48) := by simp [dv]; omega
/-- A number's last digit. -/
def dgt (n : Int) : UInt8 := UInt8.ofNat (48 + (n % 10).toNat)
theorem dgt_nat (n : Int) : ((dgt n).toNat : Int) = 48 + n % 10 := by
  have h1 := Int.emod_nonneg n (show (10 : Int) ≠ 0 by omega)
  have h2 := Int.emod_lt_of_pos n (show (0 : Int) < 10 by omega)
  unfold dgt
  rw [UInt8.toNat_ofNat']
  omega
theorem dgt_dig (n : Int) : isDg (dgt n) = true := by rw [isDg_iff]; have := dgt_nat n; omega
theorem dgt_sgn (n : Int) : sgn (dgt n) = 48 := sgn_yes (dgt_dig n)
theorem dgt_of {n : Int} {b : UInt8} (h : (b.toNat : Int) = 48 + n % 10) : dgt n = b := by
  apply UInt8.toNat_inj.1
  have := dgt_nat n; omega
/-- A number's last digits. -/
def low (n : Int) : Nat → List UInt8
  | 0 => []
  | k + 1 => dgt (n / 10 ^ k) :: low n k
theorem low_len (n : Int) : ∀ k, (low n k).length = k
  | 0 => rfl
  | k + 1 => by simp [low, low_len n k]
theorem low_two (n : Int) : low n 2 = [dgt (n / 10), dgt n] := by simp [low]
theorem low_four (n : Int) : low n 4 = [dgt (n / 1000), dgt (n / 100), dgt (n / 10), dgt n] := by simp [low]
theorem dv_low2 {n : Int} (h0 : 0 ≤ n) (h1 : n < 100) : dv [dgt (n / 10), dgt n] = n := by
  have := dgt_nat n; have := dgt_nat (n / 10); rw [dv_two]; omega
theorem dv_low4 {n : Int} (h0 : 0 ≤ n) (h1 : n < 10000) : dv [dgt (n / 1000), dgt (n / 100), dgt (n / 10), dgt n] = n := by
  have := dgt_nat n; have := dgt_nat (n / 10); have := dgt_nat (n / 100); have := dgt_nat (n / 1000); rw [dv_four]; omega
theorem low_dv2 {a b : UInt8} (ha : isDg a = true) (hb : isDg b = true) : low (dv [a, b]) 2 = [a, b] := by
  rw [isDg_iff] at ha hb
  rw [low_two, dv_two, dgt_of (b := a) (by omega), dgt_of (b := b) (by omega)]
theorem low_dv4 {a b c d : UInt8} (ha : isDg a = true) (hb : isDg b = true) (hc : isDg c = true) (hd : isDg d = true) : low (dv [a, b, c, d]) 4 = [a, b, c, d] := by
  rw [isDg_iff] at ha hb hc hd
  rw [low_four, dv_four, dgt_of (b := a) (by omega), dgt_of (b := b) (by omega), dgt_of (b := c) (by omega), dgt_of (b := d) (by omega)]
theorem dv_bound (l : List UInt8) : allD l = true → 0 ≤ dv l ∧ dv l < 10 ^ l.length := by
  suffices h : ∀ n (l : List UInt8), l.length = n → allD l = true → 0 ≤ dv l ∧ dv l < 10 ^ n from h _ l rfl
  intro n
  induction n with
  | zero => intro l h _; obtain rfl := List.length_eq_zero_iff.1 h; simp [dv]
  | succ n ih =>
    intro l h hd
    obtain ⟨m, b, rfl⟩ : ∃ m b, l = m ++ [b] := by
      rcases List.eq_nil_or_concat l with rfl | ⟨m, b, rfl⟩
      · simp at h
      · exact ⟨m, b, by simp⟩
    simp at h
    rw [allD_iff] at hd
    have hb := isDg_iff.1 (hd b (by simp))
    have := ih m h (allD_iff.2 fun x hx => hd x (by simp [hx]))
    rw [dv_snoc, Int.pow_succ]
    omega

/-- The parts of a text. -/
def yL (l : List UInt8) : Int := dv (l.take 4)
def mL (l : List UInt8) : Int := dv ((l.drop 4).take 2)
def dL (l : List UInt8) : Int := dv ((l.drop 6).take 2)
def hL (l : List UInt8) : Int := dv ((l.drop 9).take 2)
def miL (l : List UInt8) : Int := dv ((l.drop 11).take 2)
def sL (l : List UInt8) : Int := dv ((l.drop 13).take 2)
/-- The three forms. -/
def F1 : List UInt8 := [48, 48, 48, 48, 48, 48, 48, 48]
def F2 : List UInt8 := [48, 48, 48, 48, 48, 48, 48, 48, 84, 48, 48, 48, 48, 48, 48]
def F3 : List UInt8 := [48, 48, 48, 48, 48, 48, 48, 48, 84, 48, 48, 48, 48, 48, 48, 90]
/-- Of which kind's form a text is. -/
def kindA (l : List UInt8) : Int := if l.map sgn = F1 then 1 else if l.map sgn = F2 then 2 else if l.map sgn = F3 then 3 else 0
theorem kindA_1 {l : List UInt8} (h : l.map sgn = F1) : kindA l = 1 := if_pos h
theorem kindA_2 {l : List UInt8} (h : l.map sgn = F2) : kindA l = 2 := by
  unfold kindA; rw [if_neg (by rw [h]; decide), if_pos h]
theorem kindA_3 {l : List UInt8} (h : l.map sgn = F3) : kindA l = 3 := by
  unfold kindA; rw [if_neg (by rw [h]; decide), if_neg (by rw [h]; decide), if_pos h]
theorem kindA_0 {l : List UInt8} (h1 : ¬ l.map sgn = F1) (h2 : ¬ l.map sgn = F2) (h3 : ¬ l.map sgn = F3) : kindA l = 0 := by
  unfold kindA; rw [if_neg h1, if_neg h2, if_neg h3]
theorem kindA_cases (l : List UInt8) : (kindA l = 1 ∧ l.map sgn = F1) ∨ (kindA l = 2 ∧ l.map sgn = F2) ∨ (kindA l = 3 ∧ l.map sgn = F3) ∨ (kindA l = 0 ∧ ¬ l.map sgn = F1 ∧ ¬ l.map sgn = F2 ∧ ¬ l.map sgn = F3) := by
  by_cases h1 : l.map sgn = F1
  · exact .inl ⟨kindA_1 h1, h1⟩
  · by_cases h2 : l.map sgn = F2
    · exact .inr (.inl ⟨kindA_2 h2, h2⟩)
    · by_cases h3 : l.map sgn = F3
      · exact .inr (.inr (.inl ⟨kindA_3 h3, h3⟩))
      · exact .inr (.inr (.inr ⟨kindA_0 h1 h2 h3, h1, h2, h3⟩))
theorem form1 {l : List UInt8} (h : l.map sgn = F1) : ∃ a b c d e f g i, l = [a, b, c, d, e, f, g, i] ∧ isDg a = true ∧ isDg b = true ∧ isDg c = true ∧ isDg d = true ∧ isDg e = true ∧ isDg f = true ∧ isDg g = true ∧ isDg i = true := by
  unfold F1 at h
  simp only [List.map_eq_cons_iff, List.map_eq_nil_iff] at h
  obtain ⟨a, _, rfl, ha, b, _, rfl, hb, c, _, rfl, hc, d, _, rfl, hd, e, _, rfl, he, f, _, rfl, hf, g, _, rfl, hg, i, _, rfl, hi, rfl⟩ := h
  simp only [sgn_zero] at ha hb hc hd he hf hg hi
  exact ⟨a, b, c, d, e, f, g, i, rfl, ha, hb, hc, hd, he, hf, hg, hi⟩
theorem form2 {l : List UInt8} (h : l.map sgn = F2) : ∃ a b c d e f g i j k m n o p, l = [a, b, c, d, e, f, g, i, 84, j, k, m, n, o, p] ∧ isDg a = true ∧ isDg b = true ∧ isDg c = true ∧ isDg d = true ∧ isDg e = true ∧ isDg f = true ∧ isDg g = true ∧ isDg i = true ∧ isDg j = true ∧ isDg k = true ∧ isDg m = true ∧ isDg n = true ∧ isDg o = true ∧ isDg p = true := by
  unfold F2 at h
  simp only [List.map_eq_cons_iff, List.map_eq_nil_iff] at h
  obtain ⟨a, _, rfl, ha, b, _, rfl, hb, c, _, rfl, hc, d, _, rfl, hd, e, _, rfl, he, f, _, rfl, hf, g, _, rfl, hg, i, _, rfl, hi, t, _, rfl, ht, j, _, rfl, hj, k, _, rfl, hk, m, _, rfl, hm, n, _, rfl, hn, o, _, rfl, ho, p, _, rfl, hp, rfl⟩ := h
  simp only [sgn_zero, sgn_t] at ha hb hc hd he hf hg hi ht hj hk hm hn ho hp
  subst ht
  exact ⟨a, b, c, d, e, f, g, i, j, k, m, n, o, p, rfl, ha, hb, hc, hd, he, hf, hg, hi, hj, hk, hm, hn, ho, hp⟩
theorem form3 {l : List UInt8} (h : l.map sgn = F3) : ∃ a b c d e f g i j k m n o p, l = [a, b, c, d, e, f, g, i, 84, j, k, m, n, o, p, 90] ∧ isDg a = true ∧ isDg b = true ∧ isDg c = true ∧ isDg d = true ∧ isDg e = true ∧ isDg f = true ∧ isDg g = true ∧ isDg i = true ∧ isDg j = true ∧ isDg k = true ∧ isDg m = true ∧ isDg n = true ∧ isDg o = true ∧ isDg p = true := by
  unfold F3 at h
  simp only [List.map_eq_cons_iff, List.map_eq_nil_iff] at h
  obtain ⟨a, _, rfl, ha, b, _, rfl, hb, c, _, rfl, hc, d, _, rfl, hd, e, _, rfl, he, f, _, rfl, hf, g, _, rfl, hg, i, _, rfl, hi, t, _, rfl, ht, j, _, rfl, hj, k, _, rfl, hk, m, _, rfl, hm, n, _, rfl, hn, o, _, rfl, ho, p, _, rfl, hp, z, _, rfl, hz, rfl⟩ := h
  simp only [sgn_zero, sgn_t, sgn_z] at ha hb hc hd he hf hg hi ht hj hk hm hn ho hp hz
  subst ht hz
  exact ⟨a, b, c, d, e, f, g, i, j, k, m, n, o, p, rfl, ha, hb, hc, hd, he, hf, hg, hi, hj, hk, hm, hn, ho, hp⟩

/-- Is it a kind, is it a second? -/
def kB (k : Int) : Bool := decide (1 ≤ k) && decide (k ≤ 3)
theorem kB_yes {k : Int} (h : kB k = true) : 1 ≤ k ∧ k ≤ 3 := by unfold kB at h; simpa using h
theorem kB_no {k : Int} (h : kB k = false) : ¬ (1 ≤ k ∧ k ≤ 3) := by intro e; unfold kB at h; simp at h; omega
theorem kB_of {k : Int} (h : 1 ≤ k ∧ k ≤ 3) : kB k = true := by unfold kB; simp [h]
def sB (s : Int) : Bool := decide (0 ≤ s) && decide (s ≤ 315537897599)
theorem sB_yes {k : Int} (h : sB k = true) : 0 ≤ k ∧ k ≤ 315537897599 := by unfold sB at h; simpa using h
theorem sB_no {k : Int} (h : sB k = false) : ¬ (0 ≤ k ∧ k ≤ 315537897599) := by intro e; unfold sB at h; simp at h; omega
theorem sB_of {k : Int} (h : 0 ≤ k ∧ k ≤ 315537897599) : sB k = true := by unfold sB; simp [h]
/-- What At answers. -/
def atE (k s : Int) : Int := if kB k = false then 11 else if sB s = false then 8 else 0
def atK (k s : Int) : Int := if atE k s = 0 then k else 0
def atS (k s : Int) : Int := if atE k s = 0 then (if k = 1 then s - s % 86400 else s) else 0
/-- What Check answers. -/
def chkA (k s : Int) : Int := if atE k s = 0 then (if k = 1 ∧ ¬ s % 86400 = 0 then 2 else 0) else atE k s
theorem atE_ok {k s : Int} (h : atE k s = 0) : kB k = true ∧ sB s = true := by
  unfold atE at h
  rcases e : kB k with _ | _
  · rw [e] at h; simp at h
  · rcases d : sB s with _ | _
    · rw [e, d] at h; simp at h
    · exact ⟨rfl, rfl⟩
theorem atE_of {k s : Int} (h : kB k = true) (hs : sB s = true) : atE k s = 0 := by unfold atE; rw [h, hs]; simp
theorem chk_ok {k s : Int} (h : chkA k s = 0) : 1 ≤ k ∧ k ≤ 3 ∧ 0 ≤ s ∧ s ≤ 315537897599 ∧ (k = 1 → s % 86400 = 0) := by
  unfold chkA at h
  split at h
  · rename_i h0
    obtain ⟨a, b⟩ := atE_ok h0
    have a' := kB_yes a; have b' := sB_yes b
    split at h
    · cases h
    · rename_i c
      exact ⟨a'.1, a'.2, b'.1, b'.2, fun e => by by_cases hc : s % 86400 = 0; (· exact hc); (· exact absurd ⟨e, hc⟩ c)⟩
  · contradiction
theorem chk_of {k s : Int} (h1 : 1 ≤ k) (h2 : k ≤ 3) (h3 : 0 ≤ s) (h4 : s ≤ 315537897599) (h5 : k = 1 → s % 86400 = 0) : chkA k s = 0 := by
  unfold chkA
  rw [if_pos (atE_of (kB_of ⟨h1, h2⟩) (sB_of ⟨h3, h4⟩)), if_neg]
  rintro ⟨a, b⟩
  exact b (h5 a)
/-- What At tells may be. -/
theorem at_chk {k s : Int} (hk : kB k = true) (hs : sB s = true) : chkA (atK k s) (atS k s) = 0 := by
  have h := atE_of hk hs
  obtain ⟨a, b⟩ := kB_yes hk
  obtain ⟨c, d⟩ := sB_yes hs
  unfold atK atS
  rw [if_pos h, if_pos h]
  split
  · rename_i e; exact chk_of a b (by omega) (by omega) (fun _ => by omega)
  · rename_i e; exact chk_of a b c d (fun f => absurd f e)
/-- What Split answers. -/
def spD (k s : Int) : Int := if chkA k s = 0 then s / 86400 else 0
def spS (k s : Int) : Int := if chkA k s = 0 then s % 86400 else 0
/-- Which comes first? -/
def befA (k s k' s' : Int) : Bool := decide (s < s') || (decide (s = s') && decide (k < k'))
/-- The text of a day. -/
def dateL (n : Int) : List UInt8 := low (yOf n) 4 ++ (low (mOf n) 2 ++ low (dOf n) 2)
/-- The text of a time of day. -/
def timeL (t : Int) : List UInt8 := low (t / 3600) 2 ++ (low (t / 60 % 60) 2 ++ low (t % 60) 2)
/-- The text of a value. -/
def textL (k s : Int) : List UInt8 := dateL (s / 86400) ++ (if k = 1 then [] else 84 :: (timeL (s % 86400) ++ (if k = 3 then [90] else [])))
theorem text_1 (s : Int) : textL 1 s = dateL (s / 86400) := by simp [textL]
theorem text_2 (s : Int) : textL 2 s = dateL (s / 86400) ++ (84 :: timeL (s % 86400)) := by simp [textL]
theorem text_3 (s : Int) : textL 3 s = dateL (s / 86400) ++ (84 :: (timeL (s % 86400) ++ [90])) := by simp [textL]
/-- What Print answers. -/
def prL (k s : Int) : List UInt8 := if chkA k s = 0 then textL k s else []
/-- What Parse answers. -/
def late (l : List UInt8) : Bool := decide (23 < hL l) || (decide (59 < miL l) || decide (59 < sL l))
def paE (l : List UInt8) : Int := if kindA l = 0 then 4 else if isD (yL l) (mL l) (dL l) = false then 8 else if kindA l = 1 then 0 else if late l = true then 8 else 0
def paK (l : List UInt8) : Int := if paE l = 0 then kindA l else 0
def paS (l : List UInt8) : Int := if paE l = 0 then dayN (yL l) (mL l) (dL l) * 86400 + (if kindA l = 1 then 0 else hL l * 3600 + miL l * 60 + sL l) else 0
theorem late_no {l : List UInt8} (h : late l = false) : hL l ≤ 23 ∧ miL l ≤ 59 ∧ sL l ≤ 59 := by
  unfold late at h; simp at h; exact ⟨h.1, h.2.1, h.2.2⟩
theorem paE_form {l : List UInt8} (h : kindA l = 0) : paE l = 4 := if_pos h
theorem paE_date {l : List UInt8} (h : ¬ kindA l = 0) (hd : isD (yL l) (mL l) (dL l) = false) : paE l = 8 := by unfold paE; rw [if_neg h, if_pos hd]
theorem paE_day {l : List UInt8} (h : kindA l = 1) (hd : isD (yL l) (mL l) (dL l) = true) : paE l = 0 := by unfold paE; rw [if_neg (by omega), if_neg (by simp [hd]), if_pos h]
theorem paE_late {l : List UInt8} (h : ¬ kindA l = 0) (h1 : ¬ kindA l = 1) (hd : isD (yL l) (mL l) (dL l) = true) (ht : late l = true) : paE l = 8 := by unfold paE; rw [if_neg h, if_neg (by simp [hd]), if_neg h1, if_pos ht]
theorem paE_time {l : List UInt8} (h : ¬ kindA l = 0) (h1 : ¬ kindA l = 1) (hd : isD (yL l) (mL l) (dL l) = true) (ht : late l = false) : paE l = 0 := by unfold paE; rw [if_neg h, if_neg (by simp [hd]), if_neg h1, if_neg (by simp [ht])]
theorem pa_ok {l : List UInt8} (h : paE l = 0) : ¬ kindA l = 0 ∧ isD (yL l) (mL l) (dL l) = true ∧ (¬ kindA l = 1 → late l = false) := by
  by_cases h0 : kindA l = 0
  · rw [paE_form h0] at h; cases h
  · rcases e : isD (yL l) (mL l) (dL l) with _ | _
    · rw [paE_date h0 e] at h; cases h
    · refine ⟨h0, rfl, fun h1 => ?_⟩
      rcases t : late l with _ | _
      · rfl
      · rw [paE_late h0 h1 e t] at h; cases h
theorem paK_not {l : List UInt8} (h : ¬ paE l = 0) : paK l = 0 := if_neg h
theorem paS_not {l : List UInt8} (h : ¬ paE l = 0) : paS l = 0 := if_neg h
theorem paK_ok {l : List UInt8} (h : paE l = 0) : paK l = kindA l := if_pos h
theorem paS_ok {l : List UInt8} (h : paE l = 0) : paS l = dayN (yL l) (mL l) (dL l) * 86400 + (if kindA l = 1 then 0 else hL l * 3600 + miL l * 60 + sL l) := if_pos h
end Go.Proofs.YtiimkkhjejcmfaaDoor.Mom
