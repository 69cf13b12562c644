/- Plain facts of lengths of time and offsets as texts: digits, parts, and what each function answers. -/
import Derived.Lib.ItoaNum
import Derived.Lib.Atoi
namespace Go.Proofs.YtmbbjpfhdijmbaaDoor.Spn

/-- Is it a digit? -/
def isDg (b : UInt8) : Bool := decide (48 ≤ b.toNat) && decide (b.toNat ≤ 57)
theorem isDg_iff {b : UInt8} : isDg b = true ↔ 48 ≤ b.toNat ∧ b.toNat ≤ 57 := by unfold isDg; simp
theorem isDg_no {b : UInt8} : isDg b = false ↔ ¬ (48 ≤ b.toNat ∧ b.toNat ≤ 57) := by rw [← isDg_iff]; simp
/-- Has a text digits alone? -/
def allD (l : List UInt8) : Bool := l.all isDg
theorem allD_iff {l : List UInt8} : allD l = true ↔ ∀ b ∈ l, isDg b = true := by unfold allD; simp
/-- The number of digits. -/
def dv (l : List UInt8) : Int := l.foldl (fun a b => a * 10 + ((b.toNat : Int) - 48)) 0
theorem dv_nil : dv [] = 0 := rfl
theorem dv_snoc (l : List UInt8) (b : UInt8) : dv (l ++ [b]) = dv l * 10 + ((b.toNat : Int) - 48) := by simp [dv, List.foldl_append]
theorem dv_two (a b : UInt8) : dv [a, b] = ((a.toNat : Int) - 48) * 10 + ((b.toNat : Int) - 48) := by simp [dv]
theorem dv_bound (l : List UInt8) : allD l = true → 0 ≤ dv l ∧ dv l < 10 ^ l.length := by
  suffices h : ∀ n (l : List UInt8), l.length = n → allD l = true → 0 ≤ dv l ∧ dv l < 10 ^ n from h _ l rfl
  intro n
  induction n with
  | zero => intro l h _; obtain rfl := List.length_eq_zero_iff.1 h; simp [dv]
  | succ n ih =>
    intro l h hd
    obtain ⟨m, b, rfl⟩ : ∃ m b, l = m ++ [b] := by
      rcases List.eq_nil_or_concat l with rfl | ⟨m, b, rfl⟩
      · simp at h
      · exact ⟨m, b, by simp⟩
    simp at h
    rw [allD_iff] at hd
    have hb := isDg_iff.1 (hd b (by simp))
    have := ih m h (allD_iff.2 fun x hx => hd x (by simp [hx]))
    rw [dv_snoc, Int.pow_succ]
    omega
theorem dv_six {l : List UInt8} (h : allD l = true) (hl : l.length ≤ 6) : 0 ≤ dv l ∧ dv l ≤ 999999 := by
  have := dv_bound l h
  have h2 : (10 : Nat) ^ l.length ≤ 10 ^ 6 := Nat.pow_le_pow_right (by omega) hl
  have h3 : ((10 : Nat) ^ l.length : Nat) = (10 : Int) ^ l.length := by simp
  omega
theorem dv_pair {l : List UInt8} (h : allD l = true) (hl : l.length ≤ 2) : 0 ≤ dv l ∧ dv l ≤ 99 := by
  have := dv_bound l h
  have h2 : (10 : Nat) ^ l.length ≤ 10 ^ 2 := Nat.pow_le_pow_right (by omega) hl
  have h3 : ((10 : Nat) ^ l.length : Nat) = (10 : Int) ^ l.length := by simp
  omega
theorem all_take {l : List UInt8} (h : allD l = true) (k : Nat) : allD (l.take k) = true := by
  rw [allD_iff] at h ⊢
  exact fun b hb => h b (List.mem_of_mem_take hb)
theorem all_drop {l : List UInt8} (h : allD l = true) (k : Nat) : allD (l.drop k) = true := by
  rw [allD_iff] at h ⊢
  exact fun b hb => h b (List.mem_of_mem_drop hb)

/-- The library's Atoi of digits. -/
theorem decFrom_dv (l : List UInt8) : allD l = true → ∃ m : Nat, Go.Lib.decFrom 0 l = some m ∧ (m : Int) = dv l := by
  suffices h : ∀ (l : List UInt8) (acc : Nat), allD l = true → ∃ m : Nat, Go.Lib.decFrom acc l = some m ∧ (m : Int) = l.foldl (fun a b => a * 10 + ((b.toNat : Int) - 48)) acc from h l 0
  intro l
  induction l with
  | nil => intro acc _; exact ⟨acc, rfl, rfl⟩
  | cons b r ih =>
    intro acc h
    rw [allD_iff] at h
    have hb := isDg_iff.1 (h b (by simp))
    obtain ⟨m, h1, h2⟩ := ih (acc * 10 + (b.toNat - 48)) (allD_iff.2 fun x hx => h x (by simp [hx]))
    refine ⟨m, ?_, ?_⟩
    · simp only [Go.Lib.decFrom, Go.Lib.digitVal]
      rw [if_pos hb]
      exact h1
    · rw [h2, List.foldl_cons]
      congr 1
      omega
theorem atoi_dv {l : List UInt8} (h : allD l = true) (h1 : 1 ≤ l.length) : Go.Lib.atoi l = some (dv l) := by
  cases l with
  | nil => simp at h1
  | cons b r =>
    have hb := isDg_iff.1 (allD_iff.1 h b (by simp))
    obtain ⟨m, e1, e2⟩ := decFrom_dv _ h
    have n45 : ¬ b = 45 := by rintro rfl; revert hb; decide
    have n43 : ¬ b = 43 := by rintro rfl; revert hb; decide
    simp only [Go.Lib.atoi, Go.Lib.decNat, e1]
    simp [n45, n43, e2]

/-- How many digits a text begins with. -/
def cnt : List UInt8 → Nat
  | [] => 0
  | b :: r => if isDg b = true then cnt r + 1 else 0
theorem cnt_le : ∀ l, cnt l ≤ l.length
  | [] => Nat.le_refl _
  | b :: r => by
    have := cnt_le r
    unfold cnt
    split <;> simp <;> omega
theorem cnt_dig : ∀ (l : List UInt8) (i : Nat) (h : i < l.length), i < cnt l → isDg l[i] = true
  | [], i, h, _ => by simp at h
  | b :: r, i, h, hc => by
    unfold cnt at hc
    split at hc
    · rename_i hb
      cases i with
      | zero => exact hb
      | succ i => exact cnt_dig r i (by simpa using h) (by omega)
    · omega
theorem cnt_stop : ∀ (l : List UInt8) (h : cnt l < l.length), isDg l[cnt l] = false
  | [], h => by simp at h
  | b :: r, h => by
    rcases hb : isDg b with _ | _
    · have e : cnt (b :: r) = 0 := by simp [cnt, hb]
      simp [e, hb]
    · have e : cnt (b :: r) = cnt r + 1 := by simp [cnt, hb]
      simp only [e] at h ⊢
      exact cnt_stop r (by simpa using h)
theorem cnt_all (l : List UInt8) {k : Nat} (hk : k ≤ cnt l) : allD (l.take k) = true := by
  rw [allD_iff]
  intro b hb
  obtain ⟨i, hi, rfl⟩ := List.getElem_of_mem hb
  rw [List.length_take] at hi
  rw [List.getElem_take]
  exact cnt_dig l i (by omega) (by omega)
theorem cnt_step {l : List UInt8} {k : Nat} (h : k < l.length) (hk : k ≤ cnt l) (hd : isDg l[k] = true) : k + 1 ≤ cnt l := by
  by_cases e : cnt l = k
  · have := cnt_stop l (by omega)
    simp only [e, hd] at this
    simp at this
  · omega
theorem cnt_end {l : List UInt8} {k : Nat} (h : k < l.length) (hk : k ≤ cnt l) (hd : isDg l[k] = false) : cnt l = k := by
  by_cases e : cnt l = k
  · exact e
  · have := cnt_dig l k h (by omega)
    simp [hd] at this
theorem cnt_full {l : List UInt8} : cnt l = l.length ↔ allD l = true := by
  constructor
  · intro h
    have := cnt_all l (Nat.le_refl _)
    rwa [h, List.take_of_length_le (Nat.le_refl _)] at this
  · intro h
    have h1 := cnt_le l
    by_cases e : cnt l = l.length
    · exact e
    · have h2 := cnt_stop l (by omega)
      have h3 := allD_iff.1 h (l[cnt l]'(by omega)) (List.getElem_mem _)
      simp [h2] at h3
theorem cnt_app {a : List UInt8} (ha : allD a = true) {b : UInt8} (hb : isDg b = false) (r : List UInt8) : cnt (a ++ b :: r) = a.length := by
  induction a with
  | nil => simp [cnt, hb]
  | cons x a ih =>
    rw [allD_iff] at ha
    have hx := ha x (by simp)
    have := ih (allD_iff.2 fun y hy => ha y (by simp [hy]))
    simp [cnt, hx, this]

/-- Does a text begin with a number of one to six digits, and a sign behind it? -/
def okN (l : List UInt8) : Bool := decide (1 ≤ cnt l) && decide (cnt l ≤ 6) && decide (cnt l < l.length)
theorem okN_iff {l : List UInt8} : okN l = true ↔ 1 ≤ cnt l ∧ cnt l ≤ 6 ∧ cnt l < l.length := by unfold okN; simp [and_assoc]
/-- The number of a text's first part, its letter, and what stands behind. -/
def nxN (l : List UInt8) : Int := if okN l = true then dv (l.take (cnt l)) else 0
def nxC (l : List UInt8) : UInt8 := if okN l = true then l.getD (cnt l) 0 else 0
def nxR (l : List UInt8) : List UInt8 := if okN l = true then l.drop (cnt l + 1) else []
theorem nx_not {l : List UInt8} (h : okN l = false) : nxN l = 0 ∧ nxC l = 0 ∧ nxR l = [] := by simp [nxN, nxC, nxR, h]
theorem nx_ok {l : List UInt8} (h : okN l = true) : nxN l = dv (l.take (cnt l)) ∧ nxC l = l[cnt l]'(okN_iff.1 h).2.2 ∧ nxR l = l.drop (cnt l + 1) := by
  have := (okN_iff.1 h).2.2
  simp [nxN, nxC, nxR, h, List.getD_eq_getElem?_getD, List.getElem?_eq_getElem this]
theorem nxN_in (l : List UInt8) : 0 ≤ nxN l ∧ nxN l ≤ 999999 := by
  rcases h : okN l with _ | _
  · rw [(nx_not h).1]; omega
  · rw [(nx_ok h).1]
    have h2 := okN_iff.1 h
    exact dv_six (cnt_all l (Nat.le_refl _)) (by rw [List.length_take]; omega)
theorem nxC_ok {l : List UInt8} (h : nxC l ≠ 0) : okN l = true := by
  rcases e : okN l with _ | _
  · exact absurd (nx_not e).2.1 h
  · rfl
theorem nxR_len (l : List UInt8) : (nxR l).length ≤ l.length := by
  unfold nxR
  split <;> simp

/-- The number of a text's first part, if its letter is that one, and what stands behind; else 0 and the text. -/
def tkN (c : UInt8) (l : List UInt8) : Int := if nxC l = c then nxN l else 0
def tkR (c : UInt8) (l : List UInt8) : List UInt8 := if nxC l = c then nxR l else l
theorem tkN_in (c : UInt8) (l : List UInt8) : 0 ≤ tkN c l ∧ tkN c l ≤ 999999 := by
  unfold tkN
  split
  · exact nxN_in l
  · omega
theorem tk_yes {c : UInt8} {l : List UInt8} (h : nxC l = c) : tkN c l = nxN l ∧ tkR c l = nxR l := ⟨if_pos h, if_pos h⟩
theorem tk_not {c : UInt8} {l : List UInt8} (h : ¬ nxC l = c) : tkN c l = 0 ∧ tkR c l = l := ⟨if_neg h, if_neg h⟩

/-- A time, behind its T. -/
def hms (l : List UInt8) : Bool := nxC l == 72 || nxC l == 77 || nxC l == 83
def ck1 (l : List UInt8) : List UInt8 := tkR 72 l
def ck2 (l : List UInt8) : List UInt8 := tkR 77 (ck1 l)
def ck3 (l : List UInt8) : List UInt8 := tkR 83 (ck2 l)
def ckS (l : List UInt8) : Int := tkN 72 l * 3600 + tkN 77 (ck1 l) * 60 + tkN 83 (ck2 l)
def ckV (l : List UInt8) : Int := if hms l = true then ckS l else 0
def ckB (l : List UInt8) : Bool := hms l && (ck3 l).isEmpty
theorem ckS_in (l : List UInt8) : 0 ≤ ckS l ∧ ckS l ≤ 3700000000 := by
  have := tkN_in 72 l; have := tkN_in 77 (ck1 l); have := tkN_in 83 (ck2 l)
  unfold ckS; omega
theorem ckV_in (l : List UInt8) : 0 ≤ ckV l ∧ ckV l ≤ 3700000000 := by
  unfold ckV
  split
  · exact ckS_in l
  · omega
/-- Nothing of a time where no part is: all of the text is left. -/
theorem ck_none {l : List UInt8} (h : hms l = false) : ck3 l = l ∧ ckS l = 0 := by
  simp only [hms, Bool.or_eq_false_iff, beq_eq_false_iff_ne] at h
  obtain ⟨⟨h1, h2⟩, h3⟩ := h
  have e1 := tk_not h1; have e2 := tk_not h2; have e3 := tk_not h3
  have c1 : ck1 l = l := e1.2
  have c2 : ck2 l = l := by unfold ck2; rw [c1]; exact e2.2
  refine ⟨by unfold ck3; rw [c2]; exact e3.2, ?_⟩
  unfold ckS
  rw [c1, c2, e1.1, e2.1, e3.1]
  rfl
theorem hms_nil : hms [] = false := by decide
/-- A time with its T: its seconds; -1: it is none. -/
def isT (l : List UInt8) : Bool := l.head? == some 84
def tmA (l : List UInt8) : Int := if isT l = true ∧ ckB l.tail = true then ckS l.tail else -1

/-- What stands behind a P: has it a form, and its seconds. -/
def leB (l : List UInt8) : Bool :=
  if nxC l = 87 then (nxR l).isEmpty
  else if nxC l = 68 ∧ (nxR l).isEmpty = true then true
  else isT (tkR 68 l) && ckB (tkR 68 l).tail
def leV (l : List UInt8) : Int :=
  if nxC l = 87 then nxN l * 604800
  else if nxC l = 68 ∧ (nxR l).isEmpty = true then nxN l * 86400
  else if isT (tkR 68 l) = true then tkN 68 l * 86400 + ckV (tkR 68 l).tail else 0
theorem leV_in (l : List UInt8) : 0 ≤ leV l ∧ leV l ≤ 700000000000 := by
  have := nxN_in l; have := tkN_in 68 l; have := ckV_in (tkR 68 l).tail
  unfold leV
  split
  · omega
  · split
    · omega
    · split <;> omega
/-- The document's answer: -1 if it has no form. -/
def loA (l : List UInt8) : Int := if leB l = true then leV l else -1
theorem ckV_of {l : List UInt8} (h : ckB l = true) : ckV l = ckS l := by
  unfold ckB at h
  unfold ckV
  rw [if_pos (by simp at h; exact h.1)]
theorem tmA_ge (l : List UInt8) : -1 ≤ tmA l ∧ tmA l ≤ 3700000000 := by
  have := ckS_in l.tail
  unfold tmA
  split <;> omega
theorem tmA_neg {l : List UInt8} : tmA l < 0 ↔ ¬ (isT l = true ∧ ckB l.tail = true) := by
  have := ckS_in l.tail
  unfold tmA
  split
  · rename_i h; simp only [h, and_self, not_true_eq_false, iff_false]; omega
  · rename_i h; simp only [h, not_false_iff, iff_true]; omega
theorem le_a {l : List UInt8} (h : nxC l = 87) : leB l = (nxR l).isEmpty ∧ leV l = nxN l * 604800 := ⟨if_pos h, if_pos h⟩
theorem le_b {l : List UInt8} (h : nxC l = 68) (hr : nxR l = []) : leB l = true ∧ leV l = nxN l * 86400 := by
  have n : ¬ nxC l = 87 := by rw [h]; decide
  have c : nxC l = 68 ∧ (nxR l).isEmpty = true := ⟨h, by simp [hr]⟩
  unfold leB leV
  rw [if_neg n, if_neg n, if_pos c, if_pos c]
  exact ⟨rfl, rfl⟩
theorem le_c {l : List UInt8} (n : ¬ nxC l = 87) (c : ¬ (nxC l = 68 ∧ nxR l = [])) : leB l = (isT (tkR 68 l) && ckB (tkR 68 l).tail) ∧ leV l = if isT (tkR 68 l) = true then tkN 68 l * 86400 + ckV (tkR 68 l).tail else 0 := by
  have c : ¬ (nxC l = 68 ∧ (nxR l).isEmpty = true) := by simpa using c
  unfold leB leV
  rw [if_neg n, if_neg n, if_neg c, if_neg c]
  exact ⟨rfl, rfl⟩
theorem lo_week {l : List UInt8} (h : nxC l = 87) : loA l = if nxR l = [] then nxN l * 604800 else -1 := by
  unfold loA
  rw [(le_a h).1, (le_a h).2]
  simp
theorem tm_cases (l : List UInt8) (n : Int) (_h : 0 ≤ n) : (if (isT l && ckB l.tail) = true then (if isT l = true then n + ckV l.tail else 0) else -1) = if tmA l < 0 then -1 else n + tmA l := by
  by_cases ht : isT l = true ∧ ckB l.tail = true
  · rw [if_pos (by simp [ht.1, ht.2]), if_pos ht.1, if_neg (by rw [tmA_neg]; exact fun hx => hx ht), ckV_of ht.2]
    unfold tmA
    rw [if_pos ht]
  · rw [if_neg (by simpa using ht), if_pos (tmA_neg.2 ht)]
theorem lo_day {l : List UInt8} (h : nxC l = 68) : loA l = if nxR l = [] then nxN l * 86400 else if tmA (nxR l) < 0 then -1 else nxN l * 86400 + tmA (nxR l) := by
  have e := tk_yes h
  by_cases hr : nxR l = []
  · unfold loA
    rw [(le_b h hr).1, (le_b h hr).2, if_pos hr]
    rfl
  · have := le_c (l := l) (by rw [h]; decide) (fun c => hr c.2)
    unfold loA
    rw [this.1, this.2, if_neg hr, e.1, e.2]
    exact tm_cases _ _ (by have := nxN_in l; omega)
theorem lo_time {l : List UInt8} (h1 : ¬ nxC l = 87) (h2 : ¬ nxC l = 68) : loA l = tmA l := by
  have e := tk_not h2
  have := le_c (l := l) h1 (fun c => h2 c.1)
  unfold loA
  rw [this.1, this.2, e.1, e.2]
  have := tm_cases l (0 * 86400) (by omega)
  rw [this]
  have := tmA_ge l
  split <;> omega
theorem lo_neg {l : List UInt8} : loA l < 0 ↔ leB l = false := by
  have := leV_in l
  unfold loA
  rcases h : leB l with _ | _
  · simp
  · simp; omega
theorem lo_ok {l : List UInt8} (h : leB l = true) : loA l = leV l := if_pos h

/-- A text's sign, and what stands behind it. -/
def sgV (l : List UInt8) : Int := if l.head? = some 45 then -1 else 1
def sgR (l : List UInt8) : List UInt8 := if l.head? = some 45 ∨ l.head? = some 43 then l.tail else l
theorem sgV_in (l : List UInt8) : sgV l = 1 ∨ sgV l = -1 := by
  unfold sgV
  split
  · exact Or.inr rfl
  · exact Or.inl rfl

def maxS : Int := 86399913600
/-- Parse: is there a P, and what stands behind it; the error; the span. -/
def isP (l : List UInt8) : Bool := (sgR l).head? == some 80
def bdy (l : List UInt8) : List UInt8 := (sgR l).tail
def paE (l : List UInt8) : Int := if isP l = true ∧ leB (bdy l) = true then (if leV (bdy l) ≤ maxS then 0 else 8) else 4
def paV (l : List UInt8) : Int := if paE l = 0 then sgV l * leV (bdy l) else 0
theorem paV_not {l : List UInt8} (h : paE l ≠ 0) : paV l = 0 := if_neg h
theorem pa_p {l : List UInt8} (h : isP l = false) : paE l = 4 := by unfold paE; rw [if_neg (by simp [h])]
theorem pa_form {l : List UInt8} (h : leB (bdy l) = false) : paE l = 4 := by unfold paE; rw [if_neg (by simp [h])]
theorem pa_range {l : List UInt8} (h1 : isP l = true) (h2 : leB (bdy l) = true) (h3 : ¬ leV (bdy l) ≤ maxS) : paE l = 8 := by unfold paE; rw [if_pos ⟨h1, h2⟩, if_neg h3]
theorem pa_ok {l : List UInt8} (h1 : isP l = true) (h2 : leB (bdy l) = true) (h3 : leV (bdy l) ≤ maxS) : paE l = 0 ∧ paV l = sgV l * leV (bdy l) := by
  have e : paE l = 0 := by unfold paE; rw [if_pos ⟨h1, h2⟩, if_pos h3]
  exact ⟨e, if_pos e⟩
theorem paE_in (l : List UInt8) : paE l = 0 ∨ paE l = 4 ∨ paE l = 8 := by
  unfold paE
  split
  · split
    · exact Or.inl rfl
    · exact Or.inr (Or.inr rfl)
  · exact Or.inr (Or.inl rfl)
theorem paV_in (l : List UInt8) : -maxS ≤ paV l ∧ paV l ≤ maxS := by
  by_cases h : paE l = 0
  · unfold paV
    rw [if_pos h]
    unfold paE at h
    split at h
    · split at h
      · rename_i h2
        have := leV_in (bdy l)
        rcases sgV_in l with e | e <;> rw [e] <;> omega
      · simp at h
    · simp at h
  · rw [paV_not h]; decide

/-- A number's digits, as a text; a number and its letter, or nothing of 0. -/
def dec (n : Int) : List UInt8 := Go.Lib.decDigits n.toNat
def pt (n : Int) (c : UInt8) : List UInt8 := if n = 0 then [] else dec n ++ [c]
/-- A time of day's text, and a length's. -/
def tmL (r : Int) : List UInt8 := if r = 0 then [] else 84 :: (pt (r / 3600) 72 ++ pt (r % 3600 / 60) 77 ++ pt (r % 60) 83)
def bdL (m : Int) : List UInt8 := if m % 604800 = 0 then dec (m / 604800) ++ [87] else pt (m / 86400) 68 ++ tmL (m % 86400)
def prT (n : Int) : List UInt8 := if n = 0 then [80, 84, 48, 83] else if n < 0 then 45 :: 80 :: bdL (-n) else 80 :: bdL n
def spI (n : Int) : Bool := decide (-maxS ≤ n) && decide (n ≤ maxS)
theorem spI_iff {n : Int} : spI n = true ↔ -maxS ≤ n ∧ n ≤ maxS := by unfold spI; simp
theorem spI_no {n : Int} : spI n = false ↔ ¬ (-maxS ≤ n ∧ n ≤ maxS) := by rw [← spI_iff]; simp
def prE (n : Int) : Int := if spI n = true then 0 else 8
def prL (n : Int) : List UInt8 := if spI n = true then prT n else []

def maxN : Int := 315537897599
def scI (n : Int) : Bool := decide (0 ≤ n) && decide (n ≤ maxN)
theorem scI_iff {n : Int} : scI n = true ↔ 0 ≤ n ∧ n ≤ maxN := by unfold scI; simp
theorem scI_no {n : Int} : scI n = false ↔ ¬ (0 ≤ n ∧ n ≤ maxN) := by rw [← scI_iff]; simp
def adB (s n : Int) : Bool := scI s && spI n && scI (s + n)
def adE (s n : Int) : Int := if adB s n = true then 0 else 8
def adV (s n : Int) : Int := if adB s n = true then s + n else 0

/-- A number's last digit; two digits. -/
def dgt (n : Int) : UInt8 := UInt8.ofNat (48 + (n % 10).toNat)
theorem dgt_nat (n : Int) : ((dgt n).toNat : Int) = 48 + n % 10 := by
  have h1 := Int.emod_nonneg n (show (10 : Int) ≠ 0 by omega)
  have h2 := Int.emod_lt_of_pos n (show (0 : Int) < 10 by omega)
  unfold dgt
  rw [UInt8.toNat_ofNat']
  omega
theorem dgt_dig (n : Int) : isDg (dgt n) = true := by rw [isDg_iff]; have := dgt_nat n; omega
def two (n : Int) : List UInt8 := [dgt (n / 10), dgt n]
theorem two_all (n : Int) : allD (two n) = true := by simp [allD, two, dgt_dig]
theorem dv_of_two {n : Int} (h0 : 0 ≤ n) (h1 : n < 100) : dv (two n) = n := by
  have := dgt_nat n; have := dgt_nat (n / 10); unfold two; rw [dv_two]; omega

/-- An offset's text: its form, its numbers, its error, the offset. -/
def ofF (l : List UInt8) : Bool := (decide (l.length = 5) || decide (l.length = 7)) && (decide (l.head? = some 45) || decide (l.head? = some 43)) && allD l.tail
def ofH (l : List UInt8) : Int := dv ((l.drop 1).take 2)
def ofM (l : List UInt8) : Int := dv ((l.drop 3).take 2)
def ofS (l : List UInt8) : Int := if l.length = 7 then dv ((l.drop 5).take 2) else 0
def ofN (l : List UInt8) : Int := ofH l * 3600 + ofM l * 60 + ofS l
def ofR (l : List UInt8) : Bool := decide (23 < ofH l) || decide (59 < ofM l) || decide (59 < ofS l) || (decide (l.head? = some 45) && decide (ofN l = 0))
def ofE (l : List UInt8) : Int := if ofF l = true then (if ofR l = true then 8 else 0) else 4
def ofV (l : List UInt8) : Int := if ofE l = 0 then sgV l * ofN l else 0
theorem ofF_iff {l : List UInt8} : ofF l = true ↔ (l.length = 5 ∨ l.length = 7) ∧ (l.head? = some 45 ∨ l.head? = some 43) ∧ allD l.tail = true := by unfold ofF; simp [and_assoc]
theorem ofV_not {l : List UInt8} (h : ofE l ≠ 0) : ofV l = 0 := if_neg h
theorem of_form {l : List UInt8} (h : ofF l = false) : ofE l = 4 := by unfold ofE; rw [if_neg (by simp [h])]
theorem of_range {l : List UInt8} (h : ofF l = true) (h2 : ofR l = true) : ofE l = 8 := by unfold ofE; rw [if_pos h, if_pos h2]
theorem of_ok {l : List UInt8} (h : ofF l = true) (h2 : ofR l = false) : ofE l = 0 ∧ ofV l = sgV l * ofN l := by
  have e : ofE l = 0 := by unfold ofE; rw [if_pos h, if_neg (by simp [h2])]
  exact ⟨e, if_pos e⟩
theorem of_in {l : List UInt8} (h : ofF l = true) : 0 ≤ ofH l ∧ ofH l ≤ 99 ∧ 0 ≤ ofM l ∧ ofM l ≤ 99 ∧ 0 ≤ ofS l ∧ ofS l ≤ 99 := by
  obtain ⟨-, -, h3⟩ := ofF_iff.1 h
  have a := fun k => dv_pair (all_take (all_drop h3 k) 2) (by rw [List.length_take]; omega)
  have e : ∀ k, (l.drop (k + 1)) = l.tail.drop k := fun k => by cases l <;> simp
  have := a 0; have := a 2; have := a 4
  unfold ofH ofM ofS
  rw [e 0, e 2, e 4]
  refine ⟨by omega, by omega, by omega, by omega, ?_, ?_⟩ <;> split <;> omega

/-- PrintOffset. -/
def poI (n : Int) : Bool := decide (-86399 ≤ n) && decide (n ≤ 86399)
theorem poI_iff {n : Int} : poI n = true ↔ -86399 ≤ n ∧ n ≤ 86399 := by unfold poI; simp
def poB (m : Int) : List UInt8 := two (m / 3600) ++ two (m % 3600 / 60) ++ (if m % 60 = 0 then [] else two (m % 60))
def poT (n : Int) : List UInt8 := if n < 0 then 45 :: poB (-n) else 43 :: poB n
def poE (n : Int) : Int := if poI n = true then 0 else 8
def poL (n : Int) : List UInt8 := if poI n = true then poT n else []
end Go.Proofs.YtmbbjpfhdijmbaaDoor.Spn
