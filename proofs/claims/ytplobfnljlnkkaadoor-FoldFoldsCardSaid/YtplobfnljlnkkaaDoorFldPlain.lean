/- Rows of a text, lines that go on, and texts in rows of at most 75 bytes: plain facts. -/
import Derived.Test.YtplobfnljlnkkaaDoorUtfPlain
set_option linter.unusedVariables false
namespace Go.Proofs.YtplobfnljlnkkaaDoor.Fld
open Go.Proofs.YtplobfnljlnkkaaDoor.Utf

/-- How many bytes stand ahead of the first CR or LF. -/
def eol : List UInt8 → Nat
  | [] => 0
  | b :: t => if b.toNat = 10 ∨ b.toNat = 13 then 0 else 1 + eol t
theorem eol_le : ∀ l : List UInt8, eol l ≤ l.length
  | [] => Nat.le_refl _
  | b :: t => by
    have := eol_le t
    unfold eol
    split
    · simp
    · simp only [List.length_cons]; omega
/-- A row that begins at a place: where it ends, where the next one begins, whether a CR stands alone. -/
def rowE (L : List UInt8) (p : Nat) : Nat := p + eol (L.drop p)
def rowN (L : List UInt8) (p : Nat) : Nat := if rowE L p = L.length then rowE L p else if at_ L (rowE L p) = 10 then rowE L p + 1 else if rowE L p + 1 < L.length ∧ at_ L (rowE L p + 1) = 10 then rowE L p + 2 else rowE L p
def rowB (L : List UInt8) (p : Nat) : Bool := decide (rowE L p ≠ L.length ∧ at_ L (rowE L p) ≠ 10 ∧ ¬ (rowE L p + 1 < L.length ∧ at_ L (rowE L p + 1) = 10))
theorem rowE_le (L : List UInt8) (p : Nat) (h : p ≤ L.length) : p ≤ rowE L p ∧ rowE L p ≤ L.length := by
  have := eol_le (L.drop p)
  rw [List.length_drop] at this
  unfold rowE
  omega
theorem rowN_lt (L : List UInt8) (p : Nat) (h : p < L.length) (hb : rowB L p = false) : p < rowN L p ∧ rowN L p ≤ L.length ∧ rowE L p ≤ rowN L p := by
  have h1 := rowE_le L p (by omega)
  have hb' := of_decide_eq_false hb
  unfold rowN
  split
  · omega
  · split
    · omega
    · split
      · omega
      · exfalso; exact hb' ⟨by assumption, by assumption, by assumption⟩
/-- Does the row at a place go on? -/
def gos (L : List UInt8) (p : Nat) : Bool := decide (at_ L p = 32 ∨ at_ L p = 9)
/-- Bytes from one place to another. -/
def sub (L : List UInt8) (i j : Nat) : List UInt8 := (L.drop i).take (j - i)
/-- A line, and where its pieces stand. -/
structure PL where
  t : List UInt8
  ps : List (Int × Int)
/-- A piece more for the last line. -/
def addL (acc : List PL) (x : List UInt8) (p : Int) : List PL := match acc.getLast? with | none => [] | some l => acc.dropLast ++ [⟨l.t ++ x, l.ps ++ [((l.t.length : Int), p)]⟩]
theorem addL_last (init : List PL) (l : PL) (x : List UInt8) (p : Int) : addL (init ++ [l]) x p = init ++ [⟨l.t ++ x, l.ps ++ [((l.t.length : Int), p)]⟩] := by
  unfold addL
  simp
/-- The lines of a text from a place on, behind those that there are; an error, and its place. -/
def unf (L : List UInt8) (p : Nat) (acc : List PL) : List PL × Int × Int :=
  if h : p < L.length then
    if gos L p = true then
      if p = 0 then ([], 4, 0)
      else if hb : rowB L p = true then ([], 4, (rowE L p : Int))
      else unf L (rowN L p) (addL acc (sub L (p + 1) (rowE L p)) (p + 1))
    else if hb : rowB L p = true then ([], 4, (rowE L p : Int))
    else unf L (rowN L p) (acc ++ [⟨sub L p (rowE L p), [(0, (p : Int))]⟩])
  else (acc, 0, 0)
termination_by L.length - p
decreasing_by
  · have := rowN_lt L p h (by simpa using hb); omega
  · have := rowN_lt L p h (by simpa using hb); omega
theorem unf_end {L : List UInt8} {p : Nat} (h : ¬ p < L.length) (acc : List PL) : unf L p acc = (acc, 0, 0) := by rw [unf, dif_neg h]
theorem unf_first {L : List UInt8} (h : 0 < L.length) (hg : gos L 0 = true) (acc : List PL) : unf L 0 acc = ([], 4, 0) := by rw [unf, dif_pos h, if_pos hg, if_pos rfl]
theorem unf_bad {L : List UInt8} {p : Nat} (h : p < L.length) (hg : gos L p = false ∨ p ≠ 0) (hb : rowB L p = true) (acc : List PL) : unf L p acc = ([], 4, (rowE L p : Int)) := by
  rw [unf, dif_pos h]
  by_cases g : gos L p = true
  · rw [if_pos g, if_neg (by rcases hg with hg | hg; rw [g] at hg; cases hg; exact hg), dif_pos hb]
  · rw [if_neg g, dif_pos hb]
theorem unf_on {L : List UInt8} {p : Nat} (h : p < L.length) (hg : gos L p = true) (h0 : p ≠ 0) (hb : rowB L p = false) (acc : List PL) : unf L p acc = unf L (rowN L p) (addL acc (sub L (p + 1) (rowE L p)) (p + 1)) := by
  rw [unf, dif_pos h, if_pos hg, if_neg h0, dif_neg (by rw [hb]; decide)]
theorem unf_new {L : List UInt8} {p : Nat} (h : p < L.length) (hg : gos L p = false) (hb : rowB L p = false) (acc : List PL) : unf L p acc = unf L (rowN L p) (acc ++ [⟨sub L p (rowE L p), [(0, (p : Int))]⟩]) := by
  rw [unf, dif_pos h, if_neg (by rw [hg]; decide), dif_neg (by rw [hb]; decide)]
/-- What Unfold answers. -/
def unfR (L : List UInt8) : List PL × Int × Int := if 6000 < L.length then ([], 5, 6000) else unf L 0 []

/-- Where a line's byte stands: by the last piece that does not begin behind it. -/
def plc (ps : List (Int × Int)) (i : Int) : Int := match ps.reverse.find? (fun p => decide (p.1 ≤ i)) with | some p => p.2 + (i - p.1) | none => 0
theorem plc_nil (i : Int) : plc [] i = 0 := rfl
theorem plc_snoc (ps : List (Int × Int)) (p : Int × Int) (i : Int) : plc (ps ++ [p]) i = if p.1 ≤ i then p.2 + (i - p.1) else plc ps i := by
  unfold plc
  rw [List.reverse_append, List.reverse_cons, List.reverse_nil, List.nil_append, List.singleton_append, List.find?_cons]
  by_cases h : p.1 ≤ i
  · rw [if_pos h, decide_eq_true h]
  · rw [if_neg h, decide_eq_false h]
/-- What Place answers. -/
def plcR (l : PL) (i : Int) : Int := plc l.ps (max 0 (min (l.t.length : Int) i))

/-- The rows behind the first one. -/
theorem cut_pos {t : List UInt8} (h : t ≠ []) {n : Int} (hn : 4 ≤ n) : 1 ≤ cutN n t := by
  have := wd_le t h
  rw [cutN_on h (by omega)]
  omega
def foldR (t : List UInt8) : List UInt8 := if h : t = [] then [] else 32 :: (t.take (cutN 74 t) ++ 13 :: 10 :: foldR (t.drop (cutN 74 t)))
termination_by t.length
decreasing_by have := cut_pos h (n := 74) (by omega); have := List.length_pos_iff.2 h; rw [List.length_drop]; omega
theorem foldR_nil : foldR [] = [] := by rw [foldR, dif_pos rfl]
theorem foldR_on {t : List UInt8} (h : t ≠ []) : foldR t = 32 :: (t.take (cutN 74 t) ++ 13 :: 10 :: foldR (t.drop (cutN 74 t))) := by rw [foldR, dif_neg h]
/-- A text in rows. -/
def foldL (t : List UInt8) : List UInt8 := t.take (cutN 75 t) ++ 13 :: 10 :: foldR (t.drop (cutN 75 t))
/-- Texts in rows, one behind the other. -/
def joinL (ts : List (List UInt8)) : List UInt8 := (ts.map foldL).flatten

/-- Induction over the rows behind the first one. -/
theorem rowed {M : List UInt8 → Prop} (h0 : M []) (h1 : ∀ t, t ≠ [] → M (t.drop (cutN 74 t)) → M t) : ∀ t, M t := by
  have : ∀ (n : Nat) (l : List UInt8), l.length ≤ n → M l := by
    intro n
    induction n with
    | zero =>
      intro l hl
      have e : l = [] := List.eq_nil_of_length_eq_zero (by omega)
      subst e; exact h0
    | succ n ih =>
      intro l hl
      by_cases h : l = []
      · rw [h]; exact h0
      · exact h1 l h (ih _ (by have := cut_pos h (n := 74) (by omega); have := List.length_pos_iff.2 h; rw [List.length_drop]; omega))
  exact fun l => this l.length l (Nat.le_refl _)
theorem foldR_len : ∀ t : List UInt8, (foldR t).length ≤ t.length + 3 * (t.length / 71 + 1) := by
  refine rowed (by rw [foldR_nil]; simp) (fun t h ih => ?_)
  have hc := (cutN_le t 74).1
  have hn := cutN_near t 74 (by omega)
  have ha := cutN_all t 74
  rw [foldR_on h]
  rw [List.length_drop] at ih
  simp only [List.length_cons, List.length_append, List.length_take]
  generalize cutN 74 t = k at *
  rw [Nat.min_eq_left hc]
  by_cases hl : t.length ≤ 74
  · have hk := ha (by omega)
    have hd : (foldR (t.drop k)).length = 0 := by rw [hk, List.drop_length, foldR_nil]; rfl
    omega
  · generalize (foldR (List.drop k t)).length = m at *
    omega
theorem foldL_len (t : List UInt8) : (foldL t).length ≤ t.length + 5 + 3 * (t.length / 71) := by
  have h := foldR_len (t.drop (cutN 75 t))
  have hc := cutN_le t 75
  unfold foldL
  rw [List.length_drop] at h
  simp only [List.length_append, List.length_cons, List.length_take]
  omega
theorem joinL_len : ∀ (ts : List (List UInt8)), (∀ t ∈ ts, t.length ≤ 400) → (joinL ts).length ≤ ts.length * 425
  | [], _ => by simp [joinL]
  | t :: ts, h => by
    have h1 := foldL_len t
    have h2 := h t (by simp)
    have h3 := joinL_len ts (fun x hx => h x (by simp [hx]))
    unfold joinL at *
    simp only [List.map_cons, List.flatten_cons, List.length_append, List.length_cons]
    omega
end Go.Proofs.YtplobfnljlnkkaaDoor.Fld
