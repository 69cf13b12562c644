/- Texts that are escaped, joined, split: plain facts. -/
import Derived.Test.YtmgobcekhgljeaaDoorUtfPlain
set_option linter.unusedVariables false
namespace Go.Proofs.YtmgobcekhgljeaaDoor.Esc
open Go.Proofs.YtmgobcekhgljeaaDoor.Utf

/-- A byte, escaped; a text. -/
def escB (b : UInt8) : List UInt8 := if b.toNat = 10 then [92, 110] else if b.toNat = 92 ∨ b.toNat = 59 ∨ b.toNat = 44 then [92, b] else [b]
def esc (L : List UInt8) : List UInt8 := L.flatMap escB
theorem esc_nil : esc [] = [] := rfl
theorem esc_cons (c : UInt8) (t : List UInt8) : esc (c :: t) = escB c ++ esc t := rfl
theorem esc_app (a b : List UInt8) : esc (a ++ b) = esc a ++ esc b := by unfold esc; rw [List.flatMap_append]
theorem escB_len (b : UInt8) : 1 ≤ (escB b).length ∧ (escB b).length ≤ 2 := by
  unfold escB
  split
  · exact ⟨by decide, by decide⟩
  · split
    · exact ⟨by show 1 ≤ 2; decide, by show 2 ≤ 2; decide⟩
    · exact ⟨by show 1 ≤ 1; decide, by show 1 ≤ 2; decide⟩
theorem esc_len : ∀ L : List UInt8, L.length ≤ (esc L).length ∧ (esc L).length ≤ 2 * L.length
  | [] => ⟨Nat.le_refl _, Nat.le_refl _⟩
  | c :: t => by
    have h1 := escB_len c
    have h2 := esc_len t
    rw [esc_cons, List.length_append, List.length_cons]
    omega
/-- Texts, escaped, with a comma between each two. -/
def joinE : List (List UInt8) → List UInt8
  | [] => []
  | [x] => esc x
  | x :: y :: t => esc x ++ 44 :: joinE (y :: t)
theorem joinE_snoc : ∀ (ls : List (List UInt8)) (x : List UInt8), joinE (ls ++ [x]) = if ls = [] then esc x else joinE ls ++ 44 :: esc x
  | [], x => rfl
  | [y], x => rfl
  | y :: z :: t, x => by
    have ih := joinE_snoc (z :: t) x
    rw [if_neg (by simp)] at ih ⊢
    show esc y ++ 44 :: joinE (z :: (t ++ [x])) = (esc y ++ 44 :: joinE (z :: t)) ++ 44 :: esc x
    rw [show z :: (t ++ [x]) = z :: t ++ [x] from rfl, ih]
    simp
theorem joinE_len : ∀ (ls : List (List UInt8)), (∀ x ∈ ls, x.length ≤ 100) → (joinE ls).length ≤ ls.length * 201
  | [], _ => Nat.le_refl _
  | [x], h => by
    have h1 := (esc_len x).2
    have h2 := h x (by simp)
    show (esc x).length ≤ 1 * 201
    omega
  | x :: y :: t, h => by
    have h1 := (esc_len x).2
    have h2 := h x (by simp)
    have h3 := joinE_len (y :: t) (fun z hz => h z (by simp [hz]))
    show (esc x ++ 44 :: joinE (y :: t)).length ≤ _
    rw [List.length_append, List.length_cons]
    rw [List.length_cons (a := x)]
    omega

/-- What a byte behind a backslash stands for. -/
def tl (d : UInt8) : Option UInt8 := if d.toNat = 110 ∨ d.toNat = 78 then some 10 else if d.toNat = 92 ∨ d.toNat = 59 ∨ d.toNat = 44 then some d else none
/-- The parts of a value, an error, and its place. -/
def spl (L : List UInt8) (p : Int) (b : List UInt8) (out : List (List UInt8)) : List (List UInt8) × Int × Int :=
  match L with
  | [] => (out ++ [b], 0, 0)
  | c :: t => if c.toNat = 44 then spl t (p + 1) [] (out ++ [b]) else if c.toNat = 59 then ([], 4, p) else if c.toNat = 92 then (if h : t = [] then ([], 4, p) else match tl (t.head h) with | some x => spl t.tail (p + 2) (b ++ [x]) out | none => ([], 4, p)) else spl t (p + 1) (b ++ [c]) out
termination_by L.length
decreasing_by all_goals (simp; try omega)
theorem spl_nil (p : Int) (b : List UInt8) (out : List (List UInt8)) : spl [] p b out = (out ++ [b], 0, 0) := by rw [spl]
theorem spl_comma {c : UInt8} (h : c.toNat = 44) (t : List UInt8) (p : Int) (b : List UInt8) (out : List (List UInt8)) : spl (c :: t) p b out = spl t (p + 1) [] (out ++ [b]) := by rw [spl, if_pos h]
theorem spl_semi {c : UInt8} (h : c.toNat = 59) (t : List UInt8) (p : Int) (b : List UInt8) (out : List (List UInt8)) : spl (c :: t) p b out = ([], 4, p) := by rw [spl, if_neg (by omega), if_pos h]
theorem spl_end {c : UInt8} (h : c.toNat = 92) (p : Int) (b : List UInt8) (out : List (List UInt8)) : spl [c] p b out = ([], 4, p) := by rw [spl, if_neg (by omega), if_neg (by omega), if_pos h, dif_pos rfl]
theorem spl_told {c d x : UInt8} (h : c.toNat = 92) (hd : tl d = some x) (t : List UInt8) (p : Int) (b : List UInt8) (out : List (List UInt8)) : spl (c :: d :: t) p b out = spl t (p + 2) (b ++ [x]) out := by
  rw [spl, if_neg (by omega), if_neg (by omega), if_pos h, dif_neg (by simp), List.head_cons, hd, List.tail_cons]
theorem spl_bad {c d : UInt8} (h : c.toNat = 92) (hd : tl d = none) (t : List UInt8) (p : Int) (b : List UInt8) (out : List (List UInt8)) : spl (c :: d :: t) p b out = ([], 4, p) := by
  rw [spl, if_neg (by omega), if_neg (by omega), if_pos h, dif_neg (by simp), List.head_cons, hd]
theorem spl_byte {c : UInt8} (h : c.toNat ≠ 44 ∧ c.toNat ≠ 59 ∧ c.toNat ≠ 92) (t : List UInt8) (p : Int) (b : List UInt8) (out : List (List UInt8)) : spl (c :: t) p b out = spl t (p + 1) (b ++ [c]) out := by
  rw [spl, if_neg h.1, if_neg h.2.1, if_neg h.2.2]
/-- What a value tells, an error, and its place. -/
def une (L : List UInt8) (p : Int) (b : List UInt8) : List UInt8 × Int × Int :=
  match L with
  | [] => (b, 0, 0)
  | c :: t => if c.toNat = 44 ∨ c.toNat = 59 then ([], 4, p) else if c.toNat = 92 then (if h : t = [] then ([], 4, p) else match tl (t.head h) with | some x => une t.tail (p + 2) (b ++ [x]) | none => ([], 4, p)) else une t (p + 1) (b ++ [c])
termination_by L.length
decreasing_by all_goals (simp; try omega)
theorem une_nil (p : Int) (b : List UInt8) : une [] p b = (b, 0, 0) := by rw [une]
theorem une_stop {c : UInt8} (h : c.toNat = 44 ∨ c.toNat = 59) (t : List UInt8) (p : Int) (b : List UInt8) : une (c :: t) p b = ([], 4, p) := by rw [une, if_pos h]
theorem une_end {c : UInt8} (h : c.toNat = 92) (p : Int) (b : List UInt8) : une [c] p b = ([], 4, p) := by rw [une, if_neg (by omega), if_pos h, dif_pos rfl]
theorem une_told {c d x : UInt8} (h : c.toNat = 92) (hd : tl d = some x) (t : List UInt8) (p : Int) (b : List UInt8) : une (c :: d :: t) p b = une t (p + 2) (b ++ [x]) := by
  rw [une, if_neg (by omega), if_pos h, dif_neg (by simp), List.head_cons, hd, List.tail_cons]
theorem une_bad {c d : UInt8} (h : c.toNat = 92) (hd : tl d = none) (t : List UInt8) (p : Int) (b : List UInt8) : une (c :: d :: t) p b = ([], 4, p) := by
  rw [une, if_neg (by omega), if_pos h, dif_neg (by simp), List.head_cons, hd]
theorem une_byte {c : UInt8} (h : c.toNat ≠ 44 ∧ c.toNat ≠ 59 ∧ c.toNat ≠ 92) (t : List UInt8) (p : Int) (b : List UInt8) : une (c :: t) p b = une t (p + 1) (b ++ [c]) := by
  rw [une, if_neg (by omega), if_neg h.2.2]
/-- Where the first comma without a backslash of its own stands; the length, if there is none. -/
def cm (L : List UInt8) : Nat :=
  match L with
  | [] => 0
  | c :: t => if c.toNat = 92 then (if t = [] then 1 else 2 + cm t.tail) else if c.toNat = 44 then 0 else 1 + cm t
termination_by L.length
decreasing_by all_goals (simp; try omega)
theorem cm_nil : cm [] = 0 := by rw [cm]
theorem cm_end {c : UInt8} (h : c.toNat = 92) : cm [c] = 1 := by rw [cm, if_pos h, if_pos rfl]
theorem cm_pair {c : UInt8} (h : c.toNat = 92) (d : UInt8) (t : List UInt8) : cm (c :: d :: t) = 2 + cm t := by rw [cm, if_pos h, if_neg (by simp), List.tail_cons]
theorem cm_comma {c : UInt8} (h : c.toNat = 44) (t : List UInt8) : cm (c :: t) = 0 := by rw [cm, if_neg (by omega), if_pos h]
theorem cm_byte {c : UInt8} (h : c.toNat ≠ 92 ∧ c.toNat ≠ 44) (t : List UInt8) : cm (c :: t) = 1 + cm t := by rw [cm, if_neg h.1, if_neg h.2]
/-- Induction: a byte, or two, at a time. -/
theorem bytes2 {M : List UInt8 → Prop} (h0 : M []) (h1 : ∀ c t, M t → M t.tail → M (c :: t)) : ∀ L, M L := by
  have : ∀ (n : Nat) (l : List UInt8), l.length ≤ n → M l := by
    intro n
    induction n with
    | zero =>
      intro l hl
      have e : l = [] := List.eq_nil_of_length_eq_zero (by omega)
      subst e; exact h0
    | succ n ih =>
      intro l hl
      cases l with
      | nil => exact h0
      | cons c t =>
        rw [List.length_cons] at hl
        exact h1 c t (ih t (by omega)) (ih t.tail (by rw [List.length_tail]; omega))
  exact fun l => this l.length l (Nat.le_refl _)
theorem cm_le : ∀ L : List UInt8, cm L ≤ L.length := by
  refine bytes2 (by rw [cm_nil]; exact Nat.le_refl _) (fun c t h1 h2 => ?_)
  by_cases a : c.toNat = 92
  · cases t with
    | nil => rw [cm_end a]; exact Nat.le_refl _
    | cons d t => rw [cm_pair a]; rw [List.tail_cons] at h2; simp only [List.length_cons]; omega
  · by_cases b : c.toNat = 44
    · rw [cm_comma b]; exact Nat.zero_le _
    · rw [cm_byte ⟨a, b⟩, List.length_cons]; omega
/-- The parts of what stands ahead of the first such comma tell what the value tells. -/
theorem une_spl : ∀ (L : List UInt8) (p : Int) (b : List UInt8), une L p b = (if (spl (L.take (cm L)) p b []).2.1 ≠ 0 then ([], (spl (L.take (cm L)) p b []).2.1, (spl (L.take (cm L)) p b []).2.2) else if cm L < L.length then ([], 4, p + cm L) else ((spl (L.take (cm L)) p b []).1.headD [], 0, 0)) := by
  refine bytes2 (M := fun L => ∀ p b, une L p b = _) (fun p b => ?_) (fun c t h1 h2 p b => ?_)
  · rw [cm_nil, List.take_zero, spl_nil, une_nil, if_neg (by simp), if_neg (by simp)]
    rfl
  · by_cases a : c.toNat = 92
    · cases t with
      | nil => rw [cm_end a, show [c].take 1 = [c] from rfl, spl_end a, une_end a, if_pos (show (4 : Int) ≠ 0 by decide)]
      | cons d t =>
        rw [List.tail_cons] at h2
        rw [cm_pair a, show (c :: d :: t).take (2 + cm t) = c :: d :: t.take (cm t) by rw [Nat.add_comm]; rfl]
        cases hd : tl d with
        | none => rw [spl_bad a hd, une_bad a hd, if_pos (show (4 : Int) ≠ 0 by decide)]
        | some x =>
          rw [spl_told a hd, une_told a hd, h2 (p + 2) (b ++ [x])]
          have e : (cm t < t.length) = (2 + cm t < (c :: d :: t).length) := by simp only [List.length_cons]; apply propext; omega
          have e2 : p + 2 + (cm t : Int) = p + ((2 + cm t : Nat) : Int) := by omega
          simp only [e, e2]
    · by_cases a2 : c.toNat = 44
      · rw [cm_comma a2, List.take_zero, spl_nil, une_stop (.inl a2), if_neg (by simp), if_pos (by simp)]
        simp
      · rw [cm_byte ⟨a, a2⟩, show (c :: t).take (1 + cm t) = c :: t.take (cm t) by rw [Nat.add_comm]; rfl]
        by_cases a3 : c.toNat = 59
        · rw [spl_semi a3, une_stop (.inr a3), if_pos (show (4 : Int) ≠ 0 by decide)]
        · rw [spl_byte ⟨a2, a3, a⟩, une_byte ⟨a2, a3, a⟩, h1 (p + 1) (b ++ [c])]
          have e : (cm t < t.length) = (1 + cm t < (c :: t).length) := by simp only [List.length_cons]; apply propext; omega
          have e2 : p + 1 + (cm t : Int) = p + ((1 + cm t : Nat) : Int) := by omega
          simp only [e, e2]
theorem tl_esc {c : UInt8} (h : c.toNat = 92 ∨ c.toNat = 59 ∨ c.toNat = 44) : tl c = some c := by unfold tl; rw [if_neg (by omega), if_pos h]
/-- An escaped text, ahead of others, is told as it was. -/
theorem spl_esc : ∀ (x r : List UInt8) (p : Int) (b : List UInt8) (out : List (List UInt8)), spl (esc x ++ r) p b out = spl r (p + (esc x).length) (b ++ x) out
  | [], r, p, b, out => by simp [esc_nil]
  | c :: t, r, p, b, out => by
    rw [esc_cons, List.append_assoc, List.length_append]
    by_cases h1 : c.toNat = 10
    · have e : c = 10 := UInt8.toNat_inj.1 h1
      subst e
      show spl (92 :: 110 :: (esc t ++ r)) p b out = _
      rw [spl_told (by decide) (show tl 110 = some 10 by decide), spl_esc t r]
      show spl r (p + 2 + _) _ out = spl r (p + ((2 + (esc t).length : Nat) : Int)) _ out
      rw [show p + 2 + ((esc t).length : Int) = p + ((2 + (esc t).length : Nat) : Int) by omega, List.append_assoc]
      rfl
    · by_cases h2 : c.toNat = 92 ∨ c.toNat = 59 ∨ c.toNat = 44
      · have e : escB c = [92, c] := by unfold escB; rw [if_neg h1, if_pos h2]
        rw [e]
        show spl (92 :: c :: (esc t ++ r)) p b out = _
        rw [spl_told (by decide) (tl_esc h2), spl_esc t r]
        show spl r (p + 2 + _) _ out = spl r (p + ((2 + (esc t).length : Nat) : Int)) _ out
        rw [show p + 2 + ((esc t).length : Int) = p + ((2 + (esc t).length : Nat) : Int) by omega, List.append_assoc]
        rfl
      · have e : escB c = [c] := by unfold escB; rw [if_neg h1, if_neg h2]
        rw [e]
        show spl (c :: (esc t ++ r)) p b out = _
        rw [spl_byte (by omega), spl_esc t r]
        show spl r (p + 1 + _) _ out = spl r (p + ((1 + (esc t).length : Nat) : Int)) _ out
        rw [show p + 1 + ((esc t).length : Int) = p + ((1 + (esc t).length : Nat) : Int) by omega, List.append_assoc]
        rfl
theorem une_esc : ∀ (x : List UInt8) (p : Int) (b : List UInt8), une (esc x) p b = (b ++ x, 0, 0)
  | [], p, b => by rw [esc_nil, une_nil]; simp
  | c :: t, p, b => by
    rw [esc_cons]
    by_cases h1 : c.toNat = 10
    · have e : c = 10 := UInt8.toNat_inj.1 h1
      subst e
      show une (92 :: 110 :: esc t) p b = _
      rw [une_told (by decide) (show tl 110 = some 10 by decide), une_esc t, List.append_assoc]
      rfl
    · by_cases h2 : c.toNat = 92 ∨ c.toNat = 59 ∨ c.toNat = 44
      · have e : escB c = [92, c] := by unfold escB; rw [if_neg h1, if_pos h2]
        rw [e]
        show une (92 :: c :: esc t) p b = _
        rw [une_told (by decide) (tl_esc h2), une_esc t, List.append_assoc]
        rfl
      · have e : escB c = [c] := by unfold escB; rw [if_neg h1, if_neg h2]
        rw [e]
        show une (c :: esc t) p b = _
        rw [une_byte (by omega), une_esc t, List.append_assoc]
        rfl
theorem spl_join : ∀ (ls : List (List UInt8)), ls ≠ [] → ∀ (p : Int) (out : List (List UInt8)), spl (joinE ls) p [] out = (out ++ ls, 0, 0)
  | [], h, _, _ => absurd rfl h
  | [x], _, p, out => by
    have := spl_esc x [] p [] out
    rw [List.append_nil, spl_nil] at this
    exact this
  | x :: y :: t, _, p, out => by
    show spl (esc x ++ 44 :: joinE (y :: t)) p [] out = _
    rw [spl_esc, spl_comma (by decide), spl_join (y :: t) (by simp)]
    simp
/-- A value as it was, but for N. -/
inductive Nn : List UInt8 → List UInt8 → Prop
  | nil : Nn [] []
  | same (c : UInt8) (u l : List UInt8) (h : Nn u l) : Nn (c :: u) (c :: l)
  | big (u l : List UInt8) (h : Nn u l) : Nn (92 :: 110 :: u) (92 :: 78 :: l)
theorem Nn.len {u l : List UInt8} (h : Nn u l) : u.length = l.length := by induction h <;> simp_all
theorem Nn.at {u l : List UInt8} (h : Nn u l) : ∀ i : Nat, at_ u i = at_ l i ∨ (at_ u i = 110 ∧ at_ l i = 78 ∧ 0 < i ∧ at_ l (i - 1) = 92) := by
  induction h with
  | nil => exact fun i => .inl rfl
  | same c u l h ih =>
    intro i
    cases i with
    | zero => exact .inl rfl
    | succ i =>
      rcases ih i with h1 | ⟨h1, h2, h3, h4⟩
      · exact .inl h1
      · refine .inr ⟨h1, h2, by omega, ?_⟩
        obtain ⟨j, rfl⟩ : ∃ j, i = j + 1 := ⟨i - 1, by omega⟩
        exact h4
  | big u l h ih =>
    intro i
    match i with
    | 0 => exact .inl rfl
    | 1 => exact .inr ⟨rfl, rfl, by omega, rfl⟩
    | i + 2 =>
      rcases ih i with h1 | ⟨h1, h2, h3, h4⟩
      · exact .inl h1
      · refine .inr ⟨h1, h2, by omega, ?_⟩
        obtain ⟨j, rfl⟩ : ∃ j, i = j + 1 := ⟨i - 1, by omega⟩
        exact h4
theorem une_once : ∀ (L : List UInt8), (∀ c ∈ L, c.toNat ≠ 10) → ∀ (p : Int) (b : List UInt8), (une L p b).2.1 = 0 → ∃ U, (une L p b).1 = b ++ U ∧ Nn (esc U) L := by
  refine bytes2 (M := fun L => (∀ c ∈ L, c.toNat ≠ 10) → ∀ (p : Int) (b : List UInt8), (une L p b).2.1 = 0 → ∃ U, (une L p b).1 = b ++ U ∧ Nn (esc U) L) (fun _ p b _ => ⟨[], by rw [une_nil]; simp, by rw [esc_nil]; exact .nil⟩) (fun c t h1 h2 hn p b h0 => ?_)
  have hc := hn c (by simp)
  by_cases a : c.toNat = 92
  · have e : c = 92 := UInt8.toNat_inj.1 a
    subst e
    cases t with
    | nil => rw [une_end rfl] at h0; cases h0
    | cons d t =>
      rw [List.tail_cons] at h2
      cases hd : tl d with
      | none => rw [une_bad rfl hd] at h0; cases h0
      | some x =>
        rw [une_told rfl hd] at h0 ⊢
        obtain ⟨U, hU, hN⟩ := h2 (fun c hc => hn c (by simp [hc])) _ _ h0
        refine ⟨x :: U, by rw [hU, List.append_assoc]; rfl, ?_⟩
        rw [esc_cons]
        unfold tl at hd
        by_cases d1 : d.toNat = 110 ∨ d.toNat = 78
        · rw [if_pos d1] at hd
          obtain rfl : (10 : UInt8) = x := by injection hd
          rcases d1 with d1 | d1
          · have e : d = 110 := UInt8.toNat_inj.1 d1
            subst e
            exact .same 92 _ _ (.same 110 _ _ hN)
          · have e : d = 78 := UInt8.toNat_inj.1 d1
            subst e
            exact .big _ _ hN
        · rw [if_neg d1] at hd
          by_cases d2 : d.toNat = 92 ∨ d.toNat = 59 ∨ d.toNat = 44
          · rw [if_pos d2] at hd
            obtain rfl : d = x := by injection hd
            have e : escB d = [92, d] := by unfold escB; rw [if_neg (by omega), if_pos d2]
            rw [e]
            exact .same 92 _ _ (.same d _ _ hN)
          · rw [if_neg d2] at hd; cases hd
  · by_cases a2 : c.toNat = 44 ∨ c.toNat = 59
    · rw [une_stop a2] at h0; cases h0
    · rw [une_byte (by omega)] at h0 ⊢
      obtain ⟨U, hU, hN⟩ := h1 (fun c hc => hn c (by simp [hc])) _ _ h0
      refine ⟨c :: U, by rw [hU, List.append_assoc]; rfl, ?_⟩
      have e : escB c = [c] := by unfold escB; rw [if_neg hc, if_neg (by omega)]
      rw [esc_cons, e]
      exact .same c _ _ hN
/-- An error's number and place; no error tells the place 0. -/
theorem une_ways : ∀ (L : List UInt8) (p : Int) (b : List UInt8), ((une L p b).2.1 = 0 ∧ (une L p b).2.2 = 0) ∨ ((une L p b).1 = [] ∧ (une L p b).2.1 = 4 ∧ p ≤ (une L p b).2.2 ∧ (une L p b).2.2 ≤ p + L.length) := by
  refine bytes2 (M := fun L => ∀ p b, _) (fun p b => by rw [une_nil]; exact .inl ⟨rfl, rfl⟩) (fun c t h1 h2 p b => ?_)
  by_cases a : c.toNat = 92
  · cases t with
    | nil => rw [une_end a]; exact .inr ⟨rfl, rfl, Int.le_refl _, by show p ≤ p + (1 : Nat); omega⟩
    | cons d t =>
      rw [List.tail_cons] at h2
      cases hd : tl d with
      | none => rw [une_bad a hd]; exact .inr ⟨rfl, rfl, Int.le_refl _, by show p ≤ p + ((d :: t).length + 1 : Nat); omega⟩
      | some x =>
        rw [une_told a hd]
        rcases h2 (p + 2) (b ++ [x]) with h | ⟨h3, h4, h5, h6⟩
        · exact .inl h
        · refine .inr ⟨h3, h4, by omega, ?_⟩
          simp only [List.length_cons]
          omega
  · by_cases a2 : c.toNat = 44 ∨ c.toNat = 59
    · rw [une_stop a2]; exact .inr ⟨rfl, rfl, Int.le_refl _, by show p ≤ p + (t.length + 1 : Nat); omega⟩
    · rw [une_byte (by omega)]
      rcases h1 (p + 1) (b ++ [c]) with h | ⟨h3, h4, h5, h6⟩
      · exact .inl h
      · refine .inr ⟨h3, h4, by omega, ?_⟩
        simp only [List.length_cons]
        omega
theorem spl_ways : ∀ (L : List UInt8) (p : Int) (b : List UInt8) (out : List (List UInt8)), ((spl L p b out).2.1 = 0 ∧ (spl L p b out).2.2 = 0) ∨ ((spl L p b out).1 = [] ∧ (spl L p b out).2.1 = 4 ∧ p ≤ (spl L p b out).2.2 ∧ (spl L p b out).2.2 ≤ p + L.length) := by
  refine bytes2 (M := fun L => ∀ p b out, _) (fun p b out => by rw [spl_nil]; exact .inl ⟨rfl, rfl⟩) (fun c t h1 h2 p b out => ?_)
  by_cases a : c.toNat = 92
  · cases t with
    | nil => rw [spl_end a]; exact .inr ⟨rfl, rfl, Int.le_refl _, by show p ≤ p + (1 : Nat); omega⟩
    | cons d t =>
      rw [List.tail_cons] at h2
      cases hd : tl d with
      | none => rw [spl_bad a hd]; exact .inr ⟨rfl, rfl, Int.le_refl _, by show p ≤ p + ((d :: t).length + 1 : Nat); omega⟩
      | some x =>
        rw [spl_told a hd]
        rcases h2 (p + 2) (b ++ [x]) out with h | ⟨h3, h4, h5, h6⟩
        · exact .inl h
        · refine .inr ⟨h3, h4, by omega, ?_⟩
          simp only [List.length_cons]
          omega
  · by_cases a2 : c.toNat = 44
    · rw [spl_comma a2]
      rcases h1 (p + 1) [] (out ++ [b]) with h | ⟨h3, h4, h5, h6⟩
      · exact .inl h
      · refine .inr ⟨h3, h4, by omega, ?_⟩
        simp only [List.length_cons]
        omega
    · by_cases a3 : c.toNat = 59
      · rw [spl_semi a3]; exact .inr ⟨rfl, rfl, Int.le_refl _, by show p ≤ p + (t.length + 1 : Nat); omega⟩
      · rw [spl_byte (by omega)]
        rcases h1 (p + 1) (b ++ [c]) out with h | ⟨h3, h4, h5, h6⟩
        · exact .inl h
        · refine .inr ⟨h3, h4, by omega, ?_⟩
          simp only [List.length_cons]
          omega
/-- The parts are few, and none is longer than the value. -/
theorem spl_small : ∀ (L : List UInt8) (p : Int) (b : List UInt8) (out : List (List UInt8)), (spl L p b out).1.length ≤ out.length + 1 + L.length ∧ ∀ x ∈ (spl L p b out).1, x ∈ out ∨ x.length ≤ b.length + L.length := by
  refine bytes2 (M := fun L => ∀ p b out, _) (fun p b out => by
    rw [spl_nil]
    exact ⟨by show (out ++ [b]).length ≤ _; simp, fun x hx => by
      rcases List.mem_append.1 hx with hx | hx
      · exact .inl hx
      · have : x = b := by simpa using hx
        subst this
        exact .inr (by simp)⟩) (fun c t h1 h2 p b out => ?_)
  by_cases a : c.toNat = 92
  · cases t with
    | nil => rw [spl_end a]; exact ⟨by simp, by simp⟩
    | cons d t =>
      rw [List.tail_cons] at h2
      cases hd : tl d with
      | none => rw [spl_bad a hd]; exact ⟨by simp, by simp⟩
      | some x =>
        rw [spl_told a hd]
        obtain ⟨h3, h4⟩ := h2 (p + 2) (b ++ [x]) out
        refine ⟨by simp only [List.length_cons]; omega, fun y hy => ?_⟩
        rcases h4 y hy with h | h
        · exact .inl h
        · refine .inr ?_
          rw [List.length_append, List.length_singleton] at h
          simp only [List.length_cons]
          omega
  · by_cases a2 : c.toNat = 44
    · rw [spl_comma a2]
      obtain ⟨h3, h4⟩ := h1 (p + 1) [] (out ++ [b])
      rw [List.length_append, List.length_singleton] at h3
      refine ⟨by simp only [List.length_cons]; omega, fun y hy => ?_⟩
      rcases h4 y hy with h | h
      · rcases List.mem_append.1 h with h | h
        · exact .inl h
        · have : y = b := by simpa using h
          subst this
          exact .inr (by omega)
      · refine .inr ?_
        rw [List.length_nil] at h
        simp only [List.length_cons]
        omega
    · by_cases a3 : c.toNat = 59
      · rw [spl_semi a3]; exact ⟨by simp, by simp⟩
      · rw [spl_byte (by omega)]
        obtain ⟨h3, h4⟩ := h1 (p + 1) (b ++ [c]) out
        refine ⟨by simp only [List.length_cons]; omega, fun y hy => ?_⟩
        rcases h4 y hy with h | h
        · exact .inl h
        · refine .inr ?_
          rw [List.length_append, List.length_singleton] at h
          simp only [List.length_cons]
          omega
end Go.Proofs.YtmgobcekhgljeaaDoor.Esc
