/- Plain facts of folded rows, one behind the other. -/
import Derived.Test.YtplobfnljlnkkaaDoorFldBackP
set_option linter.unusedVariables false
namespace Go.Proofs.YtplobfnljlnkkaaDoor.Fld
open Go.Proofs.YtplobfnljlnkkaaDoor.Utf

/-- Where the rows stand that are still to be read: all is what was read, chars how many characters it has. -/
def Nx (T : List UInt8) (at' : Nat) (all : List UInt8) (chars : Nat) (Y : List UInt8) : Prop :=
  (at' = 0 ∧ all = [] ∧ chars = 0 ∧ Y = foldL T) ∨ (0 < at' ∧ ∃ t, T = all ++ t ∧ chars + lenN t = lenN T ∧ Y = foldR t)
/-- A row's text: without the space that a further row begins with. -/
def body (at' : Nat) (r : List UInt8) : List UInt8 := if at' = 0 then r else r.tail
theorem Nx.end {T : List UInt8} {at' : Nat} {all : List UInt8} {chars : Nat} (h : Nx T at' all chars []) : all = T ∧ chars = lenN T := by
  rcases h with ⟨_, _, _, h⟩ | ⟨_, t, h1, h2, h3⟩
  · exfalso
    have := congrArg List.length h
    unfold foldL at this
    rw [List.length_append, List.length_cons] at this
    simp at this
  · by_cases ht : t = []
    · subst ht
      rw [lenN_nil] at h2
      exact ⟨by rw [h1]; simp, by omega⟩
    · rw [foldR_on ht] at h3
      cases h3
/-- The next row. -/
structure Rw (T : List UInt8) (at' : Nat) (all : List UInt8) (chars : Nat) (Y r R : List UInt8) : Prop where
  y : Y = r ++ 13 :: 10 :: R
  c : clean r
  l : r.length ≤ 75
  f : 0 < at' → 2 ≤ r.length ∧ at_ r 0 = 32
  n : Nx T (at' + r.length + 2) (all ++ body at' r) (chars + lenN (body at' r)) R
theorem Nx.row {T : List UInt8} {at' : Nat} {all : List UInt8} {chars : Nat} {Y : List UInt8} (h : Nx T at' all chars Y) (hT : clean T) (hy : Y ≠ []) : ∃ r R, Rw T at' all chars Y r R := by
  rcases h with ⟨rfl, rfl, rfl, h⟩ | ⟨h0, t, h1, h2, h3⟩
  · have hc := cutN_le T 75
    have hp := parts T 75
    unfold foldL at h
    refine ⟨_, _, ⟨h, hT.take _, by rw [List.length_take]; omega, fun x => absurd x (by omega), .inr ⟨by omega, T.drop (cutN 75 T), ?_, ?_, rfl⟩⟩⟩
    · unfold body
      rw [if_pos rfl, List.nil_append, List.take_append_drop]
    · unfold body
      rw [if_pos rfl]
      have := hp.1
      omega
  · by_cases ht : t = []
    · rw [ht, foldR_nil] at h3
      exact absurd h3 hy
    · have hc := cutN_le t 74
      have hp := parts t 74
      have hq := cut_pos ht (n := 74) (by omega)
      have hct : clean t := fun b hb => hT b (by rw [h1]; exact List.mem_append_right _ hb)
      rw [foldR_on ht] at h3
      refine ⟨32 :: t.take (cutN 74 t), foldR (t.drop (cutN 74 t)), ⟨by rw [h3]; simp, (hct.take _).cons (by decide), by rw [List.length_cons, List.length_take]; omega, fun _ => ⟨by rw [List.length_cons, List.length_take]; omega, rfl⟩, .inr ⟨by omega, t.drop (cutN 74 t), ?_, ?_, rfl⟩⟩⟩
      · unfold body
        rw [if_neg (by omega), List.tail_cons, List.append_assoc, List.take_append_drop]
        exact h1
      · unfold body
        rw [if_neg (by omega), List.tail_cons]
        have := hp.1
        omega
/-- A byte of a row. -/
theorem Rw.byte {T : List UInt8} {at' : Nat} {all : List UInt8} {chars : Nat} {S r R : List UInt8} (h : Rw T at' all chars (S.drop at') r R) {i : Nat} (h1 : at' ≤ i) (h2 : i < at' + r.length) : at_ S i ≠ 13 ∧ at_ S i ≠ 10 := by
  have e := at_of_drop h.y (i - at')
  rw [show at' + (i - at') = i by omega] at e
  have e2 : at_ (r ++ 13 :: 10 :: R) (i - at') = at_ r (i - at') := by
    unfold at_
    rw [List.getD_eq_getElem?_getD, List.getD_eq_getElem?_getD, List.getElem?_append_left (by omega)]
  have hm : r[i - at'] ∈ r := List.getElem_mem (by omega)
  have e3 : at_ r (i - at') = (r[i - at']).toNat := by
    unfold at_
    rw [List.getD_eq_getElem?_getD, List.getElem?_eq_getElem (by omega)]
    rfl
  have := h.c _ hm
  omega
/-- A row's end. -/
theorem Rw.ends {T : List UInt8} {at' : Nat} {all : List UInt8} {chars : Nat} {S r R : List UInt8} (h : Rw T at' all chars (S.drop at') r R) : at_ S (at' + r.length) = 13 ∧ at_ S (at' + r.length + 1) = 10 ∧ S.length = at' + r.length + 2 + R.length ∧ S.drop (at' + r.length + 2) = R ∧ (S.drop at').take r.length = r := by
  have e := at_of_drop h.y r.length
  have e1 := at_of_drop h.y (r.length + 1)
  have a0 := at_app r (13 :: 10 :: R) 0
  have a1 := at_app r (13 :: 10 :: R) 1
  have hl := len_of_drop h.y (by simp)
  rw [Nat.add_zero] at a0
  refine ⟨e.trans a0, by rw [Nat.add_assoc]; exact e1.trans a1, by rw [hl]; simp; omega, ?_, by rw [h.y]; simp⟩
  rw [Nat.add_assoc, ← List.drop_drop, h.y]
  have : r ++ 13 :: 10 :: R = (r ++ [13, 10]) ++ R := by simp
  rw [this, List.drop_left' (by simp)]
/-- Where the loop stands: at its place i; the next row begins at at'. -/
structure Lp (T S : List UInt8) (i at' : Nat) (all : List UInt8) (chars : Nat) : Prop where
  nx : Nx T at' all chars (S.drop at')
  le : at' ≤ S.length
  p : (i + 1 = at' ∧ at_ S i = 10) ∨ (at' ≤ i ∧ ∀ r R, Rw T at' all chars (S.drop at') r R → i ≤ at' + r.length)
theorem Lp.start (T : List UInt8) : Lp T (foldL T) 0 0 [] 0 := ⟨.inl ⟨rfl, rfl, rfl, rfl⟩, Nat.zero_le _, .inr ⟨Nat.le_refl _, fun r R _ => Nat.zero_le _⟩⟩
/-- Ahead of a row's end: on. -/
theorem Lp.skip {T S : List UInt8} {i at' : Nat} {all : List UInt8} {chars : Nat} (h : Lp T S i at' all chars) (hT : clean T) (hi : i + 1 < S.length) : (at_ S i ≠ 13 ∧ Lp T S (i + 1) at' all chars) ∨
    ∃ r R, Rw T at' all chars (S.drop at') r R ∧ i = at' + r.length := by
  rcases h.p with ⟨h1, h2⟩ | ⟨h1, h2⟩
  · exact .inl ⟨by omega, h.nx, h.le, .inr ⟨by omega, fun r R _ => by omega⟩⟩
  · have hy : S.drop at' ≠ [] := fun e => by
      have := congrArg List.length e
      rw [List.length_drop] at this
      simp at this
      omega
    obtain ⟨r, R, hr⟩ := h.nx.row hT hy
    have h3 := h2 r R hr
    rcases Nat.lt_or_ge i (at' + r.length) with h4 | h4
    · refine .inl ⟨(hr.byte h1 h4).1, h.nx, h.le, .inr ⟨by omega, fun r' R' hr' => ?_⟩⟩
      rcases Nat.lt_or_ge i (at' + r'.length) with h5 | h5
      · omega
      · exfalso
        have h6 := h2 r' R' hr'
        have e := hr'.ends.1
        rw [show at' + r'.length = i by omega] at e
        exact (hr.byte h1 h4).1 e
    · exact .inr ⟨r, R, hr, by omega⟩
/-- Behind a row's end. -/
theorem Lp.next {T S : List UInt8} {at' : Nat} {all : List UInt8} {chars : Nat} {r R : List UInt8} (hr : Rw T at' all chars (S.drop at') r R) : Lp T S (at' + r.length + 1) (at' + r.length + 2) (all ++ body at' r) (chars + lenN (body at' r)) := by
  obtain ⟨e1, e2, e3, e4, _⟩ := hr.ends
  exact ⟨by rw [e4]; exact hr.n, by omega, .inl ⟨rfl, e2⟩⟩
theorem Lp.end {T S : List UInt8} {i at' : Nat} {all : List UInt8} {chars : Nat} (h : Lp T S i at' all chars) (hT : clean T) (hi : S.length ≤ i + 1) : at' = S.length ∧ all = T ∧ chars = lenN T := by
  have hY : S.drop at' = [] := by
    rcases h.p with ⟨h1, h2⟩ | ⟨h1, h2⟩
    · exact List.drop_eq_nil_of_le (by omega)
    · by_cases hy : S.drop at' = []
      · exact hy
      · obtain ⟨r, R, hr⟩ := h.nx.row hT hy
        have h3 := h2 r R hr
        have := hr.ends.2.2.1
        omega
  have hn := h.nx
  rw [hY] at hn
  have := congrArg List.length hY
  rw [List.length_drop] at this
  simp at this
  have hl := h.le
  exact ⟨by omega, hn.end⟩
theorem Lp.small {T S : List UInt8} {i at' : Nat} {all : List UInt8} {chars : Nat} (h : Lp T S i at' all chars) : all.length ≤ T.length ∧ chars ≤ T.length := by
  have hT := lenN_le T
  rcases h.nx with ⟨_, h1, h2, _⟩ | ⟨_, t, h1, h2, _⟩
  · rw [h1, h2]; simp
  · exact ⟨by rw [h1, List.length_append]; omega, by omega⟩
end Go.Proofs.YtplobfnljlnkkaaDoor.Fld
