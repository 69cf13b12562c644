/- Plain facts of what Unfold answers. -/
import Derived.Test.YtplobfnljlnkkaaDoorFldRefS
set_option linter.unusedVariables false
namespace Go.Proofs.YtplobfnljlnkkaaDoor.Fld
open Go.RowKit Go.Proofs.YtplobfnljlnkkaaDoor.Byt Go.Proofs.YtplobfnljlnkkaaDoor.Utf

/-- An error's places: none, where there is no error. -/
def errL (x : List PL × Int × Int) : List Int := if x.2.1 = 0 then [] else [x.2.2]
/-- The lines are few and small, and an error's place is a place of the text. -/
structure Unf (L : List UInt8) (x : List PL × Int × Int) : Prop where
  n : x.1.length ≤ L.length
  l : ∀ l ∈ x.1, l.t.length ≤ L.length ∧ l.ps.length ≤ L.length
  e : (x.2.1 = 0 ∧ x.2.2 = 0) ∨ (x.1 = [] ∧ x.2.1 = 4 ∧ 0 ≤ x.2.2 ∧ x.2.2 ≤ L.length) ∨ (x.1 = [] ∧ x.2.1 = 5 ∧ x.2.2 = 6000)
theorem unf_unf (L : List UInt8) : ∀ (n p : Nat) (acc : List PL), L.length - p ≤ n → p ≤ L.length → Uf L p acc → Unf L (unf L p acc) := by
  intro n
  induction n with
  | zero =>
    intro p acc hn hp hu
    rw [unf_end (by omega)]
    exact ⟨by have := hu.n; show acc.length ≤ _; omega, fun l hl => by have := hu.l l hl; omega, .inl ⟨rfl, rfl⟩⟩
  | succ n ih =>
    intro p acc hn hp hu
    by_cases hlt : p < L.length
    · have hE := rowE_le L p hp
      by_cases hg : gos L p = true
      · by_cases h0 : p = 0
        · subst h0
          rw [unf_first hlt hg]
          exact ⟨by simp, by simp, .inr (.inl ⟨rfl, rfl, Int.le_refl _, by show (0 : Int) ≤ _; omega⟩)⟩
        · rcases hb : rowB L p with _ | _
          · have hr := rowN_lt L p hlt hb
            obtain ⟨init, l, rfl⟩ : ∃ init l, acc = init ++ [l] := by
              rcases List.eq_nil_or_concat acc with h | ⟨i, l, h⟩
              · exact absurd h (hu.ne h0)
              · exact ⟨i, l, by rw [h, List.concat_eq_append]⟩
            rw [unf_on hlt hg h0 hb, addL_last]
            exact ih _ _ (by omega) hr.2.1 (hu.on hlt hg h0 hb)
          · rw [unf_bad hlt (.inr h0) hb]
            exact ⟨by simp, by simp, .inr (.inl ⟨rfl, rfl, by show (0 : Int) ≤ (rowE L p : Int); omega, by show (rowE L p : Int) ≤ _; omega⟩)⟩
      · have hg' : gos L p = false := by simpa using hg
        rcases hb : rowB L p with _ | _
        · have hr := rowN_lt L p hlt hb
          rw [unf_new hlt hg' hb]
          exact ih _ _ (by omega) hr.2.1 (hu.new hlt hg' hb)
        · rw [unf_bad hlt (.inl hg') hb]
          exact ⟨by simp, by simp, .inr (.inl ⟨rfl, rfl, by show (0 : Int) ≤ (rowE L p : Int); omega, by show (rowE L p : Int) ≤ _; omega⟩)⟩
    · rw [unf_end hlt]
      exact ⟨by have := hu.n; show acc.length ≤ _; omega, fun l hl => by have := hu.l l hl; omega, .inl ⟨rfl, rfl⟩⟩
theorem unfR_unf (L : List UInt8) : Unf L (unfR L) := by
  unfold unfR
  split
  · exact ⟨by simp, by simp, .inr (.inr ⟨rfl, rfl, rfl⟩)⟩
  · exact unf_unf L _ 0 [] (Nat.le_refl _) (Nat.zero_le _) ⟨rfl, fun h => absurd rfl h, Nat.le_refl _, fun l h => by cases h⟩
theorem Unf.few {L : List UInt8} {x : List PL × Int × Int} (h : Unf L x) (hl : L.length ≤ 10000) : Few x.1 := ⟨by have := h.n; omega, fun l hm => by have := h.l l hm; omega⟩
theorem Unf.code {L : List UInt8} {x : List PL × Int × Int} (h : Unf L x) : (if errL x = [] then 0 else x.2.1) = x.2.1 := by
  unfold errL
  rcases h.e with ⟨e, _⟩ | ⟨_, e, _⟩ | ⟨_, e, _⟩ <;> rw [e] <;> rfl
theorem Unf.place {L : List UInt8} {x : List PL × Int × Int} (h : Unf L x) : (errL x).sum = x.2.2 := by
  unfold errL
  rcases h.e with ⟨e, e2⟩ | ⟨_, e, _⟩ | ⟨_, e, _⟩
  · rw [if_pos e, e2]; rfl
  · rw [if_neg (by omega)]; simp
  · rw [if_neg (by omega)]; simp
/-- Where pieces stand: within the text. -/
def Inn (L : List UInt8) (ls : List PL) : Prop := ∀ l ∈ ls, ∀ p ∈ l.ps, (0 ≤ p.1 ∧ p.1 ≤ L.length) ∧ 0 ≤ p.2 ∧ p.2 ≤ L.length + 1
theorem Inn.snoc {L : List UInt8} {ls : List PL} {l : PL} (h : Inn L ls) (hl : ∀ p ∈ l.ps, (0 ≤ p.1 ∧ p.1 ≤ L.length) ∧ 0 ≤ p.2 ∧ p.2 ≤ L.length + 1) : Inn L (ls ++ [l]) := fun x hx => by
  rcases List.mem_append.1 hx with hx | hx
  · exact h x hx
  · have : x = l := by simpa using hx
    subst this
    exact hl
theorem unf_inn (L : List UInt8) : ∀ (n p : Nat) (acc : List PL), L.length - p ≤ n → p ≤ L.length → Uf L p acc → Inn L acc → Inn L (unf L p acc).1 := by
  intro n
  induction n with
  | zero =>
    intro p acc hn hp hu hi
    rw [unf_end (by omega)]
    exact hi
  | succ n ih =>
    intro p acc hn hp hu hi
    by_cases hlt : p < L.length
    · have hE := rowE_le L p hp
      by_cases hg : gos L p = true
      · by_cases h0 : p = 0
        · subst h0
          rw [unf_first hlt hg]
          exact fun l hl => by simp at hl
        · rcases hb : rowB L p with _ | _
          · have hr := rowN_lt L p hlt hb
            obtain ⟨init, l, rfl⟩ : ∃ init l, acc = init ++ [l] := by
              rcases List.eq_nil_or_concat acc with h | ⟨i, l, h⟩
              · exact absurd h (hu.ne h0)
              · exact ⟨i, l, by rw [h, List.concat_eq_append]⟩
            have hl := hu.l l (by simp)
            rw [unf_on hlt hg h0 hb, addL_last]
            refine ih _ _ (by omega) hr.2.1 (hu.on hlt hg h0 hb) (Inn.snoc (fun x hx => hi x (by simp [hx])) (fun q hq => ?_))
            rcases List.mem_append.1 hq with hq | hq
            · exact hi l (by simp) q hq
            · have : q = ((l.t.length : Int), (p : Int) + 1) := by simpa using hq
              subst this
              refine ⟨⟨?_, ?_⟩, ?_, ?_⟩ <;> (dsimp only; omega)
          · rw [unf_bad hlt (.inr h0) hb]
            exact fun l hl => by simp at hl
      · have hg' : gos L p = false := by simpa using hg
        rcases hb : rowB L p with _ | _
        · have hr := rowN_lt L p hlt hb
          rw [unf_new hlt hg' hb]
          refine ih _ _ (by omega) hr.2.1 (hu.new hlt hg' hb) (hi.snoc (fun q hq => ?_))
          have : q = (0, (p : Int)) := by simpa using hq
          subst this
          refine ⟨⟨?_, ?_⟩, ?_, ?_⟩ <;> (dsimp only; omega)
        · rw [unf_bad hlt (.inl hg') hb]
          exact fun l hl => by simp at hl
    · rw [unf_end hlt]
      exact hi
theorem unfR_inn (L : List UInt8) : Inn L (unfR L).1 := by
  unfold unfR
  split
  · exact fun l hl => by simp at hl
  · exact unf_inn L _ 0 [] (Nat.le_refl _) (Nat.zero_le _) ⟨rfl, fun h => absurd rfl h, Nat.le_refl _, fun l h => by cases h⟩ (fun l hl => by simp at hl)
end Go.Proofs.YtplobfnljlnkkaaDoor.Fld
