/- Where what is wrong with parameters stands; that there are none then: plain facts. -/
import Derived.Test.YtndbgdapojkfaaaGreatDoorPln
set_option linter.unusedVariables false
namespace Go.Proofs.YtndbgdapojkfaaaGreatDoor.Par
open Go.Proofs.YtndbgdapojkfaaaGreatDoor.Utf Go.Proofs.YtndbgdapojkfaaaGreatDoor.Chr

theorem fin_far {inner : List UInt8} {o nx : Nat} {q : Bool} {rest : List UInt8} {B : Nat} (h1 : o + inner.length ≤ B) (h2 : nx ≤ B) : (fin inner o nx q rest).2.1 ≤ B := by
  unfold fin
  by_cases h : oddI inner 0 ≠ -1
  · rw [if_pos h]
    have := oddI_ge inner 0 (Int.le_refl _)
    show o + (oddI inner 0).toNat ≤ B
    omega
  · rw [if_neg h]
    split
    · exact Nat.zero_le _
    · split <;> exact h2
theorem val_far (X : List UInt8) : (val X).2.1 ≤ X.length := by
  unfold val
  split
  · rename_i h34
    cases X with
    | nil => exact absurd h34 (by decide)
    | cons b t =>
      have hp := pre_le quo t
      split
      · exact Nat.le_refl _
      · rename_i hne
        rw [List.tail_cons] at hne
        refine fin_far ?_ ?_
        · rw [List.tail_cons, List.length_take, List.length_cons]; omega
        · rw [List.tail_cons, List.length_cons]; omega
  · have hp := pre_le qs X
    split
    · exact hp
    · refine fin_far ?_ hp
      rw [List.length_take]; omega
theorem drop44 {X : List UInt8} {m : Nat} {c : Nat} (hc : 0 < c) (h : at_ (X.drop m) 0 = c) : m < X.length := by
  refine Nat.lt_of_not_le fun hx => ?_
  rw [List.drop_eq_nil_of_le hx, at_nil] at h
  omega
theorem vals_far : ∀ (n : Nat) (X : List UInt8) (acc : List (List UInt8)), 6 - acc.length ≤ n → (vals X acc).2.1 ≤ X.length := by
  intro n
  induction n with
  | zero =>
    intro X acc hn
    rw [vals_many (by omega)]
    exact Nat.zero_le _
  | succ n ih =>
    intro X acc hn
    by_cases ha : 6 ≤ acc.length
    · rw [vals_many ha]
      exact Nat.zero_le _
    · have hv := val_far X
      by_cases he : (val X).2.2 ≠ 0
      · rw [vals_err (by omega) he]
        exact hv
      · rcases hval : val X with ⟨v, m, e⟩
        rw [hval] at he hv
        obtain rfl : e = 0 := by simpa using he
        by_cases hc : at_ (X.drop m) 0 = 44
        · rw [vals_on (by omega) hval hc]
          have h1 := drop44 (by decide) hc
          have h2 := ih (X.drop m).tail (acc ++ [v]) (by rw [List.length_append, List.length_singleton]; omega)
          rw [List.length_tail, List.length_drop] at h2
          show m + 1 + _ ≤ _
          omega
        · rw [vals_end (by omega) hval hc]
          exact hv
theorem prs_far : ∀ (n : Nat) (X : List UInt8) (out : List PP), 6 - out.length ≤ n → (prs X out).2.1 ≤ X.length ∧ ((prs X out).2.2 ≠ 0 → (prs X out).1 = []) := by
  intro n
  induction n with
  | zero =>
    intro X out hn
    by_cases h : at_ X 0 = 59
    · rw [prs_many h (by omega)]
      exact ⟨Nat.zero_le _, fun _ => rfl⟩
    · rw [prs_end h]
      exact ⟨Nat.zero_le _, fun h => absurd rfl h⟩
  | succ n ih =>
    intro X out hn
    by_cases h : at_ X 0 = 59
    · cases X with
      | nil => exact absurd h (by decide)
      | cons b t =>
        by_cases ho : 6 ≤ out.length
        · rw [prs_many h ho]
          exact ⟨Nat.zero_le _, fun _ => rfl⟩
        · have hpl := pre_le nsg t
          by_cases hk : pre nsg (b :: t).tail = 0 ∨ 24 < pre nsg (b :: t).tail
          · rw [prs_name h (by omega) hk]
            exact ⟨by show 1 ≤ (b :: t).length; rw [List.length_cons]; omega, fun _ => rfl⟩
          · rw [List.tail_cons] at hk
            cases ht : hasN out ((t.take (pre nsg t)).map up) with
            | true =>
              rw [prs_twice h (by omega) (k := pre nsg t) rfl (by omega) (by omega) ht]
              exact ⟨by show 1 ≤ (b :: t).length; rw [List.length_cons]; omega, fun _ => rfl⟩
            | false =>
              by_cases he : at_ (t.drop (pre nsg t)) 0 = 61
              · have h1 := drop44 (by decide) he
                have hvf := vals_far 6 (t.drop (pre nsg t)).tail [] (by simp)
                rw [List.length_tail, List.length_drop] at hvf
                by_cases hv : (vals (t.drop (pre nsg t)).tail []).2.2 ≠ 0
                · rw [prs_err h (by omega) (k := pre nsg t) rfl (by omega) (by omega) ht he hv]
                  exact ⟨by show 1 + _ + 1 + _ ≤ (b :: t).length; rw [List.tail_cons, List.length_cons]; omega, fun _ => rfl⟩
                · rcases hvs : vals (t.drop (pre nsg t)).tail [] with ⟨vs, m, e⟩
                  rw [hvs] at hv hvf
                  obtain rfl : e = 0 := by simpa using hv
                  rw [prs_on h (by omega) (k := pre nsg t) rfl (by omega) (by omega) ht he hvs]
                  obtain ⟨i1, i2⟩ := ih ((b :: t).drop (1 + pre nsg t + 1 + m)) (out ++ [⟨((b :: t).tail.take (pre nsg t)).map up, vs⟩]) (by rw [List.length_append, List.length_singleton]; omega)
                  rw [List.length_drop] at i1
                  have hvf' : m ≤ t.length - pre nsg t - 1 := hvf
                  refine ⟨?_, i2⟩
                  show 1 + pre nsg t + 1 + m + _ ≤ _
                  rw [List.length_cons] at *
                  omega
              · rw [prs_form h (by omega) (k := pre nsg t) rfl (by omega) (by omega) ht he]
                exact ⟨by show 1 + _ ≤ (b :: t).length; rw [List.length_cons]; omega, fun _ => rfl⟩
    · rw [prs_end h]
      exact ⟨Nat.zero_le _, fun h => absurd rfl h⟩
theorem prs_no {L : List UInt8} (h : (prs L []).2.2 ≠ 0) : (prs L []).1 = [] := (prs_far 6 L [] (by simp)).2 h
theorem prs_place (L : List UInt8) : (prs L []).2.1 ≤ L.length := (prs_far 6 L [] (by simp)).1
/-- Where parameters end. -/
theorem prs_ends {L : List UInt8} {ps : List PP} {m : Nat} (h : prs L [] = (ps, m, 0)) : m ≤ L.length ∧ (m = 0 → ps = []) ∧ (0 < m → m < L.length → at_ L m = 58) ∧ ∀ more : List UInt8, prs (L.take m ++ 58 :: more) [] = (ps, m, 0) := by
  obtain ⟨_, _, h3, h4, h5, h6⟩ := prs_facts 6 L [] ps m (by simp) (by simp) h
  refine ⟨h3, fun h0 => ?_, fun h0 hl => ?_, fun more => h6 _ (by rfl) (by rw [at_cons0]; decide) (by rw [at_cons0]; decide)⟩
  · rcases h5 with ⟨_, e⟩ | ⟨h, _⟩
    · exact e
    · omega
  · rcases h5 with ⟨h, _⟩ | ⟨_, _, _, hs, h44⟩
    · omega
    · rw [at_drop0] at h44 h4
      rw [List.drop_eq_getElem_cons hl] at hs
      have ha : at_ L m = L[m].toNat := by
        unfold at_
        rw [List.getD_eq_getElem?_getD, List.getElem?_eq_getElem hl]
        rfl
      have hs' : stp L[m] = true := hs
      have := of_decide_eq_true hs'
      omega
end Go.Proofs.YtndbgdapojkfaaaGreatDoor.Par
