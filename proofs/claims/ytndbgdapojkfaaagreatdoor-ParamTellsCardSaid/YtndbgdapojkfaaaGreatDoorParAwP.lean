/- What awake of layer 17 asks: its texts, parsed and printed: plain facts. -/
import Derived.Test.YtndbgdapojkfaaaGreatDoorPln
set_option linter.unusedVariables false
namespace Go.Proofs.YtndbgdapojkfaaaGreatDoor.Par
open Go.Proofs.YtndbgdapojkfaaaGreatDoor.Utf Go.Proofs.YtndbgdapojkfaaaGreatDoor.Chr

theorem asc_odd {l : List UInt8} (h : ∀ b ∈ l, 32 ≤ b.toNat ∧ b.toNat < 127) : oddI l 0 = -1 := by
  have : Gd l := by
    induction l with
    | nil => exact .nil
    | cons b t ih => exact (asc_of (h b (by simp))).gd (ih fun x hx => h x (by simp [hx]))
  exact this.odd 0
def aw1 : List UInt8 := [59, 120, 61, 97, 44, 34, 98, 59, 99, 34, 59, 89, 45, 50, 61, 94, 94, 94, 110, 94, 39, 94, 120, 58, 118]
def awP : PP := ⟨[88], [[97], [98, 59, 99]]⟩
def awQ : PP := ⟨[89, 45, 50], [[94, 10, 34, 94, 120]]⟩
theorem rd_aw : rd [94, 94, 94, 110, 94, 39, 94, 120] = [94, 10, 34, 94, 120] := by
  rw [rd_told (x := 94) (by decide) (by decide), rd_told (x := 10) (by decide) (by decide), rd_told (x := 34) (by decide) (by decide), rd_care (by decide) (by decide), rd_byte (by decide), rd_nil]
theorem rd_plain {l : List UInt8} (h : ∀ b ∈ l, b.toNat ≠ 94) : rd l = l := by
  have := rd_hi l [] h
  rw [rd_nil, List.append_nil] at this
  exact this
theorem aw_prs : prs aw1 [] = ([awP, awQ], 23, 0) := by
  have r1 : rd [97] = [97] := rd_plain (by decide)
  have r2 : rd [98, 59, 99] = [98, 59, 99] := rd_plain (by decide)
  have v1 : val [97, 44, 34, 98, 59, 99, 34, 59, 89, 45, 50, 61, 94, 94, 94, 110, 94, 39, 94, 120, 58, 118] = ([97], 1, 0) := by
    have := val_plain (c := [97]) (rest := [44, 34, 98, 59, 99, 34, 59, 89, 45, 50, 61, 94, 94, 94, 110, 94, 39, 94, 120, 58, 118]) (by decide) (asc_odd (by decide)) (by rw [r1]; decide) (by decide)
    rw [r1] at this
    exact this
  have v2 : val [34, 98, 59, 99, 34, 59, 89, 45, 50, 61, 94, 94, 94, 110, 94, 39, 94, 120, 58, 118] = ([98, 59, 99], 5, 0) := by
    have := val_quoted (c := [98, 59, 99]) (rest := [59, 89, 45, 50, 61, 94, 94, 94, 110, 94, 39, 94, 120, 58, 118]) (by decide) (asc_odd (by decide)) (by rw [r2]; decide) (by decide)
    rw [r2] at this
    exact this
  have v3 : val [94, 94, 94, 110, 94, 39, 94, 120, 58, 118] = ([94, 10, 34, 94, 120], 8, 0) := by
    have := val_plain (c := [94, 94, 94, 110, 94, 39, 94, 120]) (rest := [58, 118]) (by decide) (asc_odd (by decide)) (by rw [rd_aw]; decide) (by decide)
    rw [rd_aw] at this
    exact this
  have w1 : vals [97, 44, 34, 98, 59, 99, 34, 59, 89, 45, 50, 61, 94, 94, 94, 110, 94, 39, 94, 120, 58, 118] [] = ([[97], [98, 59, 99]], 7, 0) := by
    rw [vals_on (by decide) v1 (by decide)]
    have : vals [34, 98, 59, 99, 34, 59, 89, 45, 50, 61, 94, 94, 94, 110, 94, 39, 94, 120, 58, 118] [[97]] = ([[97], [98, 59, 99]], 5, 0) := by
      rw [vals_end (by decide) v2 (by decide)]; rfl
    simp only [List.nil_append, List.drop_succ_cons, List.drop_zero, List.tail_cons]
    rw [this]
    rfl
  have w2 : vals [94, 94, 94, 110, 94, 39, 94, 120, 58, 118] [] = ([[94, 10, 34, 94, 120]], 8, 0) := by
    rw [vals_end (by decide) v3 (by decide)]; rfl
  have e2 : prs [59, 89, 45, 50, 61, 94, 94, 94, 110, 94, 39, 94, 120, 58, 118] [awP] = ([awP, awQ], 13, 0) := by
    rw [prs_on (X := [59, 89, 45, 50, 61, 94, 94, 94, 110, 94, 39, 94, 120, 58, 118]) (out := [awP]) (k := 3) (by decide) (by decide) (by decide) (by decide) (by decide) (by decide) (by decide) w2]
    have : prs [58, 118] [awP, awQ] = ([awP, awQ], 0, 0) := prs_end (by decide) _
    show ((prs [58, 118] [awP, awQ]).1, 13 + (prs [58, 118] [awP, awQ]).2.1, (prs [58, 118] [awP, awQ]).2.2) = _
    rw [this]
    rfl
  unfold aw1
  rw [prs_on (X := [59, 120, 61, 97, 44, 34, 98, 59, 99, 34, 59, 89, 45, 50, 61, 94, 94, 94, 110, 94, 39, 94, 120, 58, 118]) (out := []) (k := 1) (by decide) (by decide) (by decide) (by decide) (by decide) (by decide) (by decide) w1]
  show ((prs [59, 89, 45, 50, 61, 94, 94, 94, 110, 94, 39, 94, 120, 58, 118] [awP]).1, 10 + (prs [59, 89, 45, 50, 61, 94, 94, 94, 110, 94, 39, 94, 120, 58, 118] [awP]).2.1, (prs [59, 89, 45, 50, 61, 94, 94, 94, 110, 94, 39, 94, 120, 58, 118] [awP]).2.2) = _
  rw [e2]
  rfl
def aw2 : List UInt8 := [59, 88, 61, 34, 97]
theorem aw_bad : prs aw2 [] = ([], 5, 3) := by
  have v : val [34, 97] = ([], 2, 3) := by decide
  have w : vals [34, 97] [] = ([], 2, 3) := by rw [vals_err (by decide) (by rw [v]; decide), v]
  unfold aw2
  rw [prs_err (X := [59, 88, 61, 34, 97]) (out := []) (k := 1) (by decide) (by decide) (by decide) (by decide) (by decide) (by decide) (by decide) (by show (vals [34, 97] []).2.2 ≠ 0; rw [w]; decide)]
  show ([], 1 + 1 + 1 + (vals [34, 97] []).2.1, (vals [34, 97] []).2.2) = _
  rw [w]
  rfl
/-- The two, printed. -/
def aw3 : List UInt8 := [59, 88, 61, 97, 44, 34, 98, 59, 99, 34, 59, 89, 45, 50, 61, 94, 94, 94, 110, 94, 39, 94, 94, 120]
theorem aw_prt : chkA [awP, awQ] = 0 ∧ prtA [awP, awQ] = aw3 := ⟨prs_may aw_prs, by decide⟩
theorem aw_chk : chkP ⟨[88], []⟩ = 20 := by decide
end Go.Proofs.YtndbgdapojkfaaaGreatDoor.Par
