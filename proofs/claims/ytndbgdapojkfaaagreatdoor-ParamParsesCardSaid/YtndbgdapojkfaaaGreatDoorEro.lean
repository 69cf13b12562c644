/- An answer's error: none, or a number at one place. -/
import Derived.Test.YtndbgdapojkfaaaGreatDoorFltPla
import Derived.Test.YtndbgdapojkfaaaGreatDoorByt
set_option linter.unusedVariables false
namespace Go.Proofs.YtndbgdapojkfaaaGreatDoor.Ero
open Go.RowKit Go.Proofs.YtndbgdapojkfaaaGreatDoor.Byt

/-- The places of an error: none, where there is no error. -/
def errL (e k : Int) : List Int := if e = 0 then [] else [k]
/-- A value is the error number e at the place k; no error, where e is 0. -/
structure Ee (W : World) (e k : Int) (v : Value) : Prop where
  er : Flt.Er W e v (errL e k)
theorem Ee.call {W W' : World} {e k : Int} {v : Value} (h : Ee W e k v) (hb : Below W.heap.size W W') : Ee W' e k v := ⟨h.er.call hb⟩
theorem Ee.none (W : World) (k : Int) : Ee W 0 k .nilIface := ⟨.none⟩
theorem Ee.of_new {W : World} {e k : Int} {v : Value} (h : Flt.Er W e v (if (e == 0) = true then [] else [k])) : Ee W e k v := ⟨by
  unfold errL
  by_cases he : e = 0
  · rw [if_pos he]; rwa [if_pos (by simpa using he)] at h
  · rw [if_neg he]; rwa [if_neg (by simpa using he)] at h⟩
theorem Ee.what {W : World} {e k : Int} {v : Value} (h : Ee W e k v) : (e = 0 ∧ v = .nilIface) ∨ (e ≠ 0 ∧ ∃ b, v = Flt.FV b) := by
  obtain ⟨h⟩ := h
  unfold errL at h
  by_cases he : e = 0
  · rw [if_pos he] at h
    cases h with
    | none => exact .inl ⟨he, rfl⟩
    | some b l h => cases h
  · rw [if_neg he] at h
    cases h with
    | some b l h => exact .inr ⟨he, b, rfl⟩
theorem Ee.nil {W : World} {k : Int} {v : Value} (h : Ee W 0 k v) : v = .nilIface := by
  rcases h.what with ⟨_, h⟩ | ⟨h, _⟩
  · exact h
  · exact absurd rfl h
theorem Ee.some {W : World} {e k : Int} {v : Value} (h : Ee W e k v) (he : e ≠ 0) : ∃ b, v = Flt.FV b := by
  rcases h.what with ⟨h, _⟩ | ⟨_, h⟩
  · exact absurd h he
  · exact h
theorem eql_nil (W : World) : (binOp .eql 25 .nilIface .nilIface).run Tryz.prog W = .ok (.bool true) W := by kernel_rfl
theorem neq_nil (W : World) : (binOp .neq 25 .nilIface .nilIface).run Tryz.prog W = .ok (.bool false) W := by kernel_rfl
theorem eql_fv (b : Nat) (W : World) : (binOp .eql 25 (Flt.FV b) .nilIface).run Tryz.prog W = .ok (.bool false) W := by unfold Flt.FV; kernel_rfl
theorem neq_fv (b : Nat) (W : World) : (binOp .neq 25 (Flt.FV b) .nilIface).run Tryz.prog W = .ok (.bool true) W := by unfold Flt.FV; kernel_rfl
theorem Ee.eql {W : World} {e k : Int} {v : Value} (h : Ee W e k v) (W' : World) : (binOp .eql 25 v .nilIface).run Tryz.prog W' = .ok (.bool (e == 0)) W' := by
  rcases h.what with ⟨rfl, rfl⟩ | ⟨he, b, rfl⟩
  · exact eql_nil W'
  · have : (e == 0) = false := by rw [beq_eq_false_iff_ne]; exact he
    rw [this]
    exact eql_fv b W'
theorem Ee.neq {W : World} {e k : Int} {v : Value} (h : Ee W e k v) (W' : World) : (binOp .neq 25 v .nilIface).run Tryz.prog W' = .ok (.bool (e != 0)) W' := by
  rcases h.what with ⟨rfl, rfl⟩ | ⟨he, b, rfl⟩
  · exact neq_nil W'
  · have : (e != 0) = true := by simpa using he
    rw [this]
    exact neq_fv b W'
theorem guard_nil (o : Operand) (W : World) : (eqGuard .eql 25 o (.const .nilIface) .nilIface .nilIface).run Tryz.prog W = .ok () W := by cases o <;> kernel_rfl
theorem guard_fv (b : Nat) (o : Operand) (W : World) : (eqGuard .eql 25 o (.const .nilIface) (Flt.FV b) .nilIface).run Tryz.prog W = .ok () W := by unfold Flt.FV; kernel_rfl
theorem guardn_nil (o : Operand) (W : World) : (eqGuard .neq 25 o (.const .nilIface) .nilIface .nilIface).run Tryz.prog W = .ok () W := by cases o <;> kernel_rfl
theorem guardn_fv (b : Nat) (o : Operand) (W : World) : (eqGuard .neq 25 o (.const .nilIface) (Flt.FV b) .nilIface).run Tryz.prog W = .ok () W := by unfold Flt.FV; kernel_rfl
/-- What the walk asks ahead of a comparison with nil. -/
theorem Ee.ask {W : World} {e k : Int} {v : Value} (h : Ee W e k v) (o : Operand) (W' : World) : (eqGuard .eql 25 o (.const .nilIface) v .nilIface).run Tryz.prog W' = .ok () W' := by
  rcases h.what with ⟨rfl, rfl⟩ | ⟨he, b, rfl⟩
  · exact guard_nil o W'
  · exact guard_fv b o W'
theorem Ee.asks {W : World} {e k : Int} {v : Value} (h : Ee W e k v) (o : Operand) (W' : World) : (eqGuard .neq 25 o (.const .nilIface) v .nilIface).run Tryz.prog W' = .ok () W' := by
  rcases h.what with ⟨rfl, rfl⟩ | ⟨he, b, rfl⟩
  · exact guardn_nil o W'
  · exact guardn_fv b o W'
theorem code_any {W : World} {e k : Int} {v : Value} (h : Ee W e k v) (hT : Flt.ETab W) : Calls Tryz.prog 12 #[v] W fun r w' => r = .returned (.int .i64 e) ∧ Below W.heap.size W w' := by
  have := Flt.code_any e v _ W hT h.er
  unfold errL at this
  by_cases he : e = 0
  · rw [if_pos he, if_pos rfl] at this
    rw [he] at *
    exact this
  · rw [if_neg he, if_neg (by simp)] at this
    exact this
theorem place_any {W : World} {e k : Int} {v : Value} (h : Ee W e k v) (hT : Flt.ETab W) (h0 : e = 0 → k = 0) (k0 : -2147483648 ≤ k) (k1 : k ≤ 2147483647) : Calls Tryz.prog 13 #[v] W fun r w' => r = .returned (.int .i64 k) ∧ Below W.heap.size W w' := by
  have hs : Flt.Sm (errL e k) := by
    unfold errL
    by_cases he : e = 0
    · rw [if_pos he]; exact ⟨by decide, by simp⟩
    · rw [if_neg he]
      exact ⟨by simp, fun x hx => by
        have : x = k := by simpa using hx
        subst this
        exact ⟨k0, k1⟩⟩
  have := Flt.place_any e v _ W hT h.er hs
  have e2 : (errL e k).sum = k := by
    unfold errL
    by_cases he : e = 0
    · rw [if_pos he, h0 he]; rfl
    · rw [if_neg he]; simp
  rwa [e2] at this
end Go.Proofs.YtndbgdapojkfaaaGreatDoor.Ero
