/- Faults in memory; errors.Is by its contract at faults that wrap a number. -/
import Derived.Test.YtndbgdapojkfaaaGreatDoorChecked
import Derived.WalkKit
import Derived.LaidEql
import Derived.Stop.Asserts
import Derived.RowKitTokens
import Derived.Below
import Derived.Lib.Hide
import Derived.Lib.SmallJoins
namespace Go.Proofs.YtndbgdapojkfaaaGreatDoor.Flt
open Go.RowKit Go.Extern.Stop Go.Stop Go.Extern

/-- A number as an error; a fault as an error. -/
def NV (e : Int) : Value := .iface 33 (.int .i64 e)
def FV (b : Nat) : Value := .iface 71 (.pointer (some ⟨b, 0, none⟩))
/-- How far an error may still lead. -/
def rank : Value → Nat
  | .iface _ (.pointer (some a)) => a.block + 1
  | _ => 0
/-- An error that wraps this number at these places, the outermost one first. -/
inductive Ch (w : World) (e : Int) : Value → List Int → Prop
  | num : Ch w e (NV e) []
  | cons (b : Nat) (u : Value) (a : Int) (l : List Int) (h0 : w.cell? ⟨b, 0, none⟩ = some (.int .i64 a)) (h1 : w.cell? ⟨b, 1, none⟩ = some u) (h : Ch w e u l) (hr : rank u < rank (FV b)) : Ch w e (FV b) (a :: l)

/-! ### Closed facts: what TypeOf(target).Comparable() gives, and what the assertions find -/
theorem isTypeOf (v : Value) (w : World) : (Extern.ReflectliteType.typeOf #[.iface 33 v]).run Tryz.prog w = .ok (.iface 115 (.agg #[.pointer (some ⟨4, 33, none⟩)])) w := by kernel_rfl
theorem isComparable (w : World) : (Extern.ReflectliteType.method (fun t => do Rtype.noPackHeld "Comparable" t; (fun a => Value.bool a.comparable) <$> typeInfo t) #[.agg #[.pointer (some ⟨4, 33, none⟩)]]).run Tryz.prog w = .ok (.bool true) w := by kernel_rfl
theorem isMethodComparable (v : Value) (w : World) : (Go.method 288 115 v "Comparable").run Tryz.prog w = .ok (135, v) w := by kernel_rfl
theorem noUnwrapN (v : Value) (xT : TypeId) (w : World) : (Instr.typeAssert (.iface 33 v) xT 123 true).run Tryz.prog w = .ok (.tuple #[.nilIface, .bool false]) w := run_typeAssert_lacksB Tryz.underlying123 (by kernel_rfl) (by kernel_rfl) v xT w
theorem noUnwrapsN (v : Value) (xT : TypeId) (w : World) : (Instr.typeAssert (.iface 33 v) xT 125 true).run Tryz.prog w = .ok (.tuple #[.nilIface, .bool false]) w := run_typeAssert_lacksB Tryz.underlying125 (by kernel_rfl) (by kernel_rfl) v xT w
theorem hasUnwrapF (v : Value) (xT : TypeId) (w : World) : (Instr.typeAssert (.iface 71 v) xT 123 true).run Tryz.prog w = .ok (.tuple #[.iface 71 v, .bool true]) w := run_typeAssert_hasB Tryz.underlying123 (by kernel_rfl) v xT w
theorem methodUnwrap (v : Value) (w : World) : (Go.method 288 71 v "Unwrap").run Tryz.prog w = .ok (128, v) w := by kernel_rfl

/-- What a fault wraps. -/
theorem unwrap_any (b : Nat) (u : Value) (w : World) (h1 : w.cell? ⟨b, 1, none⟩ = some u) :
    Calls Tryz.prog 128 #[.pointer (some ⟨b, 0, none⟩)] w fun r w' => r = .returned u ∧ w = w' := by
  go_enter Tryz.func128, Tryz.ntmps128
  go_wp2
  go_ret
  exact ⟨rfl, rfl⟩

theorem numComp : (Tryz.prog.info? 33).map (·.comparable) = some true := by kernel_rfl
theorem eql_num {e k : Int} (w : World) : (binOp .eql 25 (.iface 33 (.int .i64 e)) (.iface 33 (.int .i64 k))).run Tryz.prog w = .ok (.bool (e == k)) w := by
  obtain ⟨i, hi, hcmp⟩ := Option.map_eq_some_iff.1 numComp
  have h : ∀ d : Nat, (Op.equalIn (d + 2) 25 (.iface 33 (.int .i64 e)) (.iface 33 (.int .i64 k))).run Tryz.prog w = .ok (e == k) w := fun d => by
    simp [Op.equalIn, run_underlying Tryz.underlying25, run_underlying Tryz.underlying33, typeInfo, hi, hcmp]
  simp only [binOp]
  simp [Op.equal, Op.maxDepth, h 9998]
theorem Ch.iface {w : World} {e : Int} {v : Value} {l : List Int} (h : Ch w e v l) : ∃ t x, v = .iface t x := by
  cases h
  · exact ⟨_, _, rfl⟩
  · exact ⟨_, _, rfl⟩
end Go.Proofs.YtndbgdapojkfaaaGreatDoor.Flt
