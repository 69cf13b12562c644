/- Faults in memory; errors.Is by its contract at faults that wrap a number. -/
import Derived.Test.YtmgobcekhgljeaaDoorChecked
import Derived.WalkKit
import Derived.LaidEql
import Derived.Stop.Asserts
import Derived.RowKitTokens
import Derived.Below
import Derived.Lib.Hide
import Derived.Lib.SmallJoins
namespace Go.Proofs.YtmgobcekhgljeaaDoor.Flt
open Go.RowKit Go.Extern.Stop Go.Stop Go.Extern

/-- A number as an error; a fault as an error. -/
def NV (e : Int) : Value := .iface 37 (.int .i64 e)
def FV (b : Nat) : Value := .iface 56 (.pointer (some ⟨b, 0, none⟩))
/-- How far an error may still lead. -/
def rank : Value → Nat
  | .iface _ (.pointer (some a)) => a.block + 1
  | _ => 0
/-- An error that wraps this number at these places, the outermost one first. -/
inductive Ch (w : World) (e : Int) : Value → List Int → Prop
  | num : Ch w e (NV e) []
  | cons (b : Nat) (u : Value) (a : Int) (l : List Int) (h0 : w.cell? ⟨b, 0, none⟩ = some (.int .i64 a)) (h1 : w.cell? ⟨b, 1, none⟩ = some u) (h : Ch w e u l) (hr : rank u < rank (FV b)) : Ch w e (FV b) (a :: l)

/-! ### Closed facts: what TypeOf(target).Comparable() gives, and what the assertions find -/
theorem isTypeOf (v : Value) (w : World) : (Extern.ReflectliteType.typeOf #[.iface 37 v]).run Tryd.prog w = .ok (.iface 81 (.agg #[.pointer (some ⟨1, 37, none⟩)])) w := by kernel_rfl
theorem isComparable (w : World) : (Extern.ReflectliteType.method (fun t => do Rtype.noPackHeld "Comparable" t; (fun a => Value.bool a.comparable) <$> typeInfo t) #[.agg #[.pointer (some ⟨1, 37, none⟩)]]).run Tryd.prog w = .ok (.bool true) w := by kernel_rfl
theorem isMethodComparable (v : Value) (w : World) : (Go.method 226 81 v "Comparable").run Tryd.prog w = .ok (67, v) w := by kernel_rfl
theorem noIsN (v : Value) (xT : TypeId) (w : World) : (Instr.typeAssert (.iface 37 v) xT 83 true).run Tryd.prog w = .ok (.tuple #[.nilIface, .bool false]) w := run_typeAssert_lacksB Tryd.underlying83 (by kernel_rfl) (by kernel_rfl) v xT w
theorem noUnwrapN (v : Value) (xT : TypeId) (w : World) : (Instr.typeAssert (.iface 37 v) xT 86 true).run Tryd.prog w = .ok (.tuple #[.nilIface, .bool false]) w := run_typeAssert_lacksB Tryd.underlying86 (by kernel_rfl) (by kernel_rfl) v xT w
theorem noUnwrapsN (v : Value) (xT : TypeId) (w : World) : (Instr.typeAssert (.iface 37 v) xT 88 true).run Tryd.prog w = .ok (.tuple #[.nilIface, .bool false]) w := run_typeAssert_lacksB Tryd.underlying88 (by kernel_rfl) (by kernel_rfl) v xT w
theorem noIsF (v : Value) (xT : TypeId) (w : World) : (Instr.typeAssert (.iface 56 v) xT 83 true).run Tryd.prog w = .ok (.tuple #[.nilIface, .bool false]) w := run_typeAssert_lacksB Tryd.underlying83 (by kernel_rfl) (by kernel_rfl) v xT w
theorem hasUnwrapF (v : Value) (xT : TypeId) (w : World) : (Instr.typeAssert (.iface 56 v) xT 86 true).run Tryd.prog w = .ok (.tuple #[.iface 56 v, .bool true]) w := run_typeAssert_hasB Tryd.underlying86 (by kernel_rfl) v xT w
theorem methodUnwrap (v : Value) (w : World) : (Go.method 226 56 v "Unwrap").run Tryd.prog w = .ok (61, v) w := by kernel_rfl

/-- What a fault wraps. -/
theorem unwrap_any (b : Nat) (u : Value) (w : World) (h1 : w.cell? ⟨b, 1, none⟩ = some u) :
    Calls Tryd.prog 61 #[.pointer (some ⟨b, 0, none⟩)] w fun r w' => r = .returned u ∧ w = w' := by
  go_enter Tryd.func61, Tryd.ntmps61
  go_wp2
  go_ret
  exact ⟨rfl, rfl⟩

theorem numComp : (Tryd.prog.info? 37).map (·.comparable) = some true := by kernel_rfl
theorem eql_num {e k : Int} (w : World) : (binOp .eql 28 (.iface 37 (.int .i64 e)) (.iface 37 (.int .i64 k))).run Tryd.prog w = .ok (.bool (e == k)) w := by
  obtain ⟨i, hi, hcmp⟩ := Option.map_eq_some_iff.1 numComp
  have h : ∀ d : Nat, (Op.equalIn (d + 2) 28 (.iface 37 (.int .i64 e)) (.iface 37 (.int .i64 k))).run Tryd.prog w = .ok (e == k) w := fun d => by
    simp [Op.equalIn, run_underlying Tryd.underlying28, run_underlying Tryd.underlying37, typeInfo, hi, hcmp]
  simp only [binOp]
  simp [Op.equal, Op.maxDepth, h 9998]
theorem Ch.iface {w : World} {e : Int} {v : Value} {l : List Int} (h : Ch w e v l) : ∃ t x, v = .iface t x := by
  cases h
  · exact ⟨_, _, rfl⟩
  · exact ⟨_, _, rfl⟩
theorem is_chain (k e : Int) (v : Value) (l : List Int) (w : World) (hc : Ch w e v l) :
    Calls Tryd.prog 29 #[v, NV k, .bool true] w fun r w' => r = .returned (.bool (e == k)) ∧ w = w' := by
  have nI := noIsN
  have nU := noUnwrapN
  have nV := noUnwrapsN
  have fI := noIsF
  have fU := hasUnwrapF
  have mU := methodUnwrap
  have HU := Lib.hid (fun b u W h => unwrap_any b u W h)
  have HC := Lib.hid hc
  clear hc
  unfold NV
  go_enter Tryd.func29, Tryd.ntmps29
  go_wp2_with fail
  go_loop [0] (fun v => ∃ l : List Int, Hid (Ch w e v l)) (fun v => rank v)
  case atStart => exact ⟨l, HC⟩
  case round =>
    obtain ⟨l, hc⟩ := hrel
    rcases hc.out with _ | ⟨b, u, a, l, h0, h1, h, hr⟩
    · unfold NV
      rcases hk : (e == k) with _ | _
      · have heq := eql_num (e := e) (k := k) w
        rw [hk] at heq
        go_wp2_with fail
        go_ret
        exact ⟨rfl, rfl⟩
      · have heq := eql_num (e := e) (k := k) w
        rw [hk] at heq
        go_wp2_with fail
        go_ret
        exact ⟨rfl, rfl⟩
    · have hty := run_eql_iface_types (P := Tryd.prog) 56 37 (.pointer (some ⟨b, 0, none⟩)) (.int .i64 k) Tryd.underlying28 (by decide) w
      have HR := Lib.hid hr
      have HH := Lib.hid h
      obtain ⟨ut, ux, rfl⟩ := h.iface
      unfold FV
      clear hr h
      go_wp2_with (go_at_call 61; with_reducible refine (HU.out _ _ _ h1).mono ?_; rintro e w0 ⟨rfl, rfl⟩)
      go_round
      case rel => exact ⟨l, HH⟩
      case measure => exact HR.out

/-- errors.Is, of an error that wraps a number. -/
theorem eIs_any (k e : Int) (v : Value) (l : List Int) (w : World) (hc : Ch w e v l) :
    Calls Tryd.prog 19 #[v, NV k] w fun r w' => r = .returned (.bool (e == k)) ∧ w = w' := by
  have h8 := @run_callFunc_extern Tryd.prog 28 _ Extern.ReflectliteType.typeOf Tryd.func28 (by kernel_rfl) (by kernel_rfl) (by kernel_rfl) (by kernel_rfl)
  have h32 := @run_callFunc_extern Tryd.prog 67 _ (Extern.ReflectliteType.method fun t => do Rtype.noPackHeld "Comparable" t; pure (.bool (← typeInfo t).comparable)) Tryd.func67 (by kernel_rfl) (by kernel_rfl) (by kernel_rfl) (by kernel_rfl)
  have tT := isTypeOf
  have cT := isComparable
  have mR := isMethodComparable
  have HI := Lib.hid (fun W h => is_chain k e v l W h)
  have HC := Lib.hid hc
  unfold NV at HI ⊢
  obtain ⟨ut, ux, rfl⟩ := hc.iface
  clear hc
  go_enter Tryd.func19, Tryd.ntmps19
  go_wp2_with (go_at_call 29; with_reducible refine (HI.out _ HC.out).mono ?_; rintro e w0 ⟨rfl, rfl⟩)
  go_ret
  exact ⟨rfl, rfl⟩
end Go.Proofs.YtmgobcekhgljeaaDoor.Flt
