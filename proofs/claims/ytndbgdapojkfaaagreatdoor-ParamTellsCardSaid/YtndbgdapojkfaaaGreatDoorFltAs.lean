/- errors.As by its contracts at faults that wrap a number. -/
import Derived.Test.YtndbgdapojkfaaaGreatDoorFltAsF
namespace Go.Proofs.YtndbgdapojkfaaaGreatDoor.Flt
open Go.RowKit Go.Extern.Stop Go.Stop Go.Extern

theorem x26 (args : Array Value) (w : World) : (callFunc 55 args).run Tryz.prog w = ((((fun args => ReflectliteValue.unpack (args.getD 0 (.tuple #[])))) args).run Tryz.prog w).andThen fun v w' => .ok (Next.value v) w' :=
  @run_callFunc_extern Tryz.prog 55 _ ((fun args => ReflectliteValue.unpack (args.getD 0 (.tuple #[])))) Tryz.func55 (by kernel_rfl) (by kernel_rfl) (by kernel_rfl) (by kernel_rfl) args w
theorem x27 (args : Array Value) (w : World) : (callFunc 56 args).run Tryz.prog w = ((((ReflectliteValue.methodAny (ReflectliteValue.valueError "reflectlite.Value.Type" 0) (fun t _ _ _ => ReflectliteType.toType t))) args).run Tryz.prog w).andThen fun v w' => .ok (Next.value v) w' :=
  @run_callFunc_extern Tryz.prog 56 _ ((ReflectliteValue.methodAny (ReflectliteValue.valueError "reflectlite.Value.Type" 0) (fun t _ _ _ => ReflectliteType.toType t))) Tryz.func56 (by kernel_rfl) (by kernel_rfl) (by kernel_rfl) (by kernel_rfl) args w
theorem x28 (args : Array Value) (w : World) : (callFunc 57 args).run Tryz.prog w = ((((ReflectliteValue.method (ReflectliteValue.valueError "reflectlite.Value.IsNil" 0) ReflectliteValue.isNil)) args).run Tryz.prog w).andThen fun v w' => .ok (Next.value v) w' :=
  @run_callFunc_extern Tryz.prog 57 _ ((ReflectliteValue.method (ReflectliteValue.valueError "reflectlite.Value.IsNil" 0) ReflectliteValue.isNil)) Tryz.func57 (by kernel_rfl) (by kernel_rfl) (by kernel_rfl) (by kernel_rfl) args w
theorem x46 (args : Array Value) (w : World) : (callFunc 123 args).run Tryz.prog w = ((((ReflectliteType.abiMethod fun t => do pure (.int .u8 (← Rtype.kind t)))) args).run Tryz.prog w).andThen fun v w' => .ok (Next.value v) w' :=
  @run_callFunc_extern Tryz.prog 123 _ ((ReflectliteType.abiMethod fun t => do pure (.int .u8 (← Rtype.kind t)))) Tryz.func123 (by kernel_rfl) (by kernel_rfl) (by kernel_rfl) (by kernel_rfl) args w
theorem x56 (args : Array Value) (w : World) : (callFunc 136 args).run Tryz.prog w = ((((ReflectliteType.method ReflectliteType.elem)) args).run Tryz.prog w).andThen fun v w' => .ok (Next.value v) w' :=
  @run_callFunc_extern Tryz.prog 136 _ ((ReflectliteType.method ReflectliteType.elem)) Tryz.func136 (by kernel_rfl) (by kernel_rfl) (by kernel_rfl) (by kernel_rfl) args w
theorem x57 (args : Array Value) (w : World) : (callFunc 137 args).run Tryz.prog w = ((((ReflectliteType.relation "Implements" ReflectliteType.implements_)) args).run Tryz.prog w).andThen fun v w' => .ok (Next.value v) w' :=
  @run_callFunc_extern Tryz.prog 137 _ ((ReflectliteType.relation "Implements" ReflectliteType.implements_)) Tryz.func137 (by kernel_rfl) (by kernel_rfl) (by kernel_rfl) (by kernel_rfl) args w
theorem x24 (args : Array Value) (w : World) : (callFunc 70 args).run Tryz.prog w = (((ReflectliteType.typeOf) args).run Tryz.prog w).andThen fun v w' => .ok (Next.value v) w' :=
  @run_callFunc_extern Tryz.prog 70 _ (ReflectliteType.typeOf) Tryz.func70 (by kernel_rfl) (by kernel_rfl) (by kernel_rfl) (by kernel_rfl) args w
theorem x54 (args : Array Value) (w : World) : (callFunc 134 args).run Tryz.prog w = ((((ReflectliteType.relation "AssignableTo" ReflectliteType.assignableTo)) args).run Tryz.prog w).andThen fun v w' => .ok (Next.value v) w' :=
  @run_callFunc_extern Tryz.prog 134 _ ((ReflectliteType.relation "AssignableTo" ReflectliteType.assignableTo)) Tryz.func134 (by kernel_rfl) (by kernel_rfl) (by kernel_rfl) (by kernel_rfl) args w
theorem x30 (args : Array Value) (w : World) : (callFunc 71 args).run Tryz.prog w = ((((ReflectliteValue.method (ReflectliteValue.valueError "reflectlite.Value.Elem" 0) ReflectliteValue.elem)) args).run Tryz.prog w).andThen fun v w' => .ok (Next.value v) w' :=
  @run_callFunc_extern Tryz.prog 71 _ ((ReflectliteValue.method (ReflectliteValue.valueError "reflectlite.Value.Elem" 0) ReflectliteValue.elem)) Tryz.func71 (by kernel_rfl) (by kernel_rfl) (by kernel_rfl) (by kernel_rfl) args w
theorem x31 (args : Array Value) (w : World) : (callFunc 72 args).run Tryz.prog w = (((ReflectliteValue.set) args).run Tryz.prog w).andThen fun v w' => .ok (Next.value v) w' :=
  @run_callFunc_extern Tryz.prog 72 _ (ReflectliteValue.set) Tryz.func72 (by kernel_rfl) (by kernel_rfl) (by kernel_rfl) (by kernel_rfl) args w

theorem cell_lt {w : World} {a : Addr} {v : Value} (h : w.cell? a = some v) : a.block < w.heap.size := by
  rcases Nat.lt_or_ge a.block w.heap.size with h' | h'
  · exact h'
  · simp [World.cell?, Array.getElem?_eq_none h'] at h

/-- as, of a fault, for a variable of *Fault: it gets the fault. -/
theorem as_fault (b : Nat) (t a : Addr) (old : Value) (w : World) (ha : w.cell? a = some (.pointer (some t))) (ht : w.cell? t = some old) (hf : w.frozen? t = false) :
    Calls Tryz.prog 58 #[FV b, .iface 106 (.pointer (some t)), .agg #[.pointer (some ⟨4, 106, none⟩), .pointer (some a), .int .u64 150], .iface 115 (.agg #[.pointer (some ⟨4, 71, none⟩)])] w
      fun r w' => r = .returned (.bool true) ∧ w' = ((w.alloc (.cells #[.pointer (some ⟨4, 106, none⟩), .pointer (some a), .int .u64 150] 97)).alloc (.cells #[.pointer (some ⟨b, 0, none⟩)] 71)).setCell t (.pointer (some ⟨b, 0, none⟩)) := by
  have h26 := x26; have h24 := x24; have h54 := x54; have h30 := x30; have h31 := x31
  have tO := typeOf41
  have mA := methodAssignableTo
  have a41 := assignable41_41
  have v41 := valueOf41
  have hal := cell_lt ha
  have htl := cell_lt ht
  have el := elemV43 a t (w.alloc (.cells #[.pointer (some ⟨4, 106, none⟩), .pointer (some a), .int .u64 150] 97)) (by rw [World.cell?_alloc_lt _ _ a hal]; exact ha)
  have st := set41 t ⟨w.heap.size + 1, 0, none⟩ ⟨b, 0, none⟩ old ((w.alloc (.cells #[.pointer (some ⟨4, 106, none⟩), .pointer (some a), .int .u64 150] 97)).alloc (.cells #[.pointer (some ⟨b, 0, none⟩)] 71))
    (by rw [World.cell?_alloc_at _ _ _ _ (by simp)]; rfl)
    (by rw [World.cell?_alloc_lt _ _ t (by simp; omega), World.cell?_alloc_lt _ _ t htl]; exact ht)
    (by rw [World.frozen?_alloc_old _ _ t (by simp; omega), World.frozen?_alloc_old _ _ t (Nat.ne_of_lt htl)]; exact hf)
  unfold FV
  go_enter Tryz.func58, Tryz.ntmps58
  go_wp2
  refine wp_loop_rounds 1 ?_
  rw [rounds_succ]
  go_wp2
  go_ret
  exact ⟨rfl, rfl⟩
end Go.Proofs.YtndbgdapojkfaaaGreatDoor.Flt
