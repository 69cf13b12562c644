/- errors.As at faults, for a variable of Errno; and at a number, for a variable of *Fault. -/
import Derived.Test.YtndbgdapojkfaaaGreatDoorFltAs
namespace Go.Proofs.YtndbgdapojkfaaaGreatDoor.Flt
open Go.RowKit Go.Extern.Stop Go.Stop Go.Extern

theorem Ch.call {w w1 : World} {e : Int} {v : Value} {l : List Int} (h : Ch w e v l) (hb : Below w.heap.size w w1) : Ch w1 e v l := by
  induction h with
  | num => exact .num
  | cons b u a l h0 h1 _ hr ih => exact .cons b u a l (by rw [hb.cell (p := ⟨b, 0, none⟩) (cell_lt h0)]; exact h0) (by rw [hb.cell (p := ⟨b, 1, none⟩) (cell_lt h1)]; exact h1) ih hr
theorem new1 (w : World) (o : Obj) : Below w.heap.size w (w.alloc o) := (Below.refl _ _).alloc (Nat.le_refl _) _

set_option maxHeartbeats 1000000 in
/-- as, of faults that wrap a number, for a variable of Errno: it gets the number. -/
theorem as_num (e : Int) (v : Value) (l : List Int) (t a : Addr) (old : Value) (w : World) (hc : Ch w e v l) (ha : w.cell? a = some (.pointer (some t))) (ht : w.cell? t = some old) (hf : w.frozen? t = false) :
    Calls Tryz.prog 58 #[v, .iface 70 (.pointer (some t)), .agg #[.pointer (some ⟨4, 70, none⟩), .pointer (some a), .int .u64 150], .iface 115 (.agg #[.pointer (some ⟨4, 33, none⟩)])] w
      fun r w' => r = .returned (.bool true) ∧ w' = ((w.alloc (.cells #[.pointer (some ⟨4, 70, none⟩), .pointer (some a), .int .u64 150] 97)).alloc (.cells #[.int .i64 e] 33)).setCell t (.int .i64 e) := by
  have h26 := x26; have h24 := x24; have h54 := x54; have h30 := x30; have h31 := x31
  have tO := typeOf32
  have tF := typeOf41
  have mA := methodAssignableTo
  have a32 := assignable32_32
  have aF := assignable41_32
  have v32 := valueOf32
  have nA := noAsF
  have fU := hasUnwrapF
  have mU := methodUnwrap
  have HU := Lib.hid (fun b u W h => unwrap_any b u W h)
  have hal := cell_lt ha
  have htl := cell_lt ht
  have el := elemV50 a t (w.alloc (.cells #[.pointer (some ⟨4, 70, none⟩), .pointer (some a), .int .u64 150] 97)) (by rw [World.cell?_alloc_lt _ _ a hal]; exact ha)
  have st := set32 t ⟨w.heap.size + 1, 0, none⟩ e old ((w.alloc (.cells #[.pointer (some ⟨4, 70, none⟩), .pointer (some a), .int .u64 150] 97)).alloc (.cells #[.int .i64 e] 33))
    (by rw [World.cell?_alloc_at _ _ _ _ (by simp)]; rfl)
    (by rw [World.cell?_alloc_lt _ _ t (by simp; omega), World.cell?_alloc_lt _ _ t htl]; exact ht)
    (by rw [World.frozen?_alloc_old _ _ t (by simp; omega), World.frozen?_alloc_old _ _ t (Nat.ne_of_lt htl)]; exact hf)
  have HC := Lib.hid (hc.call (new1 w (.cells #[.pointer (some ⟨4, 70, none⟩), .pointer (some a), .int .u64 150] 97)))
  clear hc ha ht hf hal htl
  go_enter Tryz.func58, Tryz.ntmps58
  go_wp2_with fail
  go_loop [0] (fun v => ∃ l : List Int, Hid (Ch (w.alloc (.cells #[.pointer (some ⟨4, 70, none⟩), .pointer (some a), .int .u64 150] 97)) e v l)) (fun v => rank v)
  case atStart => exact ⟨l, HC⟩
  case round =>
    obtain ⟨l, hc⟩ := hrel
    rcases hc.out with _ | ⟨b, u, q, l, h0, h1, h, hr⟩
    · unfold NV
      go_wp2_with fail
      go_ret
      exact ⟨rfl, rfl⟩
    · have HR := Lib.hid hr
      have HH := Lib.hid h
      have H1 := Lib.hid h1
      obtain ⟨ut, ux, rfl⟩ := h.iface
      unfold FV
      clear hr h h0 h1
      go_wp2_with (go_at_call 128; with_reducible refine (HU.out _ _ _ H1.out).mono ?_; rintro e w0 ⟨rfl, rfl⟩)
      go_round
      case rel => exact ⟨l, HH⟩
      case measure => exact HR.out

/-- as, of a number, for a variable of *Fault: there is none. -/
theorem as_none (e : Int) (t a : Addr) (w : World) :
    Calls Tryz.prog 58 #[NV e, .iface 106 (.pointer (some t)), .agg #[.pointer (some ⟨4, 106, none⟩), .pointer (some a), .int .u64 150], .iface 115 (.agg #[.pointer (some ⟨4, 71, none⟩)])] w
      fun r w' => r = .returned (.bool false) ∧ w' = w.alloc (.cells #[.pointer (some ⟨4, 106, none⟩), .pointer (some a), .int .u64 150] 97) := by
  have h24 := x24; have h54 := x54
  have tO := typeOf32
  have mA := methodAssignableTo
  have aN := assignable32_41
  have nA := noAsN
  have nU := noUnwrapN
  have nV := noUnwrapsN
  unfold NV
  go_enter Tryz.func58, Tryz.ntmps58
  go_wp2
  refine wp_loop_rounds 1 ?_
  rw [rounds_succ]
  go_wp2
  go_ret
  exact ⟨rfl, rfl⟩
end Go.Proofs.YtndbgdapojkfaaaGreatDoor.Flt
