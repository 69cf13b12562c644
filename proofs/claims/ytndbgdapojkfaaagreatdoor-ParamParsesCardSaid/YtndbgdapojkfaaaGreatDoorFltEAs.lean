/- Contracts of the library's errors.As, at faults that wrap a number. -/
import Derived.Test.YtndbgdapojkfaaaGreatDoorFltAsN
import Derived.Laws.NewBlocks
namespace Go.Proofs.YtndbgdapojkfaaaGreatDoor.Flt
open Go.RowKit Go.Extern.Stop Go.Stop Go.Extern

theorem set_past (w : World) (o : Obj) (n : Nat) (v : Value) (h : n < w.heap.size) : (w.alloc o).setCell ⟨n, 0, none⟩ v = (w.setCell ⟨n, 0, none⟩ v).alloc o := World.setCell_alloc_past o n 0 v h
theorem set_size (w : World) (n : Nat) (v : Value) : (w.setCell ⟨n, 0, none⟩ v).heap.size = w.heap.size := by simp
/-- What is set behind two new blocks. -/
theorem set_two (w : World) (o1 o2 : Obj) (n : Nat) (v : Value) (h : n < w.heap.size) : Below w.heap.size (w.setCell ⟨n, 0, none⟩ v) (((w.alloc o1).alloc o2).setCell ⟨n, 0, none⟩ v) := by
  rw [set_past _ _ _ _ (by simp; omega), set_past _ _ _ _ h]
  exact ((Below.refl _ _).alloc (by simp) _).alloc (by first | (simp; done) | (simp; omega)) _
theorem set_more (w : World) (o1 o2 : Obj) (n : Nat) (v : Value) (w' : World) (h : n < w.heap.size) (hb : Below ((w.alloc o1).alloc o2).heap.size (((w.alloc o1).alloc o2).setCell ⟨n, 0, none⟩ v) w') : Below w.heap.size (w.setCell ⟨n, 0, none⟩ v) w' :=
  (set_two w o1 o2 n v h).trans (hb.mono (by simp; omega))
theorem asF_b (b n : Nat) (a : Addr) (old : Value) (w : World) (ha : w.cell? a = some (.pointer (some ⟨n, 0, none⟩))) (ht : w.cell? ⟨n, 0, none⟩ = some old) (hf : w.frozen? ⟨n, 0, none⟩ = false) :
    Calls Tryz.prog 58 #[FV b, .iface 106 (.pointer (some ⟨n, 0, none⟩)), .agg #[.pointer (some ⟨4, 106, none⟩), .pointer (some a), .int .u64 150], .iface 115 (.agg #[.pointer (some ⟨4, 71, none⟩)])] w
      fun r w' => r = .returned (.bool true) ∧ Below w.heap.size (w.setCell ⟨n, 0, none⟩ (.pointer (some ⟨b, 0, none⟩))) w' := by
  refine (as_fault b ⟨n, 0, none⟩ a old w ha ht hf).mono ?_
  rintro r w' ⟨rfl, rfl⟩
  exact ⟨rfl, set_two _ _ _ _ _ (cell_lt ht)⟩
theorem asN_b (e : Int) (v : Value) (l : List Int) (n : Nat) (a : Addr) (old : Value) (w : World) (hc : Ch w e v l) (ha : w.cell? a = some (.pointer (some ⟨n, 0, none⟩))) (ht : w.cell? ⟨n, 0, none⟩ = some old) (hf : w.frozen? ⟨n, 0, none⟩ = false) :
    Calls Tryz.prog 58 #[v, .iface 70 (.pointer (some ⟨n, 0, none⟩)), .agg #[.pointer (some ⟨4, 70, none⟩), .pointer (some a), .int .u64 150], .iface 115 (.agg #[.pointer (some ⟨4, 33, none⟩)])] w
      fun r w' => r = .returned (.bool true) ∧ Below w.heap.size (w.setCell ⟨n, 0, none⟩ (.int .i64 e)) w' := by
  refine (as_num e v l ⟨n, 0, none⟩ a old w hc ha ht hf).mono ?_
  rintro r w' ⟨rfl, rfl⟩
  exact ⟨rfl, set_two _ _ _ _ _ (cell_lt ht)⟩
/-- Where the library's variable of the type error lies. -/
def ETab (w : World) : Prop := w.cell? ⟨0, 0, none⟩ = some (.iface 115 (.agg #[.pointer (some ⟨4, 25, none⟩)]))

/-- errors.As, of nil. -/
theorem eAs_nil (t : Value) (w : World) : Calls Tryz.prog 34 #[.nilIface, t] w fun r w' => r = .returned (.bool false) ∧ w = w' := by
  go_enter Tryz.func34, Tryz.ntmps34
  go_wp2
  go_ret
  exact ⟨rfl, rfl⟩

set_option maxHeartbeats 1000000 in
/-- errors.As, of a fault, for a variable of *Fault: it gets the fault. -/
theorem eAs_fault (b : Nat) (n : Nat) (old : Value) (w : World) (hE : ETab w) (ht : w.cell? ⟨n, 0, none⟩ = some old) (hf : w.frozen? ⟨n, 0, none⟩ = false) :
    Calls Tryz.prog 34 #[FV b, .iface 106 (.pointer (some ⟨n, 0, none⟩))] w fun r w' => r = .returned (.bool true) ∧ Below w.heap.size (w.setCell ⟨n, 0, none⟩ (.pointer (some ⟨b, 0, none⟩))) w' := by
  have h26 := x26; have h27 := x27; have h28 := x28; have h46 := x46; have h56 := x56; have h57 := x57
  have f26 := valueOf43
  have f27 := type43
  have mK := methodKind
  have mE := methodElem
  have mI := methodImplements
  have kP := kind43
  have kT := kind41
  have eP := elem43
  have iT := implements41
  have htl : n < w.heap.size := cell_lt ht
  have n28 := isNil43 ⟨w.heap.size, 0, none⟩ ⟨n, 0, none⟩ ((w.alloc (.cells #[.pointer (some ⟨n, 0, none⟩)] 106)).alloc (.cells #[.pointer (some ⟨4, 106, none⟩), .pointer (some ⟨w.heap.size, 0, none⟩), .int .u64 150] 97)) (by simp)
  have hg2 : ((w.alloc (.cells #[.pointer (some ⟨n, 0, none⟩)] 106)).alloc (.cells #[.pointer (some ⟨4, 106, none⟩), .pointer (some ⟨w.heap.size, 0, none⟩), .int .u64 150] 97)).cell? ⟨0, 0, none⟩ = some (.iface 115 (.agg #[.pointer (some ⟨4, 25, none⟩)])) := by
    have hlt := cell_lt hE
    rw [World.cell?_alloc_lt _ _ ⟨0, 0, none⟩ (by simp), World.cell?_alloc_lt _ _ ⟨0, 0, none⟩ hlt]; exact hE
  have ha2 : ((w.alloc (.cells #[.pointer (some ⟨n, 0, none⟩)] 106)).alloc (.cells #[.pointer (some ⟨4, 106, none⟩), .pointer (some ⟨w.heap.size, 0, none⟩), .int .u64 150] 97)).cell? ⟨w.heap.size, 0, none⟩ = some (.pointer (some ⟨n, 0, none⟩)) := by
    rw [World.cell?_alloc_lt _ _ ⟨w.heap.size, 0, none⟩ (by simp)]; simp
  have ht2 : ((w.alloc (.cells #[.pointer (some ⟨n, 0, none⟩)] 106)).alloc (.cells #[.pointer (some ⟨4, 106, none⟩), .pointer (some ⟨w.heap.size, 0, none⟩), .int .u64 150] 97)).cell? ⟨n, 0, none⟩ = some old := by
    rw [World.cell?_alloc_lt _ _ ⟨n, 0, none⟩ (by simp; omega), World.cell?_alloc_lt _ _ ⟨n, 0, none⟩ htl]; exact ht
  have hf2 : ((w.alloc (.cells #[.pointer (some ⟨n, 0, none⟩)] 106)).alloc (.cells #[.pointer (some ⟨4, 106, none⟩), .pointer (some ⟨w.heap.size, 0, none⟩), .int .u64 150] 97)).frozen? ⟨n, 0, none⟩ = false := by
    rw [World.frozen?_alloc_old _ _ ⟨n, 0, none⟩ (by simp; omega), World.frozen?_alloc_old _ _ ⟨n, 0, none⟩ (Nat.ne_of_lt htl)]; exact hf
  have HC := Lib.hid (asF_b b n ⟨w.heap.size, 0, none⟩ old _ ha2 ht2 hf2)
  unfold FV at HC ⊢
  clear ht2 hf2 ha2 ht hf hE
  go_enter Tryz.func34, Tryz.ntmps34
  go_wp2_with (go_at_call 58; with_reducible refine (HC.out).mono ?_; rintro e w3 ⟨rfl, hb⟩; have HB := Lib.hid hb; clear hb)
  go_ret
  exact ⟨rfl, set_more _ _ _ _ _ _ htl HB.out⟩

set_option maxHeartbeats 1000000 in
/-- errors.As, of faults that wrap a number, for a variable of Errno: it gets the number. -/
theorem eAs_num (e : Int) (v : Value) (l : List Int) (n : Nat) (old : Value) (w : World) (hE : ETab w) (hc : Ch w e v l) (ht : w.cell? ⟨n, 0, none⟩ = some old) (hf : w.frozen? ⟨n, 0, none⟩ = false) :
    Calls Tryz.prog 34 #[v, .iface 70 (.pointer (some ⟨n, 0, none⟩))] w fun r w' => r = .returned (.bool true) ∧ Below w.heap.size (w.setCell ⟨n, 0, none⟩ (.int .i64 e)) w' := by
  have h26 := x26; have h27 := x27; have h28 := x28; have h46 := x46; have h56 := x56; have h57 := x57
  have f26 := valueOf50
  have f27 := type50
  have mK := methodKind
  have mE := methodElem
  have mI := methodImplements
  have kP := kind50
  have kT := kind32
  have eP := elem50
  have iT := implements32
  have htl : n < w.heap.size := cell_lt ht
  have n28 := isNil50 ⟨w.heap.size, 0, none⟩ ⟨n, 0, none⟩ ((w.alloc (.cells #[.pointer (some ⟨n, 0, none⟩)] 70)).alloc (.cells #[.pointer (some ⟨4, 70, none⟩), .pointer (some ⟨w.heap.size, 0, none⟩), .int .u64 150] 97)) (by simp)
  have hg2 : ((w.alloc (.cells #[.pointer (some ⟨n, 0, none⟩)] 70)).alloc (.cells #[.pointer (some ⟨4, 70, none⟩), .pointer (some ⟨w.heap.size, 0, none⟩), .int .u64 150] 97)).cell? ⟨0, 0, none⟩ = some (.iface 115 (.agg #[.pointer (some ⟨4, 25, none⟩)])) := by
    have hlt := cell_lt hE
    rw [World.cell?_alloc_lt _ _ ⟨0, 0, none⟩ (by simp), World.cell?_alloc_lt _ _ ⟨0, 0, none⟩ hlt]; exact hE
  have ha2 : ((w.alloc (.cells #[.pointer (some ⟨n, 0, none⟩)] 70)).alloc (.cells #[.pointer (some ⟨4, 70, none⟩), .pointer (some ⟨w.heap.size, 0, none⟩), .int .u64 150] 97)).cell? ⟨w.heap.size, 0, none⟩ = some (.pointer (some ⟨n, 0, none⟩)) := by
    rw [World.cell?_alloc_lt _ _ ⟨w.heap.size, 0, none⟩ (by simp)]; simp
  have ht2 : ((w.alloc (.cells #[.pointer (some ⟨n, 0, none⟩)] 70)).alloc (.cells #[.pointer (some ⟨4, 70, none⟩), .pointer (some ⟨w.heap.size, 0, none⟩), .int .u64 150] 97)).cell? ⟨n, 0, none⟩ = some old := by
    rw [World.cell?_alloc_lt _ _ ⟨n, 0, none⟩ (by simp; omega), World.cell?_alloc_lt _ _ ⟨n, 0, none⟩ htl]; exact ht
  have hf2 : ((w.alloc (.cells #[.pointer (some ⟨n, 0, none⟩)] 70)).alloc (.cells #[.pointer (some ⟨4, 70, none⟩), .pointer (some ⟨w.heap.size, 0, none⟩), .int .u64 150] 97)).frozen? ⟨n, 0, none⟩ = false := by
    rw [World.frozen?_alloc_old _ _ ⟨n, 0, none⟩ (by simp; omega), World.frozen?_alloc_old _ _ ⟨n, 0, none⟩ (Nat.ne_of_lt htl)]; exact hf
  have HC := Lib.hid (asN_b e v l n ⟨w.heap.size, 0, none⟩ old _ ((hc.call (new1 w (.cells #[.pointer (some ⟨n, 0, none⟩)] 70))).call (new1 _ (.cells #[.pointer (some ⟨4, 70, none⟩), .pointer (some ⟨w.heap.size, 0, none⟩), .int .u64 150] 97))) ha2 ht2 hf2)
  obtain ⟨ut, ux, rfl⟩ := hc.iface
  clear hc
  clear ht2 hf2 ha2 ht hf hE
  go_enter Tryz.func34, Tryz.ntmps34
  go_wp2_with (go_at_call 58; with_reducible refine (HC.out).mono ?_; rintro e w3 ⟨rfl, hb⟩; have HB := Lib.hid hb; clear hb)
  go_ret
  exact ⟨rfl, set_more _ _ _ _ _ _ htl HB.out⟩

theorem asNone_b (e : Int) (t a : Addr) (w : World) :
    Calls Tryz.prog 58 #[NV e, .iface 106 (.pointer (some t)), .agg #[.pointer (some ⟨4, 106, none⟩), .pointer (some a), .int .u64 150], .iface 115 (.agg #[.pointer (some ⟨4, 71, none⟩)])] w
      fun r w' => r = .returned (.bool false) ∧ Below w.heap.size w w' := by
  refine (as_none e t a w).mono ?_
  rintro r w' ⟨rfl, rfl⟩
  exact ⟨rfl, new1 _ _⟩

set_option maxHeartbeats 1000000 in
/-- errors.As, of a number, for a variable of *Fault: there is none. -/
theorem eAs_none (e : Int) (n : Nat) (old : Value) (w : World) (hE : ETab w) (ht : w.cell? ⟨n, 0, none⟩ = some old) (hf : w.frozen? ⟨n, 0, none⟩ = false) :
    Calls Tryz.prog 34 #[NV e, .iface 106 (.pointer (some ⟨n, 0, none⟩))] w fun r w' => r = .returned (.bool false) ∧ Below w.heap.size w w' := by
  have h26 := x26; have h27 := x27; have h28 := x28; have h46 := x46; have h56 := x56; have h57 := x57
  have f26 := valueOf43
  have f27 := type43
  have mK := methodKind
  have mE := methodElem
  have mI := methodImplements
  have kP := kind43
  have kT := kind41
  have eP := elem43
  have iT := implements41
  have htl : n < w.heap.size := cell_lt ht
  have n28 := isNil43 ⟨w.heap.size, 0, none⟩ ⟨n, 0, none⟩ ((w.alloc (.cells #[.pointer (some ⟨n, 0, none⟩)] 106)).alloc (.cells #[.pointer (some ⟨4, 106, none⟩), .pointer (some ⟨w.heap.size, 0, none⟩), .int .u64 150] 97)) (by simp)
  have hg2 : ((w.alloc (.cells #[.pointer (some ⟨n, 0, none⟩)] 106)).alloc (.cells #[.pointer (some ⟨4, 106, none⟩), .pointer (some ⟨w.heap.size, 0, none⟩), .int .u64 150] 97)).cell? ⟨0, 0, none⟩ = some (.iface 115 (.agg #[.pointer (some ⟨4, 25, none⟩)])) := by
    have hlt := cell_lt hE
    rw [World.cell?_alloc_lt _ _ ⟨0, 0, none⟩ (by simp), World.cell?_alloc_lt _ _ ⟨0, 0, none⟩ hlt]; exact hE
  have ha2 : ((w.alloc (.cells #[.pointer (some ⟨n, 0, none⟩)] 106)).alloc (.cells #[.pointer (some ⟨4, 106, none⟩), .pointer (some ⟨w.heap.size, 0, none⟩), .int .u64 150] 97)).cell? ⟨w.heap.size, 0, none⟩ = some (.pointer (some ⟨n, 0, none⟩)) := by
    rw [World.cell?_alloc_lt _ _ ⟨w.heap.size, 0, none⟩ (by simp)]; simp
  have ht2 : ((w.alloc (.cells #[.pointer (some ⟨n, 0, none⟩)] 106)).alloc (.cells #[.pointer (some ⟨4, 106, none⟩), .pointer (some ⟨w.heap.size, 0, none⟩), .int .u64 150] 97)).cell? ⟨n, 0, none⟩ = some old := by
    rw [World.cell?_alloc_lt _ _ ⟨n, 0, none⟩ (by simp; omega), World.cell?_alloc_lt _ _ ⟨n, 0, none⟩ htl]; exact ht
  have hf2 : ((w.alloc (.cells #[.pointer (some ⟨n, 0, none⟩)] 106)).alloc (.cells #[.pointer (some ⟨4, 106, none⟩), .pointer (some ⟨w.heap.size, 0, none⟩), .int .u64 150] 97)).frozen? ⟨n, 0, none⟩ = false := by
    rw [World.frozen?_alloc_old _ _ ⟨n, 0, none⟩ (by simp; omega), World.frozen?_alloc_old _ _ ⟨n, 0, none⟩ (Nat.ne_of_lt htl)]; exact hf
  have HC := Lib.hid (asNone_b e ⟨n, 0, none⟩ ⟨w.heap.size, 0, none⟩ ((w.alloc (.cells #[.pointer (some ⟨n, 0, none⟩)] 106)).alloc (.cells #[.pointer (some ⟨4, 106, none⟩), .pointer (some ⟨w.heap.size, 0, none⟩), .int .u64 150] 97)))
  unfold NV at HC ⊢
  clear ht2 hf2 ha2 ht hf hE
  go_enter Tryz.func34, Tryz.ntmps34
  go_wp2_with (go_at_call 58; with_reducible refine (HC.out).mono ?_; rintro e w3 ⟨rfl, hb⟩; have HB := Lib.hid hb; clear hb)
  go_ret
  exact ⟨rfl, ((new1 w _).trans ((new1 _ _).mono (by simp))).trans (HB.out.mono (by simp; omega))⟩
end Go.Proofs.YtndbgdapojkfaaaGreatDoor.Flt
