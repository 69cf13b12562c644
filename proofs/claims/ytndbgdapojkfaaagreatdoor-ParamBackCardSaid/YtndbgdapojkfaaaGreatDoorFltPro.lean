/- Contracts of package fault: isNil, New, In, Code, Is. -/
import Derived.Test.YtndbgdapojkfaaaGreatDoorFltEAs
namespace Go.Proofs.YtndbgdapojkfaaaGreatDoor.Flt
open Go.RowKit

/-- What a call may have made. -/
structure Bl (w w1 : World) : Prop where
  below : Below w.heap.size w w1
  le : w.heap.size ≤ w1.heap.size
theorem Bl.refl (w : World) : Bl w w := ⟨Below.refl _ _, Nat.le_refl _⟩
theorem Bl.call {w w1 w2 : World} (h : Bl w w1) (hb : Below w1.heap.size w1 w2) : Bl w w2 := ⟨h.below.trans (hb.mono h.le), by have := hb.size; have := h.le; omega⟩
theorem ETab.call {w w1 : World} (h : ETab w) (hb : Below w.heap.size w w1) : ETab w1 := by
  unfold ETab at h ⊢
  rw [hb.cell (p := ⟨0, 0, none⟩) (cell_lt h)]
  exact h
theorem Bl.tab {w w1 : World} (h : Bl w w1) (hT : ETab w) : ETab w1 := hT.call h.below

/-- An error: none, or one that wraps this number at these places. -/
inductive Er (w : World) (e : Int) : Value → List Int → Prop
  | none : Er w e .nilIface []
  | some (b : Nat) (l : List Int) (h : Ch w e (FV b) l) : Er w e (FV b) l
theorem Er.call {w w1 : World} {e : Int} {v : Value} {l : List Int} (h : Er w e v l) (hb : Below w.heap.size w w1) : Er w1 e v l := by
  cases h with
  | none => exact .none
  | some b l h => exact .some b l (h.call hb)

theorem eql_none {b : Addr} (w : World) : (binOp .eql 25 (.iface 71 (.pointer (some b))) (.iface 71 (.pointer none))).run Tryz.prog w = .ok (.bool false) w := by
  obtain ⟨i, hi, hcmp⟩ := Option.map_eq_some_iff.1 (show (Tryz.prog.info? 71).map (·.comparable) = some true by kernel_rfl)
  have h : ∀ d : Nat, (Op.equalIn (d + 2) 25 (.iface 71 (.pointer (some b))) (.iface 71 (.pointer none))).run Tryz.prog w = .ok false w := fun d => by
    simp [Op.equalIn, run_underlying Tryz.underlying25, run_underlying Tryz.underlying71, typeInfo, hi, hcmp]
  simp only [binOp]
  simp [Op.equal, Op.maxDepth, h 9998]
theorem new_nil (at' : Int) (w : World) : Calls Tryz.prog 48 #[.int .i64 0, .int .i64 at'] w fun r w' => r = .returned .nilIface ∧ w = w' := by
  go_enter Tryz.func48, Tryz.ntmps48
  go_wp2
  go_ret
  exact ⟨rfl, rfl⟩
theorem new_some (e at' : Int) (he : (e == 0) = false) (w : World) : Calls Tryz.prog 48 #[.int .i64 e, .int .i64 at'] w fun r w' => r = .returned (FV w.heap.size) ∧ w' = w.alloc (.cells #[.int .i64 at', NV e] 74) := by
  unfold NV FV
  go_enter Tryz.func48, Tryz.ntmps48
  go_wp2
  go_ret
  exact ⟨rfl, rfl⟩
/-- A new fault over what there is. -/
theorem Ch.more {w : World} {e : Int} {v : Value} {l : List Int} (h : Ch w e v l) (a : Int) (hr : rank v ≤ w.heap.size) : Ch (w.alloc (.cells #[.int .i64 a, v] 74)) e (FV w.heap.size) (a :: l) := by
  have h0 : (w.alloc (.cells #[.int .i64 a, v] 74)).heap[w.heap.size]? = some (.cells #[.int .i64 a, v] 74) := heap_alloc_new w _
  refine .cons w.heap.size v a l ?_ ?_ (h.call (new1 w _)) (by show rank v < w.heap.size + 1; omega)
  · rw [cell_of_row _ w.heap.size 0 _ 74 _ h0]; rfl
  · rw [cell_of_row _ w.heap.size 1 _ 74 _ h0]; rfl
theorem Ch.rank {w : World} {e : Int} {v : Value} {l : List Int} (h : Ch w e v l) : rank v ≤ w.heap.size := by
  cases h with
  | num => exact Nat.zero_le _
  | cons b u a l h0 _ _ _ => exact cell_lt h0
theorem new_any (e a : Int) (w : World) : Calls Tryz.prog 48 #[.int .i64 e, .int .i64 a] w fun r w' => ∃ v, r = .returned v ∧ Er w' e v (if (e == 0) = true then [] else [a]) ∧ Below w.heap.size w w' := by
  rcases h : (e == 0) with _ | _
  · refine (new_some e a h w).mono ?_
    rintro r w' ⟨rfl, rfl⟩
    exact ⟨_, rfl, .some _ _ ((Ch.num (w := w) (e := e)).more a (Nat.zero_le _)), new1 _ _⟩
  · obtain rfl : e = 0 := by simpa using h
    refine (new_nil a w).mono ?_
    rintro r w' ⟨rfl, rfl⟩
    exact ⟨_, rfl, .none, Below.refl _ _⟩
theorem code_any (e : Int) (v : Value) (l : List Int) (w : World) (hE : ETab w) (h : Er w e v l) : Calls Tryz.prog 12 #[v] w fun r w' => r = .returned (.int .i64 (if l = [] then 0 else e)) ∧ Below w.heap.size w w' := by
  cases h with
  | none =>
    have H := Lib.hid (fun t W => eAs_nil t W)
    go_enter Tryz.func12, Tryz.ntmps12
    go_wp2_with (go_at_call 34; with_reducible refine (H.out _ _).mono ?_; rintro e w0 ⟨rfl, rfl⟩)
    go_ret
    exact ⟨rfl, new1 _ _⟩
  | some b l h =>
    have hn : l ≠ [] := by rintro rfl; cases h
    rw [if_neg hn]
    have H := Lib.hid (eAs_num e (FV b) l w.heap.size (.int .i64 0) (w.alloc (.cells #[.int .i64 0] 33)) (hE.call (new1 _ _)) (h.call (new1 _ _)) (by simp) (by simp))
    have HB : ∀ w', Below (w.alloc (.cells #[.int .i64 0] 33)).heap.size ((w.alloc (.cells #[.int .i64 0] 33)).setCell ⟨w.heap.size, 0, none⟩ (.int .i64 e)) w' → w'.cell? ⟨w.heap.size, 0, none⟩ = some (.int .i64 e) ∧ Below w.heap.size w w' := by
      intro w' hb
      refine ⟨?_, ((new1 w _).setCell (p := ⟨w.heap.size, 0, none⟩) (by simp) _).trans (hb.mono (by simp))⟩
      rw [hb.cell (p := ⟨w.heap.size, 0, none⟩) (by simp)]
      exact World.cell?_setCell_same _ _ _ (show (w.alloc (.cells #[.int .i64 0] 33)).cell? ⟨w.heap.size, 0, none⟩ = some (.int .i64 0) by simp)
    have HB2 := Lib.hid HB
    clear HB h
    unfold FV at H ⊢
    go_enter Tryz.func12, Tryz.ntmps12
    go_wp2_with (go_at_call 34; with_reducible refine (H.out).mono ?_; rintro e w1 ⟨rfl, hb⟩; obtain ⟨hc, hbl⟩ := HB2.out _ hb; have HL := Lib.hid hbl; clear hb hbl)
    go_ret
    exact ⟨rfl, HL.out⟩
end Go.Proofs.YtndbgdapojkfaaaGreatDoor.Flt
