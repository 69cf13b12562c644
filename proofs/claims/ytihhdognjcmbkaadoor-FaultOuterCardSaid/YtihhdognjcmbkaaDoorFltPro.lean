/- Contracts of package fault: isNil, New, In, Code, Is. -/
import Derived.Test.YtihhdognjcmbkaaDoorFltEAs
namespace Go.Proofs.YtihhdognjcmbkaaDoor.Flt
open Go.RowKit

/-- What a call may have made. -/
structure Bl (w w1 : World) : Prop where
  below : Below w.heap.size w w1
  le : w.heap.size ≤ w1.heap.size
theorem Bl.refl (w : World) : Bl w w := ⟨Below.refl _ _, Nat.le_refl _⟩
theorem Bl.call {w w1 w2 : World} (h : Bl w w1) (hb : Below w1.heap.size w1 w2) : Bl w w2 := ⟨h.below.trans (hb.mono h.le), by have := hb.size; have := h.le; omega⟩
theorem ETab.call {w w1 : World} (h : ETab w) (hb : Below w.heap.size w w1) : ETab w1 := by
  unfold ETab at h ⊢
  rw [hb.cell (p := ⟨0, 0, none⟩) (cell_lt h)]
  exact h
theorem Bl.tab {w w1 : World} (h : Bl w w1) (hT : ETab w) : ETab w1 := hT.call h.below

/-- An error: none, or one that wraps this number at these places. -/
inductive Er (w : World) (e : Int) : Value → List Int → Prop
  | none : Er w e .nilIface []
  | some (b : Nat) (l : List Int) (h : Ch w e (FV b) l) : Er w e (FV b) l
theorem Er.call {w w1 : World} {e : Int} {v : Value} {l : List Int} (h : Er w e v l) (hb : Below w.heap.size w w1) : Er w1 e v l := by
  cases h with
  | none => exact .none
  | some b l h => exact .some b l (h.call hb)

theorem eql_none {b : Addr} (w : World) : (binOp .eql 26 (.iface 41 (.pointer (some b))) (.iface 41 (.pointer none))).run Tryd.prog w = .ok (.bool false) w := by
  obtain ⟨i, hi, hcmp⟩ := Option.map_eq_some_iff.1 (show (Tryd.prog.info? 41).map (·.comparable) = some true by kernel_rfl)
  have h : ∀ d : Nat, (Op.equalIn (d + 2) 26 (.iface 41 (.pointer (some b))) (.iface 41 (.pointer none))).run Tryd.prog w = .ok false w := fun d => by
    simp [Op.equalIn, run_underlying Tryd.underlying26, run_underlying Tryd.underlying41, typeInfo, hi, hcmp]
  simp only [binOp]
  simp [Op.equal, Op.maxDepth, h 9998]
theorem isnil_nil (w : World) : Calls Tryd.prog 25 #[.nilIface] w fun r w' => r = .returned (.bool true) ∧ w = w' := by
  go_enter Tryd.func25, Tryd.ntmps25
  go_wp2
  go_ret
  exact ⟨rfl, rfl⟩
theorem isnil_some (b : Nat) (w : World) : Calls Tryd.prog 25 #[FV b] w fun r w' => r = .returned (.bool false) ∧ w = w' := by
  have he : (binOp .eql 26 (.iface 41 (.pointer (some ⟨b, 0, none⟩))) (.iface 41 (.pointer none))).run Tryd.prog w = .ok (.bool false) w := eql_none w
  unfold FV
  go_enter Tryd.func25, Tryd.ntmps25
  go_wp2
  go_ret
  exact ⟨rfl, rfl⟩

theorem new_nil (at' : Int) (w : World) : Calls Tryd.prog 23 #[.int .i64 0, .int .i64 at'] w fun r w' => r = .returned .nilIface ∧ w = w' := by
  go_enter Tryd.func23, Tryd.ntmps23
  go_wp2
  go_ret
  exact ⟨rfl, rfl⟩
theorem new_some (e at' : Int) (he : (e == 0) = false) (w : World) : Calls Tryd.prog 23 #[.int .i64 e, .int .i64 at'] w fun r w' => r = .returned (FV w.heap.size) ∧ w' = w.alloc (.cells #[.int .i64 at', NV e] 45) := by
  unfold NV FV
  go_enter Tryd.func23, Tryd.ntmps23
  go_wp2
  go_ret
  exact ⟨rfl, rfl⟩
theorem in_nil (by' : Int) (w : World) : Calls Tryd.prog 22 #[.nilIface, .int .i64 by'] w fun r w' => r = .returned .nilIface ∧ w = w' := by
  have H := Lib.hid (fun W => isnil_nil W)
  go_enter Tryd.func22, Tryd.ntmps22
  go_wp2_with (go_at_call 25; with_reducible refine (H.out _).mono ?_; rintro e w0 ⟨rfl, rfl⟩)
  go_ret
  exact ⟨rfl, rfl⟩
theorem in_some (b : Nat) (by' : Int) (w : World) : Calls Tryd.prog 22 #[FV b, .int .i64 by'] w fun r w' => r = .returned (FV w.heap.size) ∧ w' = w.alloc (.cells #[.int .i64 by', FV b] 45) := by
  have H := Lib.hid (fun W => isnil_some b W)
  unfold FV at H ⊢
  go_enter Tryd.func22, Tryd.ntmps22
  go_wp2_with (go_at_call 25; with_reducible refine (H.out _).mono ?_; rintro e w0 ⟨rfl, rfl⟩)
  go_ret
  exact ⟨rfl, rfl⟩
/-- A new fault over what there is. -/
theorem Ch.more {w : World} {e : Int} {v : Value} {l : List Int} (h : Ch w e v l) (a : Int) (hr : rank v ≤ w.heap.size) : Ch (w.alloc (.cells #[.int .i64 a, v] 45)) e (FV w.heap.size) (a :: l) := by
  have h0 : (w.alloc (.cells #[.int .i64 a, v] 45)).heap[w.heap.size]? = some (.cells #[.int .i64 a, v] 45) := heap_alloc_new w _
  refine .cons w.heap.size v a l ?_ ?_ (h.call (new1 w _)) (by show rank v < w.heap.size + 1; omega)
  · rw [cell_of_row _ w.heap.size 0 _ 45 _ h0]; rfl
  · rw [cell_of_row _ w.heap.size 1 _ 45 _ h0]; rfl
theorem Ch.rank {w : World} {e : Int} {v : Value} {l : List Int} (h : Ch w e v l) : rank v ≤ w.heap.size := by
  cases h with
  | num => exact Nat.zero_le _
  | cons b u a l h0 _ _ _ => exact cell_lt h0
theorem new_any (e a : Int) (w : World) : Calls Tryd.prog 23 #[.int .i64 e, .int .i64 a] w fun r w' => ∃ v, r = .returned v ∧ Er w' e v (if (e == 0) = true then [] else [a]) ∧ Below w.heap.size w w' := by
  rcases h : (e == 0) with _ | _
  · refine (new_some e a h w).mono ?_
    rintro r w' ⟨rfl, rfl⟩
    exact ⟨_, rfl, .some _ _ ((Ch.num (w := w) (e := e)).more a (Nat.zero_le _)), new1 _ _⟩
  · obtain rfl : e = 0 := by simpa using h
    refine (new_nil a w).mono ?_
    rintro r w' ⟨rfl, rfl⟩
    exact ⟨_, rfl, .none, Below.refl _ _⟩
theorem in_any (e a : Int) (v : Value) (l : List Int) (w : World) (h : Er w e v l) : Calls Tryd.prog 22 #[v, .int .i64 a] w fun r w' => ∃ v', r = .returned v' ∧ Er w' e v' (if l = [] then [] else a :: l) ∧ Below w.heap.size w w' := by
  cases h with
  | none =>
    refine (in_nil a w).mono ?_
    rintro r w' ⟨rfl, rfl⟩
    exact ⟨_, rfl, .none, Below.refl _ _⟩
  | some b l h =>
    refine (in_some b a w).mono ?_
    rintro r w' ⟨rfl, rfl⟩
    have hn : l ≠ [] := by rintro rfl; cases h
    rw [if_neg hn]
    exact ⟨_, rfl, .some _ _ (h.more a h.rank), new1 _ _⟩

theorem code_any (e : Int) (v : Value) (l : List Int) (w : World) (hE : ETab w) (h : Er w e v l) : Calls Tryd.prog 10 #[v] w fun r w' => r = .returned (.int .i64 (if l = [] then 0 else e)) ∧ Below w.heap.size w w' := by
  cases h with
  | none =>
    have H := Lib.hid (fun t W => eAs_nil t W)
    go_enter Tryd.func10, Tryd.ntmps10
    go_wp2_with (go_at_call 19; with_reducible refine (H.out _ _).mono ?_; rintro e w0 ⟨rfl, rfl⟩)
    go_ret
    exact ⟨rfl, new1 _ _⟩
  | some b l h =>
    have hn : l ≠ [] := by rintro rfl; cases h
    rw [if_neg hn]
    have H := Lib.hid (eAs_num e (FV b) l w.heap.size (.int .i64 0) (w.alloc (.cells #[.int .i64 0] 32)) (hE.call (new1 _ _)) (h.call (new1 _ _)) (by simp) (by simp))
    have HB : ∀ w', Below (w.alloc (.cells #[.int .i64 0] 32)).heap.size ((w.alloc (.cells #[.int .i64 0] 32)).setCell ⟨w.heap.size, 0, none⟩ (.int .i64 e)) w' → w'.cell? ⟨w.heap.size, 0, none⟩ = some (.int .i64 e) ∧ Below w.heap.size w w' := by
      intro w' hb
      refine ⟨?_, ((new1 w _).setCell (p := ⟨w.heap.size, 0, none⟩) (by simp) _).trans (hb.mono (by simp))⟩
      rw [hb.cell (p := ⟨w.heap.size, 0, none⟩) (by simp)]
      exact World.cell?_setCell_same _ _ _ (show (w.alloc (.cells #[.int .i64 0] 32)).cell? ⟨w.heap.size, 0, none⟩ = some (.int .i64 0) by simp)
    have HB2 := Lib.hid HB
    clear HB h
    unfold FV at H ⊢
    go_enter Tryd.func10, Tryd.ntmps10
    go_wp2_with (go_at_call 19; with_reducible refine (H.out).mono ?_; rintro e w1 ⟨rfl, hb⟩; obtain ⟨hc, hbl⟩ := HB2.out _ hb; have HL := Lib.hid hbl; clear hb hbl)
    go_ret
    exact ⟨rfl, HL.out⟩
theorem is_any (e k : Int) (v : Value) (l : List Int) (w : World) (h : Er w e v l) : Calls Tryd.prog 16 #[v, .int .i64 k] w fun r w' => r = .returned (.bool ((if l = [] then 0 else e) == k)) ∧ w = w' := by
  cases h with
  | none =>
    rw [if_pos rfl]
    have HI := Lib.hid (fun W => isnil_nil W)
    go_enter Tryd.func16, Tryd.ntmps16
    go_wp2_with (go_at_call 25; with_reducible refine (HI.out _).mono ?_; rintro e w0 ⟨rfl, rfl⟩)
    go_ret
    exact ⟨by rw [BEq.comm (a := (0 : Int))]; rfl, rfl⟩
  | some b l h =>
    have hn : l ≠ [] := by rintro rfl; cases h
    rw [if_neg hn]
    have HI := Lib.hid (fun W => isnil_some b W)
    have H := Lib.hid (eIs_any k e (FV b) l w h)
    clear h hn
    unfold FV at HI
    unfold NV FV at H
    unfold FV
    go_enter Tryd.func16, Tryd.ntmps16
    go_wp2_with (first
      | (go_at_call 25; with_reducible refine (HI.out _).mono ?_; rintro e w0 ⟨rfl, rfl⟩)
      | (go_at_call 18; with_reducible refine (H.out).mono ?_; rintro e w1 ⟨rfl, rfl⟩))
    go_ret
    exact ⟨rfl, rfl⟩
end Go.Proofs.YtihhdognjcmbkaaDoor.Flt
