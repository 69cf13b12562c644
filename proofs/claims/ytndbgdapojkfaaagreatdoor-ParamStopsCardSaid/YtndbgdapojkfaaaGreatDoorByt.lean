/- Bytes of a call's own: a slice that is appended to, a text made into bytes and back. -/
import Derived.Test.YtndbgdapojkfaaaGreatDoorChecked
import Derived.WalkKit
import Derived.Below
import Derived.Lib.Hide
import Derived.Lib.SmallJoins
import Derived.Lib.AppendStr
import Derived.Laws.BytesArg
import Derived.Laws.IdiomStrings
import Derived.Laws.MakeOwn
import Derived.Laws.Rows
import Derived.Deep.OwnRows
import Derived.WalkSpells
namespace Go.Proofs.YtndbgdapojkfaaaGreatDoor.Byt
open Go.RowKit Go.Deep Go.Lib

theorem cell_lt {w : World} {a : Addr} {v : Value} (h : w.cell? a = some v) : a.block < w.heap.size := by
  rcases Nat.lt_or_ge a.block w.heap.size with h' | h'
  · exact h'
  · simp [World.cell?, Array.getElem?_eq_none h'] at h
theorem new1 (w : World) (o : Obj) : Below w.heap.size w (w.alloc o) := (Below.refl _ _).alloc (Nat.le_refl _) _
/-- What a call may have made. -/
structure Bl (w w1 : World) : Prop where
  below : Below w.heap.size w w1
  le : w.heap.size ≤ w1.heap.size
theorem Bl.refl (w : World) : Bl w w := ⟨Below.refl _ _, Nat.le_refl _⟩
theorem Bl.call {w w1 w2 : World} (h : Bl w w1) (hb : Below w1.heap.size w1 w2) : Bl w w2 := ⟨h.below.trans (hb.mono h.le), by have := hb.size; have := h.le; omega⟩
theorem Bl.alloc {w w1 : World} (h : Bl w w1) (o : Obj) : Bl w (w1.alloc o) := h.call (new1 _ _)
theorem Bl.drewN {w w1 : World} (h : Bl w w1) (n : Nat) : Bl w (w1.drewN n) := ⟨h.below.trans ((Joins.below_draws w1.heap.size w1 n).mono h.le), h.le⟩
theorem Bl.drew {w w1 : World} (h : Bl w w1) : Bl w w1.drew := ⟨h.below.drew, h.le⟩

/-- Bytes as cells. -/
def bv (l : List UInt8) : List Value := l.map fun b => Value.int .u8 b.toNat
theorem bv_length (l : List UInt8) : (bv l).length = l.length := by simp [bv]
theorem bv_append (l m : List UInt8) : bv (l ++ m) = bv l ++ bv m := by simp [bv]
theorem bv_getElem? (l : List UInt8) (i : Nat) : (bv l)[i]? = l[i]?.map fun b => Value.int .u8 b.toNat := by simp [bv]
theorem bv_one (l : List UInt8) : ∀ v ∈ bv l, v.oneCell' = true := by
  intro v hv
  obtain ⟨b, _, rfl⟩ := List.mem_map.1 hv
  rfl
theorem info5 : (Tryz.prog.info? 5).map (fun i => (i.zero, i.size, i.bytes)) = some (some (.int .u8 0), 1, 1) := by kernel_rfl
theorem size_mk (l : List UInt8) : (ByteArray.mk l.toArray).size = l.length := by show l.toArray.size = _; simp
theorem mk_list (s : ByteArray) : ByteArray.mk s.data.toList.toArray = s := by cases s; simp
theorem mk_app (a b : List UInt8) : ByteArray.mk a.toArray ++ ByteArray.mk b.toArray = ByteArray.mk (a ++ b).toArray := ByteArray.mk_append_mk a b
theorem len_list (s : ByteArray) : s.data.toList.length = s.size := by simp

/-- A slice of the call's own that holds these bytes. -/
def OwnB (w : World) (B : Nat) (v : Value) (l : List UInt8) : Prop := w.ownsRow B 5 1 v l.length (bv l)
theorem OwnB.nil (w : World) (B : Nat) : OwnB w B (.slice none 0 0) [] := ⟨rfl, .inl ⟨rfl, rfl⟩⟩
theorem OwnB.alloc {w : World} {B : Nat} {v : Value} {l : List UInt8} (h : OwnB w B v l) (o : Obj) : OwnB (w.alloc o) B v l := World.ownsRow.alloc h o
theorem OwnB.base {w : World} {B : Nat} {v : Value} {l : List UInt8} (h : OwnB w B v l) : ∀ k, v.ownBlock = some k → B ≤ k := by
  rcases h.2 with ⟨rfl, h0⟩ | ⟨g, cap, cur, rfl, hB, -⟩
  · intro k hk; simp [Value.ownBlock] at hk
  · intro k hk; simp [Value.ownBlock] at hk; omega
/-- The front of a block is these bytes. -/
theorem OwnB.shape {w : World} {B : Nat} {v : Value} {l : List UInt8} (h : OwnB w B v l) : (v = .slice none 0 0 ∧ l = []) ∨ ∃ g cap, v = .slice (some ⟨g, 0, none⟩) l.length cap ∧ B ≤ g ∧ g < w.heap.size ∧ ∀ i, (hi : i < l.length) → w.cell? ⟨g, i, none⟩ = some (.int .u8 l[i].toNat) := by
  rcases h.2 with ⟨rfl, h0⟩ | ⟨g, cap, cur, rfl, hB, hg, h1, h2, h3, h4⟩
  · exact .inl ⟨rfl, List.eq_nil_of_length_eq_zero h0⟩
  · refine .inr ⟨g, cap, rfl, hB, ?_, fun i hi => ?_⟩
    · by_cases hl : g < w.heap.size
      · exact hl
      · rw [Array.getElem?_eq_none (by omega)] at hg; cases hg
    · rw [cell_of_row w g i cur 5 _ hg]
      have h5 : (bv l)[i]? = some (.int .u8 l[i].toNat) := by rw [bv_getElem?, List.getElem?_eq_getElem hi]; rfl
      rw [← h4, List.getElem?_take, if_pos (by omega)] at h5
      simpa using h5
/-- The slice, made into a text. -/
theorem OwnB.text {w : World} {B : Nat} {v : Value} {l : List UInt8} (h : OwnB w B v l) : (convert 76 9 v).run Tryz.prog w = .ok (.string ⟨l.toArray⟩) w := by
  rcases h.shape with ⟨rfl, rfl⟩ | ⟨g, cap, rfl, _, _, hc⟩
  · simp [convert, run_underlying Tryz.underlying76, run_underlying Tryz.underlying9, run_underlying Tryz.underlying5, Conv.bytesToString]
    try rfl
  · exact run_convert_bytes_back w 76 9 5 ⟨g, 0, none⟩ cap l Tryz.underlying76 Tryz.underlying5 Tryz.underlying9 (fun j hj => by
      have e : (⟨g, 0, none⟩ : Addr).add j = ⟨g, j, none⟩ := by by_cases h0 : j = 0 <;> simp [Addr.add, h0]
      rw [e]; exact hc j hj)

/-- An append of one byte that stands in a new block. -/
theorem append_byte {w wr : World} {v : Value} {l : List UInt8} (h : OwnB wr w.heap.size v l) (hb : Bl w wr) (b : UInt8) {z : Int} (hz : z = b.toNat) (hs : l.length < 140737488355328) :
    ∃ v' w', (Builtin.append_ #[76, 76] 76 #[v, .slice (some ⟨wr.heap.size, 0, none⟩) 1 1]).run Tryz.prog (wr.alloc (.cells #[.int .u8 z] 5)) = .ok v' w' ∧ OwnB w' w.heap.size v' (l ++ [b]) ∧ Bl w w' := by
  subst hz
  obtain ⟨i, hi, hz⟩ := Option.map_eq_some_iff.1 info5
  simp only [Prod.mk.injEq] at hz
  obtain ⟨hz1, hz2, hz3⟩ := hz
  have hB : w.heap.size ≤ (wr.alloc (.cells #[.int .u8 (b.toNat : Int)] 5)).heap.size := by have := hb.le; simp; omega
  obtain ⟨v', w', h1, h2, h3, -⟩ := run_append_own (P := Tryz.prog) (wr.alloc (.cells #[.int .u8 (b.toNat : Int)] 5)) w.heap.size 76 76 5 i (.int .u8 0) 1 1 Tryz.underlying76 hi hz1 hz2 hz3 rfl (by omega) v l.length (bv l) (h.alloc _) ⟨wr.heap.size, 0, none⟩ 1 1 (bv [b]) (by simp [bv_length])
    (fun j u hu => by
      rw [bv_getElem?] at hu
      obtain ⟨b', hb1, rfl⟩ := Option.map_eq_some_iff.1 hu
      obtain ⟨hj, rfl⟩ := List.getElem?_eq_some_iff.1 hb1
      simp only [List.length_cons, List.length_nil] at hj
      obtain rfl : j = 0 := by omega
      have e : (⟨wr.heap.size, 0, none⟩ : Addr).add 0 = ⟨wr.heap.size, 0, none⟩ := by simp [Addr.add]
      rw [e, cell_of_row _ wr.heap.size 0 _ 5 _ (heap_alloc_new wr _)]
      rfl) (bv_one [b]) (by unfold maxLen; omega) (by omega) hB
  refine ⟨v', w', h1, ?_, ?_⟩
  · unfold OwnB
    rw [List.length_append, bv_append]
    exact h2
  · have := (hb.below.alloc (o := .cells #[.int .u8 (b.toNat : Int)] 5) hb.le).grown h3 hB (OwnB.base h)
    exact ⟨this, this.size⟩
/-- An append of a text. -/
theorem append_text {w wr : World} {v : Value} {l : List UInt8} (h : OwnB wr w.heap.size v l) (hb : Bl w wr) (s : ByteArray) (hs : l.length + s.size ≤ 140737488355328) :
    ∃ v' w', (Builtin.append_ #[76, 9] 76 #[v, .string s]).run Tryz.prog wr = .ok v' w' ∧ OwnB w' w.heap.size v' (l ++ s.data.toList) ∧ Bl w w' := by
  obtain ⟨i, hi, hz⟩ := Option.map_eq_some_iff.1 info5
  simp only [Prod.mk.injEq] at hz
  obtain ⟨hz1, hz2, hz3⟩ := hz
  obtain ⟨v', w', h1, h2, h3, -⟩ := run_append_own_string (P := Tryz.prog) wr w.heap.size 76 9 76 5 i Tryz.underlying76 Tryz.underlying9 hi hz1 hz2 hz3 v l.length (bv l) h s (by unfold maxLen; omega) hs hb.le
  refine ⟨v', w', h1, ?_, ?_⟩
  · unfold OwnB
    rw [List.length_append, bv_append]
    exact h2
  · have := hb.below.grown h3 hb.le (OwnB.base h)
    exact ⟨this, this.size⟩

/-- An append whose run is known, at its place in a walk. -/
theorem wpList_append_run {P : Program} {w : World} {ops : Array Oper} {rest : List Oper} {o : Oper} {a : Act} {Q : Exit → Act → World → Prop} (hgd : o.guard = none) (d s : Operand) (dT sT : TypeId)
    (ho : o.op = .call { callee := .builtin .append, args := #[d, s], argTypes := #[dT, sT] }) (vd vs : Value) (hd : a.eval d = vd) (hs : a.eval s = vs) (v' : Value) (w' : World)
    (hrun : (Builtin.append_ #[dT, sT] o.type #[vd, vs]).run P w = .ok v' w') (h : wpList P ops Q rest (a.put o.dst v') w') : wpList P ops Q (o :: rest) a w := by
  refine wpList_plain hgd fun K hK => ?_
  unfold Oper.wp
  simp [execOp, ho, resolve, invoke, builtin, hd, hs, hrun, Result.andThen]
  exact hK _ _ h

/-- The block g begins with these bytes, and they may be written. -/
def Buf (w : World) (g : Nat) (l : List UInt8) : Prop := ∃ (rest : List Value) (m : Nat × Nat), (∀ j, j < l.length → ¬ (m.1 ≤ j ∧ j < m.2)) ∧ w.heap[g]? = some (.cells (bv l ++ rest).toArray 5 m)
theorem Buf.lt {w : World} {g : Nat} {l : List UInt8} (h : Buf w g l) : g < w.heap.size := by
  obtain ⟨rest, m, _, h⟩ := h
  by_cases hl : g < w.heap.size
  · exact hl
  · rw [Array.getElem?_eq_none (by omega)] at h; cases h
theorem Buf.cell {w : World} {g : Nat} {l : List UInt8} (h : Buf w g l) {i : Nat} (hi : i < l.length) : w.cell? ⟨g, i, none⟩ = some (.int .u8 l[i].toNat) := by
  obtain ⟨rest, m, _, h⟩ := h
  rw [cell_of_row w g i _ 5 _ h, List.getElem?_toArray, List.getElem?_append_left (by simpa [bv] using hi)]
  simp [bv, hi]
theorem Buf.live {w : World} {g : Nat} {l : List UInt8} (h : Buf w g l) {i : Nat} (hi : i < l.length) : w.frozen? ⟨g, i, none⟩ = false := by
  obtain ⟨rest, m, hm, h⟩ := h
  have := hm i hi
  simp [World.frozen?, h]
  omega
theorem Buf.below {w w' : World} {g B : Nat} {l : List UInt8} (h : Buf w g l) (hb : Below B w w') (hg : g < B) : Buf w' g l := by
  obtain ⟨rest, m, hm, h⟩ := h
  exact ⟨rest, m, hm, (hb.block g hg).trans h⟩
theorem Buf.set {w : World} {g : Nat} {l : List UInt8} (h : Buf w g l) {i : Nat} (hi : i < l.length) (b : UInt8) : Buf (w.setCell ⟨g, i, none⟩ (.int .u8 b.toNat)) g (l.set i b) := by
  obtain ⟨rest, m, hm, h⟩ := h
  refine ⟨rest, m, by simpa using hm, ?_⟩
  have e : (bv l ++ rest).set i (Value.int .u8 b.toNat) = bv (l.set i b) ++ rest := by
    rw [List.set_append_left _ _ (by simpa [bv] using hi)]
    simp [bv]
  simp [World.setCell, Array.getElem?_modify, h, e]
/-- A text, made into a new block. -/
theorem conv_to (s : ByteArray) (w : World) : ∃ (cap : Nat) (w1 : World), (convert 9 76 (.string s)).run Tryz.prog w = .ok (.slice (some ⟨w.heap.size, 0, none⟩) s.size cap) w1 ∧ Buf w1 w.heap.size s.data.toList ∧ Below w.heap.size w w1 := by
  refine ⟨grownCap w s.size 0 5, _, run_bytes_of_string w 9 76 5 s Tryz.underlying9 Tryz.underlying76 Tryz.underlying5, ?_, ?_⟩
  · refine ⟨(Array.replicate (grownCap w s.size 0 5 - s.size) (Value.int .u8 0)).toList, ((bytesRow s (grownCap w s.size 0 5)).size, (bytesRow s (grownCap w s.size 0 5)).size + 1), ?_, ?_⟩
    · intro j hj
      simp [bytesRow] at hj ⊢
      have : s.size = s.data.size := rfl
      omega
    · have e : (bv s.data.toList ++ (Array.replicate (grownCap w s.size 0 5 - s.size) (Value.int .u8 0)).toList).toArray = bytesRow s (grownCap w s.size 0 5) := by
        apply Array.toList_inj.1
        simp [bv, bytesRow]
      rw [e]
      exact heap_alloc_new w.drew _
  · exact ((Below.refl _ _).drew).alloc (Nat.le_refl _) _
/-- Bytes of a block, made into a text. -/
theorem conv_back {w : World} {g cap : Nat} {l : List UInt8} (h : Buf w g l) : (convert 76 9 (.slice (some ⟨g, 0, none⟩) l.length cap)).run Tryz.prog w = .ok (.string ⟨l.toArray⟩) w :=
  run_convert_bytes_back w 76 9 5 ⟨g, 0, none⟩ cap l Tryz.underlying76 Tryz.underlying5 Tryz.underlying9 (fun j hj => by
    have e : (⟨g, 0, none⟩ : Addr).add j = ⟨g, j, none⟩ := by by_cases h0 : j = 0 <;> simp [Addr.add, h0]
    rw [e]; exact h.cell hj)
end Go.Proofs.YtndbgdapojkfaaaGreatDoor.Byt
