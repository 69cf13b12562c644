/- Blocks that are known whole; make, copy and stores over them. -/
import Derived.Test.YtcloakaenkhgpaaDoorDiskClone
import Derived.Laws.CopyOwn
import Derived.Laws.MakeOwn
namespace Go.Proofs.YtcloakaenkhgpaaDoor.Dsk
open Go.RowKit

/-- Block g is just these cells of element type t, none frozen. -/
def Blk (w : World) (g : Nat) (t : TypeId) (vs : List Value) : Prop := w.heap[g]? = some (.cells vs.toArray t (0, 0))
section
variable {w w' : World} {g : Nat} {t : TypeId} {vs : List Value}
theorem Blk.lt (h : Blk w g t vs) : g < w.heap.size := by
  by_cases hl : g < w.heap.size
  · exact hl
  · unfold Blk at h; rw [Array.getElem?_eq_none (by omega)] at h; cases h
theorem Blk.cell (h : Blk w g t vs) {i : Nat} (hi : i < vs.length) : w.cell? ⟨g, i, none⟩ = some vs[i] := by
  rw [cell_of_row w g i _ t _ h]; simp [hi]
theorem Blk.frozen (h : Blk w g t vs) (i : Nat) : w.frozen? ⟨g, i, none⟩ = false := by unfold Blk at h; simp [World.frozen?, h]
theorem Blk.new (w : World) (t : TypeId) (vs : Array Value) : Blk (w.alloc (.cells vs t)) w.heap.size t vs.toList := by unfold Blk; rw [heap_alloc_new]
theorem Blk.alloc (h : Blk w g t vs) (o : Obj) : Blk (w.alloc o) g t vs := (Below.heap_alloc w o g h.lt).trans h
theorem Blk.call (h : Blk w g t vs) (hb : Below w.heap.size w w') : Blk w' g t vs := (hb.block g h.lt).trans h
theorem Blk.of_block (h : Blk w g t vs) (e : w'.heap[g]? = w.heap[g]?) : Blk w' g t vs := e.trans h
theorem Blk.far (h : Blk w g t vs) {p : Addr} (hp : g ≠ p.block) (u : Value) : Blk (w.setCell p u) g t vs := h.of_block (Below.heap_setCell w p u g hp)
theorem Blk.set_ (h : Blk w g t vs) (i : Nat) (u : Value) : Blk (w.setCell ⟨g, i, none⟩ u) g t (vs.set i u) := by
  unfold Blk at h ⊢
  simp [World.setCell, Array.getElem?_modify, h]
theorem Blk.rv (h : Blk w g t vs) {n k : Nat} (hl : vs.length = n * k) : RV w (some ⟨g, 0, none⟩) n k vs :=
  ⟨hl, fun _ => ⟨g, 0, rfl, h.lt, fun i hi => by rw [Nat.zero_add]; exact h.cell hi⟩⟩
theorem Blk.own (h : Blk w g t vs) {n k base : Nat} (hl : vs.length = n * k) (hb : base ≤ g) (hn : n ≤ 1000000) : w.ownsRow base t k (.slice (some ⟨g, 0, none⟩) n n) n vs :=
  ⟨hl, .inr ⟨g, n, vs.toArray, rfl, hb, h, Nat.le_refl _, by unfold maxLen; omega, by simp [hl], by simp [← hl]⟩⟩
end

theorem run_make_rowN {P : Program} (t e : TypeId) (i : TypeInfo) (z : Value) (ht : P.underlying t = some (.slice e)) (hi : P.info? e = some i) (hz : i.zero = some z)
    (kl kc : IntKind) (n c : Nat) (hnc : n ≤ c) (hbytes : i.bytes * c ≤ 281474976710656) (h63 : c ≤ 9223372036854775807) (w : World) :
    (Instr.makeSlice t (.int kl (n : Int)) (.int kc (c : Int))).run P w = .ok (.slice (some ⟨w.heap.size, 0, none⟩) n c) (w.alloc (.cells (madeCells z.cells (c * i.size)) e)) := by
  have hb : (i.bytes : Int) * (c : Int) ≤ 281474976710656 := by
    have h : ((i.bytes * c : Nat) : Int) ≤ 281474976710656 := by omega
    rwa [Int.natCast_mul] at h
  have hr := run_make (P := P) w t e i z ht hi hz kl kc n c (by omega) (by omega) hb (by omega)
  simp only [Int.toNat_natCast] at hr
  exact hr

/-- A copy of whatever slice over the front of a block of the call's own, run. -/
theorem copy_rv {P : Program} {w : World} {dT sT ty e t : TypeId} {k : Nat} (ht : P.underlying dT = some (.slice e)) (hsz : (P.info? e).map (·.size) = some k) {g n cap m c : Nat} {cur : List Value} (hg : Blk w g t cur)
    (hl : cur.length = n * k) {a : Option Addr} {vs : List Value} (hR : RV w a m k vs) (h1 : ∀ v ∈ vs, v.oneCell' = true) (hmn : m ≤ n) :
    ∃ w', (Builtin.copy_ #[dT, sT] ty #[.slice (some ⟨g, 0, none⟩) n cap, .slice a m c]).run P w = .ok (.int .i64 m) w' ∧ Blk w' g t (vs ++ cur.drop vs.length) ∧ w.grownBy w' (some g) := by
  obtain ⟨i, hq, hi⟩ := Option.map_eq_some_iff.1 hsz
  have hmin : Nat.min m n = m := Nat.min_eq_left hmn
  have hvl := hR.1
  by_cases hm : m = 0
  · subst hm
    have hv : vs = [] := List.eq_nil_of_length_eq_zero (by simpa using hvl)
    subst hv
    refine ⟨w, ?_, by simpa using hg, World.grownBy.refl w _⟩
    cases a with
    | none => simp [Builtin.copy_, run_underlying ht, Builtin.lenOf, Builtin.firstCells, sizeOf, typeInfo, hq, storeCells, goInt]
    | some ad =>
      have hl0 := run_loadCells_list (P := P) w ad [] (fun j v h => by simp at h)
      simp at hl0
      simp [Builtin.copy_, run_underlying ht, Builtin.lenOf, Builtin.firstCells, sizeOf, typeInfo, hq, storeCells, goInt, hl0]
  · obtain ⟨b, off, rfl, -, hc⟩ := hR.2 (by omega)
    have hload := run_loadCells_list (P := P) w ⟨b, off, none⟩ vs (fun j v hv => by
      obtain ⟨hj, rfl⟩ := List.getElem?_eq_some_iff.1 hv
      rw [add_none]; exact hc j hj)
    have hfit : vs.length ≤ cur.length := by rw [hvl, hl]; exact Nat.mul_le_mul_right k hmn
    have hst := run_storeCells_at P g 0 t vs 0 cur.toArray w hg (by simpa using hfit) h1
    simp only [Nat.zero_add, Nat.add_zero, List.take_zero, List.nil_append] at hst
    refine ⟨_, ?_, (setRow_heap w g _ _ t _ hg), ⟨rfl, rfl, rfl, by simp, fun j _ hj => setRow_other w g j _ (fun e => hj (by simp [e]))⟩⟩
    simp [Builtin.copy_, run_underlying ht, Builtin.lenOf, Builtin.firstCells, sizeOf, typeInfo, hq, hi, hmin, ← hvl, hload, hst, goInt]

/-- A copy by its run. -/
theorem wpList_copy_run {P : Program} {w : World} {ops : Array Oper} {rest : List Oper} {o : Oper} {a : Act} {Q : Exit → Act → World → Prop} (hgd : o.guard = none) (d s : Operand) (dT sT : TypeId)
    (ho : o.op = .call { callee := .builtin .copy, args := #[d, s], argTypes := #[dT, sT] }) (vd vs : Value) (hd : a.eval d = vd) (hs : a.eval s = vs) (v' : Value) (w' : World)
    (hrun : (Builtin.copy_ #[dT, sT] o.type #[vd, vs]).run P w = .ok v' w') (h : wpList P ops Q rest (a.put o.dst v') w') : wpList P ops Q (o :: rest) a w := by
  refine wpList_plain hgd fun K hK => ?_
  unfold Oper.wp
  simp [execOp, ho, resolve, invoke, builtin, hd, hs, hrun, Result.andThen]
  exact hK _ _ h

theorem size_made (z : Array Value) (n : Nat) : (madeCells z n).toList.length = n := by simp [madeCells]

end Go.Proofs.YtcloakaenkhgpaaDoor.Dsk
