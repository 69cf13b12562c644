/- Lines in memory. -/
import Derived.Test.YtplobfnljlnkkaaDoorFldPlain
import Derived.Test.YtplobfnljlnkkaaDoorTre
import Derived.Test.YtplobfnljlnkkaaDoorByt
set_option linter.unusedVariables false
namespace Go.Proofs.YtplobfnljlnkkaaDoor.Fld
open Go.RowKit Go.Proofs.YtplobfnljlnkkaaDoor.Byt Go.Proofs.YtplobfnljlnkkaaDoor.Utf Go.Proofs.YtplobfnljlnkkaaDoor.Tre

/-- Pieces, a line's cells, and lines, as plain data. -/
def pC (p : Int × Int) : List Dat := [.one (.int .i64 p.1), .one (.int .i64 p.2)]
def pD (tP : TypeId) (ps : List (Int × Int)) : Dat := .sl tP 2 ps.length (ps.flatMap pC)
def lD (tP : TypeId) (l : PL) : List Dat := [.one (.string ⟨l.t.toArray⟩), pD tP l.ps]
def lsD (tL tP : TypeId) (ls : List PL) : Dat := .sl tL 2 ls.length (ls.flatMap (lD tP))
theorem pC_len (p : Int × Int) : (pC p).length = 2 := rfl
theorem lD_len (tP : TypeId) (l : PL) : (lD tP l).length = 2 := rfl
/-- Lines that are read: each one's text, and its pieces. -/
theorem lines_at {w : World} {tL tP : TypeId} {ls : List PL} {v : Value} (h : Rd w (lsD tL tP ls) v) : ∃ a c, v = .slice a ls.length c ∧ (0 < ls.length → ∃ b off, a = some ⟨b, off, none⟩ ∧ b < w.heap.size ∧ ∀ (i : Nat) (hi : i < ls.length), w.cell? ⟨b, off + i * 2, none⟩ = some (.string ⟨ls[i].t.toArray⟩) ∧ ∃ u, w.cell? ⟨b, off + i * 2 + 1, none⟩ = some u ∧ Rd w (pD tP ls[i].ps) u) := by
  obtain ⟨_, a, c, rfl, hc⟩ := Rd.elems (lD_len tP) h (by omega)
  refine ⟨a, c, rfl, fun h0 => ?_⟩
  obtain ⟨b, off, rfl, hb, hcell⟩ := hc h0
  refine ⟨b, off, rfl, hb, fun i hi => ?_⟩
  obtain ⟨u0, hu0, hr0⟩ := hcell i hi 0 _ rfl
  obtain ⟨u1, hu1, hr1⟩ := hcell i hi 1 _ rfl
  exact ⟨by rw [← hr0.val, ← Nat.add_zero (off + i * 2), Nat.add_assoc off]; exact hu0, u1, by rw [Nat.add_assoc off]; exact hu1, hr1⟩
/-- Pieces that are read. -/
theorem pieces_at {w : World} {tP : TypeId} {ps : List (Int × Int)} {v : Value} (h : Rd w (pD tP ps) v) : ∃ a c, v = .slice a ps.length c ∧ (0 < ps.length → ∃ b off, a = some ⟨b, off, none⟩ ∧ b < w.heap.size ∧ ∀ (i : Nat) (hi : i < ps.length), w.cell? ⟨b, off + i * 2, none⟩ = some (.int .i64 ps[i].1) ∧ w.cell? ⟨b, off + i * 2 + 1, none⟩ = some (.int .i64 ps[i].2)) := by
  obtain ⟨_, a, c, rfl, hc⟩ := Rd.elems pC_len h (by omega)
  refine ⟨a, c, rfl, fun h0 => ?_⟩
  obtain ⟨b, off, rfl, hb, hcell⟩ := hc h0
  refine ⟨b, off, rfl, hb, fun i hi => ?_⟩
  obtain ⟨u0, hu0, hr0⟩ := hcell i hi 0 _ rfl
  obtain ⟨u1, hu1, hr1⟩ := hcell i hi 1 _ rfl
  exact ⟨by rw [← hr0.val, ← Nat.add_zero (off + i * 2), Nat.add_assoc off]; exact hu0, by rw [← hr1.val, Nat.add_assoc off]; exact hu1⟩

/-- Rows of a call's own, each block once. -/
structure Ow (w0 w : World) (d : Dat) (v : Value) (F : List Nat) : Prop where
  own : Own w w0.heap.size d v F
  nd : F.Nodup
theorem Ow.drew {w0 w : World} {d : Dat} {v : Value} {F : List Nat} (h : Ow w0 w d v F) : Ow w0 w.drew d v F := ⟨h.own.kept fun _ _ => rfl, h.nd⟩
/-- The last line of lines of the call's own. -/
theorem own_last {w0 wr : World} {tL tP : TypeId} {init : List PL} {l : PL} {v : Value} {F : List Nat} (h : Ow w0 wr (lsD tL tP (init ++ [l])) v F) :
    ∃ gO c pv G, v = .slice (some ⟨gO, 0, none⟩) (init.length + 1) c ∧ w0.heap.size ≤ gO ∧ gO < wr.heap.size ∧ wr.cell? ⟨gO, init.length * 2, none⟩ = some (.string ⟨l.t.toArray⟩) ∧ wr.cell? ⟨gO, init.length * 2 + 1, none⟩ = some pv ∧ Ow w0 wr (pD tP l.ps) pv G ∧ gO ∉ G ∧ gO ∈ F ∧ (∀ g ∈ G, g ∈ F) ∧
      ∀ (w5 : World) (l' : PL) (pv' : Value) (G' : List Nat), (∀ g ∈ F, g ∉ G → w5.heap[g]? = wr.heap[g]?) → Ow w0 w5 (pD tP l'.ps) pv' G' → (∀ g ∈ G', g ∈ G ∨ wr.heap.size ≤ g) →
        (∀ i, w5.frozen? ⟨gO, i, none⟩ = false) ∧ w5.cell? ⟨gO, init.length * 2, none⟩ = some (.string ⟨l.t.toArray⟩) ∧ w5.cell? ⟨gO, init.length * 2 + 1, none⟩ = some pv ∧
        ∃ F6, Ow w0 ((w5.setCell ⟨gO, init.length * 2, none⟩ (.string ⟨l'.t.toArray⟩)).setCell ⟨gO, init.length * 2 + 1, none⟩ pv') (lsD tL tP (init ++ [l'])) v F6 := by
  obtain ⟨ho, hF⟩ := h
  unfold lsD at ho
  rw [List.flatMap_append, List.length_append, List.length_singleton] at ho
  obtain ⟨vs, Fs, rfl, hrow, hcs⟩ := ho.cells
  obtain ⟨us0, us, Gs0, Gs, rfl, rfl, hc0, hc1⟩ := hcs.split
  have hl0 : us0.length = init.length * 2 := by rw [hc0.l1, flat_len (lD_len tP)]
  have e1 : [l].flatMap (lD tP) = [.one (.string ⟨l.t.toArray⟩), pD tP l.ps] := rfl
  rw [e1] at hc1
  obtain ⟨s, pv, rfl⟩ : ∃ s pv, us = [s, pv] := by
    have := hc1.l1
    match us, this with
    | [s, pv], _ => exact ⟨s, pv, rfl⟩
  obtain ⟨G0, G, rfl⟩ : ∃ G0 G, Gs = [G0, G] := by
    have := hc1.l2
    match Gs, this with
    | [G0, G], _ => exact ⟨G0, G, rfl⟩
  have o0 := hc1.own 0 _ _ _ rfl rfl rfl
  have o1 := hc1.own 1 _ _ _ rfl rfl rfl
  obtain ⟨hs, hG0⟩ : s = .string ⟨l.t.toArray⟩ ∧ G0 = [] := by cases o0; exact ⟨rfl, rfl⟩
  subst hs hG0
  obtain ⟨gO, c, rfl, hB, hlt, hblk, hcell, hfr⟩ := own_cell hrow (by omega)
  rw [hblk] at hF
  have hnd := List.nodup_append.1 hF
  have hfl : (Gs0 ++ [[], G]).flatten = Gs0.flatten ++ G := by simp
  rw [hfl] at hF hnd
  have hnd2 := List.nodup_append.1 hnd.2.1
  have hgO : gO ∉ Gs0.flatten ++ G := fun hx => hnd.2.2 gO (by simp) gO hx rfl
  have i0 : (us0 ++ [Value.string ⟨l.t.toArray⟩, pv])[init.length * 2]? = some (.string ⟨l.t.toArray⟩) := by rw [← hl0, List.getElem?_append_right (Nat.le_refl _), Nat.sub_self]; rfl
  have i1 : (us0 ++ [Value.string ⟨l.t.toArray⟩, pv])[init.length * 2 + 1]? = some pv := by rw [← hl0, List.getElem?_append_right (by omega), Nat.add_sub_cancel_left]; rfl
  refine ⟨gO, c, pv, G, rfl, hB, hlt, hcell _ _ i0, hcell _ _ i1, ⟨o1, hnd2.2.1⟩, fun hx => hgO (List.mem_append_right _ hx), by rw [hblk]; simp, fun g hg => by rw [hfl]; simp [hg], ?_⟩
  intro w5 l' pv' G' hk ho' hG'
  have hkO : w5.heap[gO]? = wr.heap[gO]? := hk gO (by rw [hblk]; simp) (fun hx => hgO (List.mem_append_right _ hx))
  have hrow5 : w5.ownsRow w0.heap.size tL 2 (.slice (some ⟨gO, 0, none⟩) (init.length + 1) c) (init.length + 1) (us0 ++ [.string ⟨l.t.toArray⟩, pv]) := by
    refine ⟨hrow.1, ?_⟩
    rcases hrow.2 with ⟨h, _⟩ | ⟨g', cap, cur, hv, hb, hgg, rest⟩
    · cases h
    · have : gO = g' := by injection hv with h; injection h with h; injection h
      subst this
      exact .inr ⟨gO, cap, cur, hv, hb, hkO.trans hgg, rest⟩
  obtain ⟨g2, c2, hv2, _, _, _, hcell5, hfr5⟩ := own_cell hrow5 (by omega)
  have : gO = g2 := by injection hv2 with h; injection h with h; injection h
  subst this
  refine ⟨hfr5, hcell5 _ _ i0, hcell5 _ _ i1, ?_⟩
  have hlen : (us0 ++ [Value.string ⟨l.t.toArray⟩, pv]).length = init.length * 2 + 2 := by rw [List.length_append, hl0]; rfl
  have hr6 := ownsRow_set (ownsRow_set hrow5 (g := gO) (j := init.length * 2) rfl (by omega) (.string ⟨l'.t.toArray⟩)) (g := gO) (j := init.length * 2 + 1) rfl (by rw [List.length_set]; omega) pv'
  have hset : ((us0 ++ [Value.string ⟨l.t.toArray⟩, pv]).set (init.length * 2) (.string ⟨l'.t.toArray⟩)).set (init.length * 2 + 1) pv' = us0 ++ [.string ⟨l'.t.toArray⟩, pv'] := by
    rw [← hl0, List.set_append_right _ _ (Nat.le_refl _), Nat.sub_self, List.set_append_right _ _ (by omega), Nat.add_sub_cancel_left]
    rfl
  rw [hset] at hr6
  have hgG' : gO ∉ G' := fun hx => by
    rcases hG' gO hx with h | h
    · exact hgO (List.mem_append_right _ h)
    · omega
  have hd0 : ∀ g ∈ Gs0.flatten, g ∉ G := fun g h1 h2 => hnd2.2.2 g h1 g h2 rfl
  have hc05 : Cells w5 w0.heap.size (init.flatMap (lD tP)) us0 Gs0 := hc0.kept fun g hg => hk g (by rw [hfl]; simp [hg]) (hd0 g hg)
  have hgs : gO ∉ Gs0.flatten := fun hx => hgO (List.mem_append_left _ hx)
  have hc06 := (hc05.set_far (p := ⟨gO, init.length * 2, none⟩) hgs (.string ⟨l'.t.toArray⟩)).set_far (p := ⟨gO, init.length * 2 + 1, none⟩) hgs pv'
  have ho6 := (ho'.own.set_far (p := ⟨gO, init.length * 2, none⟩) hgG' (.string ⟨l'.t.toArray⟩)).set_far (p := ⟨gO, init.length * 2 + 1, none⟩) hgG' pv'
  have hall := hc06.append ((Cells.nil _ w0.heap.size).cons ho6 |>.cons (.one (.string ⟨l'.t.toArray⟩)))
  refine ⟨blk (Value.slice (some ⟨gO, 0, none⟩) (init.length + 1) c) ++ (Gs0 ++ [[], G']).flatten, ?_⟩
  · refine ⟨?_, ?_⟩
    · have := Own.of_cells hr6 hall
      unfold lsD
      rw [List.flatMap_append, List.length_append, List.length_singleton]
      exact this
    · have hfl' : (Gs0 ++ [[], G']).flatten = Gs0.flatten ++ G' := by simp
      rw [hblk, hfl']
      refine List.nodup_append.2 ⟨by simp, List.nodup_append.2 ⟨hnd2.1, ho'.nd, fun g hg g' hg' e => ?_⟩, fun g hg g' hg' e => ?_⟩
      · subst e
        rcases hG' g hg' with h | h
        · exact hd0 g hg h
        · have := (hc0.lt g hg).2; omega
      · subst e
        have : g = gO := by simpa using hg
        subst this
        rcases List.mem_append.1 hg' with h | h
        · exact hgs h
        · exact hgG' h
end Go.Proofs.YtplobfnljlnkkaaDoor.Fld
