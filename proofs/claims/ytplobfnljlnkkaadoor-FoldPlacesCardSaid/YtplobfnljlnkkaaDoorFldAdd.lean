/- Contract of package fold: a line's add. -/
import Derived.Test.YtplobfnljlnkkaaDoorFldProA
import Derived.Test.YtplobfnljlnkkaaDoorFldFacts
import Derived.Test.YtplobfnljlnkkaaDoorFldOwn
import Derived.Test.YtplobfnljlnkkaaDoorFltPro
import Derived.WalkMore
set_option linter.unusedVariables false
namespace Go.Proofs.YtplobfnljlnkkaaDoor.Fld
open Go.RowKit Go.Proofs.YtplobfnljlnkkaaDoor.Byt Go.Proofs.YtplobfnljlnkkaaDoor.Utf Go.Proofs.YtplobfnljlnkkaaDoor.Tre

theorem finfoL : (Tryd.prog.info? 46).map (fun i => (i.zero, i.size, i.bytes)) = some (some (.agg #[.string ByteArray.empty, .slice none 0 0]), 2, 40) := by kernel_rfl
theorem Ow.call {w0 w w' : World} {d : Dat} {v : Value} {F : List Nat} (h : Ow w0 w d v F) (hb : Below w.heap.size w w') : Ow w0 w' d v F := ⟨h.own.kept fun g hg => hb.block g (h.own.lt g hg).2, h.nd⟩
/-- A row of lines of the call's own: an empty line more. -/
theorem flines_one {w wr : World} {acc : List PL} {v : Value} {F : List Nat} (ho : Ow w wr (lsD 46 61 acc) v F) (hb : Bl w wr) (hn : acc.length ≤ 100000) :
    ∃ gO c w' F', (Builtin.append_ #[23, 23] 23 #[v, .slice (some ⟨wr.heap.size, 0, none⟩) 1 1]).run Tryd.prog (wr.alloc (.cells #[.string ⟨#[]⟩, .slice none 0 0] 46)) = .ok (.slice (some ⟨gO, 0, none⟩) (acc.length + 1) c) w' ∧
      Ow w w' (lsD 46 61 (acc ++ [⟨[], []⟩])) (.slice (some ⟨gO, 0, none⟩) (acc.length + 1) c) F' ∧ Bl w w' := by
  have hB := hb.le
  have hlt := ho.own.lt
  obtain ⟨v', w', F', r1, r2, r3, r4, r5, r6⟩ := push_own (P := Tryd.prog) (w0 := w) (w := wr) (t := 23) (ty := 23) Tryd.underlying23 finfoL rfl (by omega)
    ho.own ho.nd ((Cells.nil _ w.heap.size).cons (Own.nil wr w.heap.size 61 2) |>.cons (.one (.string ⟨#[]⟩))) rfl (fun u hu => by
      rcases List.mem_cons.1 hu with rfl | hu
      · rfl
      · rcases List.mem_cons.1 hu with rfl | hu
        · rfl
        · cases hu) (by simp) (fun g hg hx => by simp at hx) (by omega) (by omega) hb.below
  have ho' : Ow w w' (lsD 46 61 (acc ++ [⟨[], []⟩])) v' F' := by
    refine ⟨?_, r3⟩
    unfold lsD
    rw [List.flatMap_append, List.length_append, List.length_singleton]
    exact r2
  obtain ⟨gO, c, pv, G, rfl, _⟩ := own_last ho'
  exact ⟨gO, c, w', F', r1, ho', r5, r5.size⟩
/-- Two cells of one block, stored in either order. -/
theorem set_swap (w : World) (g i j : Nat) (h : i ≠ j) (u v : Value) : (w.setCell ⟨g, i, none⟩ u).setCell ⟨g, j, none⟩ v = (w.setCell ⟨g, j, none⟩ v).setCell ⟨g, i, none⟩ u := by
  unfold World.setCell
  congr 1
  apply Array.ext_getElem?
  intro k
  simp only [Array.getElem?_modify]
  by_cases hk : g = k
  · simp only [hk, if_true]
    cases w.heap[k]? with
    | none => rfl
    | some o =>
      cases o with
      | cells c e f => simp [Array.setIfInBounds_comm _ _ h]
      | _ => rfl
  · simp [hk]
set_option maxRecDepth 20000 in
set_option maxHeartbeats 1000000 in
/-- A row behind the last line of the call's own. -/
theorem add_any {w wr : World} {init : List PL} {l : PL} {gO c : Nat} {F : List Nat} (ho : Ow w wr (lsD 46 61 (init ++ [l])) (.slice (some ⟨gO, 0, none⟩) (init.length + 1) c) F) (hb : Bl w wr) (x : ByteArray) (hx : x.size ≤ 10000) (hl : l.t.length ≤ 10000) (hn : l.ps.length ≤ 100000) (a : Int) :
    Calls Tryd.prog 27 #[.pointer (some ⟨gO, init.length * 2, none⟩), .string x, .int .i64 a] wr fun r w' => r = .returned (.tuple #[]) ∧ ∃ F', Ow w w' (lsD 46 61 (init ++ [⟨l.t ++ x.data.toList, l.ps ++ [((l.t.length : Int), a)]⟩])) (.slice (some ⟨gO, 0, none⟩) (init.length + 1) c) F' ∧ Bl w w' := by
  obtain ⟨gO', c', pv, G, hv, hgB, hgO, c0, c1, hpv, hgG, hgF, hGF, hlast⟩ := own_last ho
  obtain ⟨rfl, rfl⟩ : gO = gO' ∧ c = c' := by
    injection hv with h1 h2 h3
    injection h1 with h1
    injection h1 with h1
    exact ⟨h1, h3⟩
  clear hv
  have hpl := hpv.own.rd
  obtain ⟨pv', w3, G', ra, ro, rb, rg, rG, rown⟩ := fpieces_new (wr := wr.drew) (ow_drew hpv) hb.drew (((ByteArray.mk l.t.toArray).size : Nat) : Int) a (by omega)
  have hs1 : wr.drew.heap.size = wr.heap.size := rfl
  rw [hs1] at ra rG
  have hGlt : ∀ g ∈ G, g < wr.heap.size := fun g hg => (hpv.own.lt g hg).2
  have hFlt : ∀ g ∈ F, g < wr.heap.size := fun g hg => (ho.own.lt g hg).2
  have hkF : ∀ g ∈ F, g ∉ G → w3.heap[g]? = wr.heap[g]? := fun g hg hx => by
    rw [rg.block g (by simp; have := hFlt g hg; omega) (fun hy => hx (rown g hy.symm))]
    exact Below.heap_alloc wr.drew _ g (hFlt g hg)
  have hG' : ∀ g ∈ G', g ∈ G ∨ wr.heap.size ≤ g := fun g hg => (rG g hg).imp_right (by omega)
  obtain ⟨yf, y0, y1, F6, hF6⟩ := hlast w3 ⟨l.t ++ x.data.toList, l.ps ++ [((((ByteArray.mk l.t.toArray).size : Nat) : Int), a)]⟩ pv' G' hkF ro hG'
  have hbel := (rb.below.setCell (p := ⟨gO, init.length * 2 + 1, none⟩) hgB pv').setCell (p := ⟨gO, init.length * 2, none⟩) hgB (.string ⟨(l.t ++ x.data.toList).toArray⟩)
  rw [set_swap _ _ _ _ (by omega)] at hF6
  rw [← mk_app, mk_list] at hF6 hbel
  rw [show (l.t.length : Int) = (((ByteArray.mk l.t.toArray).size : Nat) : Int) by rw [size_mk]]
  obtain ⟨ap, cp, rfl, hpcell⟩ := pieces_at hpl
  obtain ⟨ap', cp', rfl, hpcell'⟩ := pieces_at ro.own.rd
  clear hpcell' hpcell
  have hle := rb.le
  have hgO3 : gO < w3.heap.size := by
    have := rg.size
    simp at this
    omega
  have htx : (ByteArray.mk l.t.toArray).size ≤ 10000 := by rw [size_mk]; omega
  generalize (l.ps ++ [((((ByteArray.mk l.t.toArray).size : Nat) : Int), a)]).length = np at *
  have HA := Lib.hid ra
  have HF := Lib.hid hF6
  have HB := Lib.hid hbel
  have HZ := Lib.hid hle
  clear hlast hkF hG' rg rG rown ra ro rb hF6 hbel hpl hpv hgG hgF hGF hGlt hFlt hle hn
  generalize l.ps.length = nq at *
  generalize ByteArray.mk l.t.toArray = tx at *
  go_enter Tryd.func27, Tryd.ntmps27
  go_wp2_with fail
  go_region_law (refine step_append_run rfl (.tmp 10) (.tmp 18) 44 44 rfl _ _ rfl rfl _ w3 HA.out ?_)
  all_goals
    go_wp2_with fail
    go_end0
    refine ⟨rfl, F6, ?_, ?_⟩
    · exact HF.out
    · exact ⟨HB.out, by simp; exact HZ.out⟩
end Go.Proofs.YtplobfnljlnkkaaDoor.Fld
