/- Parameters in memory. -/
import Derived.Test.YtndbgdapojkfaaaGreatDoorPln
import Derived.Test.YtndbgdapojkfaaaGreatDoorTxt
set_option linter.unusedVariables false
namespace Go.Proofs.YtndbgdapojkfaaaGreatDoor.Par
open Go.RowKit Go.Deep Go.Proofs.YtndbgdapojkfaaaGreatDoor.Byt Go.Proofs.YtndbgdapojkfaaaGreatDoor.Utf Go.Proofs.YtndbgdapojkfaaaGreatDoor.Tre Go.Proofs.YtndbgdapojkfaaaGreatDoor.Txt

/-- A parameter's cells, and parameters, as plain data. -/
def pC (p : PP) : List Dat := [.one (.string ⟨p.n.toArray⟩), txD (mks p.v)]
def psD (T : TypeId) (ps : List PP) : Dat := .sl T 2 ps.length (ps.flatMap pC)
theorem pC_len (p : PP) : (pC p).length = 2 := rfl
theorem sl_ps {w : World} {T : TypeId} {ps : List PP} {v : Value} (h : Rd w (psD T ps) v) : ∃ a c, v = .slice a ps.length c := by
  obtain ⟨a, c, rfl, _⟩ := h.slice
  exact ⟨a, c, rfl⟩
/-- A parameter at its place: its name's cell, its values' cell and the values. -/
theorem param_at {w : World} {T : TypeId} {ps : List PP} {a : Option Addr} {c : Nat} (h : Rd w (psD T ps) (.slice a ps.length c)) {i : Nat} (hi : i < ps.length) : ∃ b off, a = some ⟨b, off, none⟩ ∧ w.cell? ⟨b, off + i * 2, none⟩ = some (.string ⟨ps[i].n.toArray⟩) ∧
    ∃ a' c', w.cell? ⟨b, off + i * 2 + 1, none⟩ = some (.slice a' ps[i].v.length c') ∧ Rd w (txD (mks ps[i].v)) (.slice a' (mks ps[i].v).length c') := by
  obtain ⟨_, a2, c2, hv, hc⟩ := Rd.elems pC_len h (by omega)
  obtain ⟨b, off, rfl, hb, hcell⟩ := hc (by omega)
  obtain ⟨u0, hu0, hr0⟩ := hcell i hi 0 _ rfl
  obtain ⟨u1, hu1, hr1⟩ := hcell i hi 1 _ rfl
  injection hv with e1 e2 e3
  subst e1
  obtain ⟨a', c', rfl⟩ := sl_of hr1
  refine ⟨b, off, rfl, by rw [← hr0.val, ← Nat.add_zero (off + i * 2), Nat.add_assoc off]; exact hu0, a', c', ?_, hr1⟩
  rw [mks_len] at hu1
  rw [Nat.add_assoc off]; exact hu1
/-- The first ones of parameters that are read. -/
theorem Rd.front {w : World} {T : TypeId} {ps : List PP} {a : Option Addr} {c : Nat} (h : Rd w (psD T ps) (.slice a ps.length c)) (i : Nat) (hi : i ≤ ps.length) (c' : Nat) (hc' : i ≤ c') : Rd w (psD T (ps.take i)) (.slice a (ps.take i).length c') := by
  have hl : (ps.take i).length = i := by rw [List.length_take]; omega
  rcases Nat.eq_zero_or_pos i with h0 | h0
  · subst h0
    exact .nil _ _ _ _
  · obtain ⟨_, a2, c2, hv, hc⟩ := Rd.elems pC_len h (by omega)
    obtain ⟨b, off, rfl, hb, hcell⟩ := hc (by omega)
    injection hv with e1 e2 e3
    subst e1
    unfold psD
    refine Rd.of_cells (by rw [flat_len pC_len]) (by rw [hl]; exact hc') (fun _ => hb) (fun j d hd => ?_)
    have hj : j < (ps.take i).length * 2 := by
      obtain ⟨h1, _⟩ := List.getElem?_eq_some_iff.1 hd
      rwa [flat_len pC_len] at h1
    rw [hl] at hj
    have hq : j / 2 < ps.length := by omega
    have hdm : j / 2 * 2 + j % 2 = j := by omega
    have hd2 : (pC ps[j / 2])[j % 2]? = some d := by
      have := flat_get pC_len (ps.take i) (j / 2) (j % 2) (Nat.mod_lt _ (by omega))
      rw [hdm, hd, List.getElem?_take, if_pos (by omega), List.getElem?_eq_getElem hq] at this
      exact this.symm
    obtain ⟨u, hu, hr⟩ := hcell (j / 2) hq (j % 2) d hd2
    rw [hdm] at hu
    exact ⟨u, hu, hr⟩
/-- Parameters of the call's own: one more, whose values are a row of the call's own. -/
theorem params_push {w wr : World} {T sT : TypeId} (hu : Tryz.prog.underlying sT = some (.slice T)) (hinfo : (Tryz.prog.info? T).map (fun i => (i.zero, i.size, i.bytes)) = some (some (.agg #[.string ByteArray.empty, .slice none 0 0]), 2, 40)) {acc : List PP} {v pv : Value} {F G : List Nat} {p : PP} (ho : Txt.Ow w wr (psD T acc) v F) (hp : Txt.Ow w wr (txD (mks p.v)) pv G) (hd : ∀ g ∈ F, g ∉ G) (hb : Bl w wr) (hn : acc.length ≤ 100000) :
    ∃ v' w' F', (Builtin.append_ #[sT, sT] sT #[v, .slice (some ⟨wr.heap.size, 0, none⟩) 1 1]).run Tryz.prog (wr.alloc (.cells #[.string ⟨p.n.toArray⟩, pv] T)) = .ok v' w' ∧
      Txt.Ow w w' (psD T (acc ++ [p])) v' F' ∧ Bl w w' := by
  obtain ⟨a, c, rfl⟩ := sl_of hp.own.rd
  obtain ⟨v', w', F', r1, r2, r3, r4, r5, r6⟩ := push_own (P := Tryz.prog) (w0 := w) (w := wr) (t := sT) (ty := sT) hu hinfo rfl (by omega)
    ho.own ho.nd ((Cells.nil _ w.heap.size).cons hp.own |>.cons (.one (.string ⟨p.n.toArray⟩))) rfl (fun u hu => by
      rcases List.mem_cons.1 hu with rfl | hu
      · rfl
      · rcases List.mem_cons.1 hu with rfl | hu
        · rfl
        · cases hu) (by simpa using hp.nd) (fun g hg hx => hd g hg (by simpa using hx)) (by omega) (by omega) hb.below
  refine ⟨v', w', F', r1, ⟨?_, r3⟩, r5, r5.size⟩
  unfold psD
  rw [List.flatMap_append, List.length_append, List.length_singleton]
  exact r2
theorem rinfoP : (Tryz.prog.info? 49).map (fun i => (i.zero, i.size, i.bytes)) = some (some (.agg #[.string ByteArray.empty, .slice none 0 0]), 2, 40) := by kernel_rfl
theorem finfoP : (Tryz.prog.info? 46).map (fun i => (i.zero, i.size, i.bytes)) = some (some (.agg #[.string ByteArray.empty, .slice none 0 0]), 2, 40) := by kernel_rfl
theorem ps_nil (w0 w : World) (T : TypeId) : Txt.Ow w0 w (psD T []) (.slice none 0 0) [] := ⟨Own.nil _ _ _ _, by simp⟩
end Go.Proofs.YtndbgdapojkfaaaGreatDoor.Par
