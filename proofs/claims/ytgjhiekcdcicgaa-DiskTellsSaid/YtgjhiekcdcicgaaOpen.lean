/- Arguments opened to cells: slices of structs. -/
import Derived.Test.YtgjhiekcdcicgaaActs
import Derived.Deep.Slices
import Derived.Deep.Fields
import Derived.ChangeSame
import Derived.ProofKit
import Derived.OpenShut
import Derived.ShutString
import Derived.ChangeOld
import Derived.Lib.SmallJoins
namespace Go.Proofs.Ytgjhiekcdcicgaa
open Go.ChangeShapes Go.WideShapes Go.Deep Go.RowKit

theorem own : ownKnob Try.prog.godebug = none := by kernel_rfl
theorem laidOut : laidOutB Try.prog = true := by kernel_rfl

section
variable {H : Type} {enc : TypeId × Value → H} {P : Program} {w : World} {base : Nat} {spare : Nat → Bool} {held : Bool}
theorem open_slice_fields {t e : TypeId} {fs : Array Field} {fuel : Nat} {cs : List Value} {x : DataW H × List MemPlace} (ht : P.underlying t = some (.slice e)) (he : P.underlying e = some (.struct fs))
    (hone : oneCellFields P fs = true) (hC : P.cellsOf e = fs.size) (h : DataW.trod enc P w base spare held fuel t cs = some x) :
    (cs = [.slice none 0 0] ∧ x = (.nil, [])) ∨
    ∃ (a : Addr) (len cap m : Nat) (D : Nat → DataW H) (Pl : Nat → List MemPlace), cs = [.slice (some a) len cap] ∧ base ≤ a.block ∧ len ≤ cap ∧ cap ≤ maxLen ∧ m = (if spare a.block then cap else len) ∧
      x = (.slice ((List.range len).map D) ((List.range (m - len)).map fun j => D (len + j)), MemPlace.row a (m * fs.size) ++ (List.range m).flatMap Pl) ∧
      ∀ i, i < m → ∃ (ys : List (DataW H × List MemPlace)) (n : Nat), D i = .agg (ys.map (·.1)) ∧ Pl i = ys.flatMap (·.2) ∧ ys.length = fs.size ∧
        ∀ (j : Nat) (f : Field), fs[j]? = some f → ∃ (v : Value) (y : DataW H × List MemPlace), w.cell? (a.add (i * fs.size + j)) = some v ∧ ys[j]? = some y ∧ DataW.trod enc P w base spare held n f.type [v] = some y := by
  rcases open_slice ht h with h0 | ⟨a, len, cap, m, n, D, Pl, hcs, hb, hl, hm, hmm, hx, hi⟩
  · exact .inl h0
  · refine .inr ⟨a, len, cap, m, D, Pl, hcs, hb, hl, hm, hmm, by rw [hC] at hx; exact hx, fun i him => ?_⟩
    obtain ⟨cs', hc, ht'⟩ := hi i him
    rw [hC] at hc
    obtain ⟨ys, n', hn', hy, hlen, hyl, hf⟩ := DataW.trod_struct he ht'
    obtain ⟨_, hcl, hat⟩ := World.cells?_some hc
    simp only [Prod.mk.injEq] at hy
    refine ⟨ys, n', hy.1, hy.2, hyl, fun j f hj => ?_⟩
    obtain ⟨ho, hk⟩ := hone_of hone j f hj
    have hjl : j < fs.size := (Array.getElem?_eq_some_iff.1 hj).1
    have hcell := hat j hjl
    have hv : cs'[j]? = some (cs'[j]'(by omega)) := List.getElem?_eq_getElem (by omega)
    have h1 := hf j f hj
    rw [ho, hk] at h1
    have hone' : (cs'.drop j).take 1 = [cs'[j]'(by omega)] := by
      rw [List.drop_eq_getElem_cons (by omega)]
      rfl
    rw [hone'] at h1
    have hys : ys[j]? = some (ys[j]'(by omega)) := List.getElem?_eq_getElem (by omega)
    refine ⟨_, _, ?_, hys, h1.trans hys⟩
    rw [← Go.Deep.add_add, hcell, hv]
end
theorem u8_of {z : Int} (h : (Lit.int .u8 z).wf = true) : ∃ b : UInt8, z = ((b.toNat : Nat) : Int) := by
  obtain ⟨h1, h2⟩ := bounds_u8 h
  refine ⟨UInt8.ofNat z.toNat, ?_⟩
  have e : (UInt8.ofNat z.toNat).toNat = z.toNat := by
    rw [UInt8.toNat_ofNat']; omega
  rw [e]; omega

theorem acts_get (f : Nat → Act) (n j : Nat) (hj : j < n * 3) (hl : j < (TV ((List.range n).map f)).length) :
    (TV ((List.range n).map f))[j] = if j % 3 = 0 then .int .u8 (f (j / 3)).a else if j % 3 = 1 then .int .u8 (f (j / 3)).b.toNat else .bool (f (j / 3)).fl := by
  have hi : j / 3 < ((List.range n).map f).length := by simp; omega
  obtain ⟨h1, h2, h3⟩ := TV_get ((List.range n).map f) (j / 3) hi
  have hr : j % 3 = 0 ∨ j % 3 = 1 ∨ j % 3 = 2 := by omega
  apply Option.some_inj.1
  rw [← List.getElem?_eq_getElem hl]
  simp only [List.getElem_map, List.getElem_range] at h1 h2 h3
  rcases hr with h | h | h
  · rw [if_pos h, ← h1]; congr 1; omega
  · rw [if_neg (by omega), if_pos h, ← h2]; congr 1; omega
  · rw [if_neg (by omega), if_neg (by omega), ← h3]; congr 1; omega

set_option maxRecDepth 100000 in
/-- A slice of acts that came in. -/
theorem open_acts {H : Type} {enc : TypeId × Value → H} {w : World} {base : Nat} {spare : Nat → Bool} {held : Bool} {r : Reach} {b0 : Nat} {v : Value} {d : DataW H} {p : List MemPlace}
    (hv : Value.okWide Try.prog w r b0 60 v) (h : DataW.Trod enc Try.prog w base spare held 60 v d p) :
    ∃ (a : Option Addr) (len cap : Nat) (acts : List Act), v = .slice a len cap ∧ RV w a len 3 (TV acts) ∧ ∀ x ∈ acts, x.a ≤ 255 := by
  obtain ⟨a, len, cap, rfl⟩ := okWide_slice Try.underlying60 hv
  obtain ⟨fuel, hf⟩ := h
  rcases open_slice_fields Try.underlying60 Try.underlying64 (by kernel_rfl) (by kernel_rfl) hf with ⟨hcs, _⟩ | ⟨x, l, c, m, D, Pl, hcs, _, hl, hm, hmm, _, hi⟩
  · simp [Value.cells] at hcs
    obtain ⟨rfl, rfl, rfl⟩ := hcs
    exact ⟨none, 0, 0, [], rfl, RV.nil _ _ _, fun x hx => by simp at hx⟩
  · simp [Value.cells] at hcs
    obtain ⟨rfl, rfl, rfl⟩ := hcs
    have hlm : len ≤ m := by rw [hmm]; split <;> omega
    have hex : ∀ i, ∃ y : Act, i < len → (w.cell? (x.add (i * 3)) = some (.int .u8 y.a) ∧ w.cell? (x.add (i * 3 + 1)) = some (.int .u8 y.b.toNat) ∧ w.cell? (x.add (i * 3 + 2)) = some (.bool y.fl) ∧ y.a ≤ 255) := by
      intro i
      by_cases hil : i < len
      · obtain ⟨ys, n, _, _, _, hfs⟩ := hi i (by omega)
        obtain ⟨v0, y0, c0, _, t0⟩ := hfs 0 _ rfl
        obtain ⟨v1, y1, c1, _, t1⟩ := hfs 1 _ rfl
        obtain ⟨v2, y2, c2, _, t2⟩ := hfs 2 _ rfl
        obtain ⟨n0, e0, _, wf0⟩ := DataW.trod_int Try.underlying5 t0
        obtain ⟨n1, e1, _, wf1⟩ := DataW.trod_int Try.underlying5 t1
        obtain ⟨n2, e2, _⟩ := DataW.trod_bool Try.underlying4 t2
        obtain ⟨b0, rfl⟩ := u8_of wf0
        obtain ⟨b1, rfl⟩ := u8_of wf1
        simp only [List.cons.injEq, and_true] at e0 e1 e2
        subst e0 e1 e2
        exact ⟨⟨b0.toNat, b1, n2⟩, fun _ => ⟨c0, c1, c2, by have := b0.toNat_lt; simp only; omega⟩⟩
      · exact ⟨⟨0, 0, false⟩, fun h => absurd h hil⟩
    refine ⟨some x, len, cap, (List.range len).map fun i => Classical.choose (hex i), rfl, rv_of (by omega) (by rw [TV_length]; simp) (fun j hj => ?_), fun y hy => ?_⟩
    · have hj3 : j < len * 3 := by rw [TV_length] at hj; simpa using hj
      rw [acts_get _ _ _ hj3]
      have hc := Classical.choose_spec (hex (j / 3)) (by omega)
      have hr : j % 3 = 0 ∨ j % 3 = 1 ∨ j % 3 = 2 := by omega
      rcases hr with h | h | h
      · rw [if_pos h, ← hc.1]; congr 2; omega
      · rw [if_neg (by omega), if_pos h, ← hc.2.1]; congr 2; omega
      · rw [if_neg (by omega), if_neg (by omega), ← hc.2.2.1]; congr 2; omega
    · obtain ⟨i, hi, rfl⟩ := List.mem_map.1 hy
      exact (Classical.choose_spec (hex i) (List.mem_range.1 hi)).2.2.2

end Go.Proofs.Ytgjhiekcdcicgaa
