/- What came in, opened as plain data: numbers, texts, structs and slices of them. Of whatever program. -/
import Derived.Test.YtndbgdapojkfaaaGreatDoorTre
import Derived.Deep.Slices
import Derived.Deep.Fields
import Derived.Deep.Strs
import Derived.ChangeSame
import Derived.ProofKit
import Derived.OpenShut
import Derived.ShutString
import Derived.ChangeOld
import Derived.Lib.SmallJoins
import Derived.Stop.Joined
import Derived.SliceStrings
set_option linter.unusedVariables false
namespace Go.Proofs.YtndbgdapojkfaaaGreatDoor.Opn
open Go.ChangeShapes Go.WideShapes Go.ChangeAt Go.RowKit Go.Deep Go.Proofs.YtndbgdapojkfaaaGreatDoor.Tre

/-- Cells that read as plain data, each. -/
def AllRd (w : World) (ds : List Dat) (us : List Value) : Prop := us.length = ds.length ∧ ∀ (i : Nat) (d : Dat) (u : Value), ds[i]? = some d → us[i]? = some u → Rd w d u
theorem AllRd.nil (w : World) : AllRd w [] [] := ⟨rfl, fun i d u h => by simp at h⟩
theorem AllRd.one {w : World} {d : Dat} {u : Value} (h : Rd w d u) : AllRd w [d] [u] := ⟨rfl, fun i d' u' h1 h2 => by
  cases i with
  | zero => simp at h1 h2; subst h1 h2; exact h
  | succ i => simp at h1⟩
theorem AllRd.append {w : World} {ds es : List Dat} {us vs : List Value} (h : AllRd w ds us) (h' : AllRd w es vs) : AllRd w (ds ++ es) (us ++ vs) :=
  ⟨by rw [List.length_append, List.length_append, h.1, h'.1], fun i d u hd hu => by
    rw [List.getElem?_append] at hd hu
    rw [h.1] at hu
    by_cases hi : i < ds.length
    · rw [if_pos hi] at hd hu
      exact h.2 i d u hd hu
    · rw [if_neg hi] at hd hu
      exact h'.2 _ d u hd hu⟩
theorem choose_list {X : Type} {Q : Nat → X → Prop} : ∀ n : Nat, (∀ i, i < n → ∃ x, Q i x) → ∃ xs : List X, xs.length = n ∧ ∀ (i : Nat) (h : i < xs.length), Q i xs[i]
  | 0, _ => ⟨[], rfl, fun i h => by simp at h⟩
  | n + 1, h => by
    obtain ⟨xs, hl, hq⟩ := choose_list n (fun i hi => h i (by omega))
    obtain ⟨x, hx⟩ := h n (by omega)
    refine ⟨xs ++ [x], by simp [hl], fun i hi => ?_⟩
    rw [List.length_append, List.length_singleton] at hi
    by_cases c : i < xs.length
    · rw [List.getElem_append_left c]; exact hq i c
    · have : i = n := by omega
      subst this
      subst hl
      simpa using hx

section
variable {H : Type} {enc : TypeId × Value → H} {P : Program} {w : World} {base : Nat} {spare : Nat → Bool} {held : Bool}
/-- Cells of type t that came in read as plain data. -/
def Reads (enc : TypeId × Value → H) (P : Program) (w : World) (base : Nat) (spare : Nat → Bool) (held : Bool) (t : TypeId) {X : Type} (f : X → List Dat) (ok : X → Prop) : Prop :=
  ∀ (n : Nat) (cs : List Value) (y : DataW H × List MemPlace), DataW.trod enc P w base spare held n t cs = some y → ∃ x, ok x ∧ AllRd w (f x) cs
theorem reads_int {t : TypeId} {k : IntKind} (ht : P.underlying t = some (.int k)) : Reads enc P w base spare held t (fun z : Int => [.one (.int k z)]) (fun z => (Lit.int k z).wf = true) := fun n cs y h => by
  obtain ⟨z, rfl, _, hw⟩ := DataW.trod_int ht h
  exact ⟨z, hw, .one (.one _)⟩
theorem reads_bool {t : TypeId} (ht : P.underlying t = some .bool) : Reads enc P w base spare held t (fun b : Bool => [.one (.bool b)]) (fun _ => True) := fun n cs y h => by
  obtain ⟨b, rfl, _⟩ := DataW.trod_bool ht h
  exact ⟨b, trivial, .one (.one _)⟩
theorem reads_string {t : TypeId} (ht : P.underlying t = some .string) : Reads enc P w base spare held t (fun s : ByteArray => [.one (.string s)]) (fun s => s.size ≤ maxLen) := fun n cs y h => by
  obtain ⟨s, rfl, _, hs⟩ := DataW.trod_string ht h
  exact ⟨s, hs, .one (.one _)⟩
theorem reads_slice {t e : TypeId} {k : Nat} {X : Type} {f : X → List Dat} {ok : X → Prop} (ht : P.underlying t = some (.slice e)) (he : P.cellsOf e = k) (hk : 0 < k) (hf : ∀ x, (f x).length = k) (h : Reads enc P w base spare held e f ok) :
    Reads enc P w base spare held t (fun xs : List X => [.sl e k xs.length (xs.flatMap f)]) (fun xs => xs.length ≤ maxLen ∧ ∀ x ∈ xs, ok x) := fun n cs y hy => by
  rcases open_slice ht hy with ⟨rfl, _⟩ | ⟨a, len, cap, m, n', D, Pl, rfl, _, hl, hm, hmm, _, hi⟩
  · exact ⟨[], ⟨Nat.zero_le _, by simp⟩, .one (.nil _ _ _ _)⟩
  · have hlm : len ≤ m := by rw [hmm]; split <;> omega
    have hex : ∀ i, i < len → ∃ x, ok x ∧ ∀ (j : Nat) (d : Dat), (f x)[j]? = some d → ∃ u, w.cell? (a.add (i * k + j)) = some u ∧ Rd w d u := by
      intro i hil
      obtain ⟨cs', hc, ht'⟩ := hi i (by omega)
      rw [he] at hc
      obtain ⟨x, hx, hr⟩ := h n' cs' _ ht'
      obtain ⟨_, hcl, hat⟩ := World.cells?_some hc
      refine ⟨x, hx, fun j d hd => ?_⟩
      have hj : j < k := by
        obtain ⟨h1, _⟩ := List.getElem?_eq_some_iff.1 hd
        rwa [hf] at h1
      have hu : cs'[j]? = some (cs'[j]'(by omega)) := List.getElem?_eq_getElem (by omega)
      have hcell := hat j hj
      rw [Go.Deep.add_add, hu] at hcell
      exact ⟨_, hcell, hr.2 j d _ hd hu⟩
    obtain ⟨xs, hxl, hxs⟩ := choose_list len hex
    subst hxl
    have hok : ∀ x ∈ xs, ok x := fun x hx => by
      obtain ⟨i, hi', rfl⟩ := List.mem_iff_getElem.1 hx
      exact (hxs i hi').1
    refine ⟨xs, ⟨by omega, hok⟩, .one ?_⟩
    rcases Nat.eq_zero_or_pos xs.length with h0 | h0
    · have : xs = [] := List.eq_nil_of_length_eq_zero h0
      subst this
      exact .nil _ _ _ _
    · obtain ⟨b, off, spot⟩ := a
      have h1 := (hxs 0 h0).2 0 ((f xs[0])[0]'(by rw [hf]; exact hk)) (List.getElem?_eq_getElem (by rw [hf]; exact hk))
      obtain ⟨u, hu, _⟩ := h1
      have hspot : spot = none := by simpa [Addr.add] using World.cell?_spot hu
      subst hspot
      have hb : b < w.heap.size := by have := cell_lt hu; simpa [Addr.add] using this
      refine Rd.of_cells (by rw [flat_len hf]) hl (fun _ => hb) (fun i d hd => ?_)
      have hil : i < xs.length * k := by
        obtain ⟨h1, _⟩ := List.getElem?_eq_some_iff.1 hd
        rwa [flat_len hf] at h1
      have hq : i / k < xs.length := (Nat.div_lt_iff_lt_mul hk).2 hil
      have hdm : i / k * k + i % k = i := by rw [Nat.mul_comm]; exact Nat.div_add_mod i k
      have hd2 : (f xs[i / k])[i % k]? = some d := by
        have := flat_get hf xs (i / k) (i % k) (Nat.mod_lt _ hk)
        rw [hdm, hd, List.getElem?_eq_getElem hq] at this
        exact this.symm
      obtain ⟨u, hu, hr⟩ := (hxs (i / k) hq).2 (i % k) d hd2
      rw [hdm, add_none] at hu
      exact ⟨u, hu, hr⟩
theorem split2 {us : List Value} {k0 k1 : Nat} (h : us.length = k0 + k1) : us = (us.drop 0).take k0 ++ (us.drop k0).take k1 := by
  rw [List.drop_zero, List.take_of_length_le (l := us.drop k0) (by rw [List.length_drop]; omega), List.take_append_drop]
/-- A struct of two fields. -/
theorem reads_two {t : TypeId} {f0 f1 : Field} {k0 k1 : Nat} {X0 X1 : Type} {g0 : X0 → List Dat} {g1 : X1 → List Dat} {ok0 : X0 → Prop} {ok1 : X1 → Prop} (hs : P.underlying t = some (.struct #[f0, f1])) (o0 : f0.offset = 0) (c0 : P.cellsOf f0.type = k0) (o1 : f1.offset = k0) (c1 : P.cellsOf f1.type = k1) (hC : P.cellsOf t = k0 + k1)
    (h0 : Reads enc P w base spare held f0.type g0 ok0) (h1 : Reads enc P w base spare held f1.type g1 ok1) : Reads enc P w base spare held t (fun x : X0 × X1 => g0 x.1 ++ g1 x.2) (fun x => ok0 x.1 ∧ ok1 x.2) := fun n cs y hy => by
  obtain ⟨ys, m, _, _, hl, hyl, hf⟩ := DataW.trod_struct hs hy
  rw [hC] at hl
  match ys, hyl with
  | [y0, y1], _ =>
    have e0 := hf 0 f0 rfl
    have e1 := hf 1 f1 rfl
    rw [o0, c0] at e0
    rw [o1, c1] at e1
    obtain ⟨x0, a0, r0⟩ := h0 _ _ _ e0
    obtain ⟨x1, a1, r1⟩ := h1 _ _ _ e1
    refine ⟨(x0, x1), ⟨a0, a1⟩, ?_⟩
    rw [split2 hl]
    exact r0.append r1
theorem split3 {us : List Value} {k0 k1 k2 : Nat} (h : us.length = k0 + k1 + k2) : us = (us.drop 0).take k0 ++ ((us.drop k0).take k1 ++ (us.drop (k0 + k1)).take k2) := by
  rw [List.drop_zero, List.take_of_length_le (l := us.drop (k0 + k1)) (by rw [List.length_drop]; omega), ← List.drop_drop, List.take_append_drop, List.take_append_drop]
/-- A struct of three fields. -/
theorem reads_three {t : TypeId} {f0 f1 f2 : Field} {k0 k1 k2 : Nat} {X0 X1 X2 : Type} {g0 : X0 → List Dat} {g1 : X1 → List Dat} {g2 : X2 → List Dat} {ok0 : X0 → Prop} {ok1 : X1 → Prop} {ok2 : X2 → Prop} (hs : P.underlying t = some (.struct #[f0, f1, f2])) (o0 : f0.offset = 0) (c0 : P.cellsOf f0.type = k0) (o1 : f1.offset = k0) (c1 : P.cellsOf f1.type = k1) (o2 : f2.offset = k0 + k1) (c2 : P.cellsOf f2.type = k2) (hC : P.cellsOf t = k0 + k1 + k2)
    (h0 : Reads enc P w base spare held f0.type g0 ok0) (h1 : Reads enc P w base spare held f1.type g1 ok1) (h2 : Reads enc P w base spare held f2.type g2 ok2) : Reads enc P w base spare held t (fun x : X0 × X1 × X2 => g0 x.1 ++ (g1 x.2.1 ++ g2 x.2.2)) (fun x => ok0 x.1 ∧ ok1 x.2.1 ∧ ok2 x.2.2) := fun n cs y hy => by
  obtain ⟨ys, m, _, _, hl, hyl, hf⟩ := DataW.trod_struct hs hy
  rw [hC] at hl
  match ys, hyl with
  | [y0, y1, y2], _ =>
    have e0 := hf 0 f0 rfl
    have e1 := hf 1 f1 rfl
    have e2 := hf 2 f2 rfl
    rw [o0, c0] at e0
    rw [o1, c1] at e1
    rw [o2, c2] at e2
    obtain ⟨x0, a0, r0⟩ := h0 _ _ _ e0
    obtain ⟨x1, a1, r1⟩ := h1 _ _ _ e1
    obtain ⟨x2, a2, r2⟩ := h2 _ _ _ e2
    refine ⟨(x0, x1, x2), ⟨a0, a1, a2⟩, ?_⟩
    rw [split3 hl]
    exact r0.append (r1.append r2)
/-- A slice that came in as an argument. -/
theorem arg_slice {r : Reach} {b0 : Nat} {t e : TypeId} {v : Value} {d : DataW H} {p : List MemPlace} {X : Type} {f : X → List Dat} {ok : X → Prop} {D : X → Dat} (ht : P.underlying t = some (.slice e)) (hD : ∀ x, f x = [D x]) (hR : Reads enc P w base spare held t f ok)
    (hv : Value.okWide P w r b0 t v) (h : DataW.Trod enc P w base spare held t v d p) : ∃ x, ok x ∧ Rd w (D x) v := by
  obtain ⟨a, l, c, rfl⟩ := okWide_slice ht hv
  obtain ⟨fuel, hf⟩ := h
  obtain ⟨x, hx, hr⟩ := hR _ _ _ (by simpa [Value.cells] using hf)
  rw [hD] at hr
  exact ⟨x, hx, hr.2 0 _ _ rfl rfl⟩
/-- A struct that came in as an argument: its cells. -/
theorem arg_struct {r : Reach} {b0 : Nat} {t : TypeId} {fs : Array Field} {v : Value} {d : DataW H} {p : List MemPlace} {X : Type} {f : X → List Dat} {ok : X → Prop} (ht : P.underlying t = some (.struct fs)) (hR : Reads enc P w base spare held t f ok)
    (hv : Value.okWide P w r b0 t v) (h : DataW.Trod enc P w base spare held t v d p) : ∃ (x : X) (cs : List Value), ok x ∧ v = .agg cs.toArray ∧ AllRd w (f x) cs := by
  obtain ⟨cs, rfl, hsz⟩ := okWide_struct ht hv
  obtain ⟨fuel, hf⟩ := h
  obtain ⟨x, hx, hr⟩ := hR _ _ _ (by simpa [Value.cells] using hf)
  exact ⟨x, cs.toList, hx, by simp, hr⟩
end
end Go.Proofs.YtndbgdapojkfaaaGreatDoor.Opn
