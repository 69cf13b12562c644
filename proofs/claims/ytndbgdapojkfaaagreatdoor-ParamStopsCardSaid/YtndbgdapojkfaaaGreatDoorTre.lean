/- Plain data in memory: slices of cells, and of slices. What a value reads as (Rd); what a call's own rows hold, and in which blocks (Own). Of whatever program. -/
import Derived.WalkKit
import Derived.Below
import Derived.Lib.Hide
import Derived.OwnWalk
import Derived.Laws.OwnMore
import Derived.Laws.Rows
import Derived.Maps.AppendAt
import Derived.Deep.Draws
import Derived.Deep.RegionLaw
set_option linter.unusedVariables false
namespace Go.Proofs.YtndbgdapojkfaaaGreatDoor.Tre
open Go.RowKit

/-- Plain data: a cell's value, or a slice of n elements of k cells each (of type e), its cells one behind the other. -/
inductive Dat
  | one (v : Value)
  | sl (e : TypeId) (k n : Nat) (cs : List Dat)

theorem add_none (b off i : Nat) : (⟨b, off, none⟩ : Addr).add i = ⟨b, off + i, none⟩ := by by_cases h0 : i = 0 <;> simp [Addr.add, h0]
theorem cell_lt {w : World} {p : Addr} {v : Value} (h : w.cell? p = some v) : p.block < w.heap.size := by
  by_cases hl : p.block < w.heap.size
  · exact hl
  · have : w.heap[p.block]? = none := Array.getElem?_eq_none (by omega)
    unfold World.cell? at h
    split at h
    · rename_i h1; rw [this] at h1; cases h1
    · cases h

/-- What a value reads as. -/
inductive Rd (w : World) : Dat → Value → Prop
  | one (v : Value) : Rd w (.one v) v
  | nil (e : TypeId) (k : Nat) (a : Option Addr) (c : Nat) : Rd w (.sl e k 0 []) (.slice a 0 c)
  | sl (e : TypeId) (k n b off c : Nat) (cs : List Dat) (vs : List Value) (hn : 0 < n) (hcap : n ≤ c) (hb : b < w.heap.size) (hk : vs.length = n * k) (hl : vs.length = cs.length)
      (hc : ∀ (i : Nat) (u : Value), vs[i]? = some u → w.cell? ⟨b, off + i, none⟩ = some u) (h : ∀ (i : Nat) (d : Dat) (u : Value), cs[i]? = some d → vs[i]? = some u → Rd w d u) : Rd w (.sl e k n cs) (.slice (some ⟨b, off, none⟩) n c)
theorem Rd.call {w w' : World} {d : Dat} {v : Value} (h : Rd w d v) (hb : Below w.heap.size w w') : Rd w' d v := by
  induction h with
  | one v => exact .one v
  | nil e k a c => exact .nil e k a c
  | sl e k n b off c cs vs hn hcap hb' hk hl hc _ ih => exact .sl e k n b off c cs vs hn hcap (Nat.lt_of_lt_of_le hb' hb.size) hk hl (fun i u hu => (hb.cell (p := ⟨b, off + i, none⟩) hb').trans (hc i u hu)) ih
theorem both {α β : Type} {cs : List α} {vs : List β} (hl : vs.length = cs.length) {i : Nat} {c : α} (hc : cs[i]? = some c) : ∃ u, vs[i]? = some u := by
  obtain ⟨hi, _⟩ := List.getElem?_eq_some_iff.1 hc
  exact ⟨_, List.getElem?_eq_getElem (by omega)⟩
/-- A slice's value, and the reading of its cells. -/
theorem Rd.slice {w : World} {e : TypeId} {k n : Nat} {cs : List Dat} {v : Value} (h : Rd w (.sl e k n cs) v) : ∃ a c, v = .slice a n c ∧ cs.length = n * k ∧ (0 < n → ∃ b off, a = some ⟨b, off, none⟩ ∧ b < w.heap.size ∧ ∀ (i : Nat) (d : Dat), cs[i]? = some d → ∃ u, w.cell? ⟨b, off + i, none⟩ = some u ∧ Rd w d u) := by
  cases h with
  | nil e k a c => exact ⟨a, c, rfl, by simp, fun h => absurd h (by omega)⟩
  | sl e k n b off c cs vs hn hcap hb hk hl hc h =>
    refine ⟨_, c, rfl, by omega, fun _ => ⟨b, off, rfl, hb, fun i d hd => ?_⟩⟩
    obtain ⟨u, hu⟩ := both hl hd
    exact ⟨u, hc i u hu, h i d u hd hu⟩
/-- A slice that is read is no longer than its room. -/
theorem Rd.cap {w : World} {e : TypeId} {k n m c : Nat} {cs : List Dat} {a : Option Addr} (h : Rd w (.sl e k n cs) (.slice a m c)) : m ≤ c := by
  cases h with
  | nil => exact Nat.zero_le _
  | sl _ _ _ _ _ _ _ _ _ hcap => exact hcap
theorem Rd.val {w : World} {v u : Value} (h : Rd w (.one v) u) : u = v := by cases h; rfl
/-- A reading out of its cells. -/
theorem Rd.of_cells {w : World} {e : TypeId} {k n b off c : Nat} {cs : List Dat} (hk : cs.length = n * k) (hcap : n ≤ c) (hb : 0 < n → b < w.heap.size) (hc : ∀ (i : Nat) (d : Dat), cs[i]? = some d → ∃ u, w.cell? ⟨b, off + i, none⟩ = some u ∧ Rd w d u) : Rd w (.sl e k n cs) (.slice (some ⟨b, off, none⟩) n c) := by
  rcases Nat.eq_zero_or_pos n with h0 | h0
  · subst h0
    have : cs = [] := List.eq_nil_of_length_eq_zero (by omega)
    subst this
    exact .nil e k _ c
  · have hx : ∀ i : Fin cs.length, ∃ u, w.cell? ⟨b, off + i.1, none⟩ = some u ∧ Rd w cs[i.1] u := fun i => hc i.1 _ (List.getElem?_eq_getElem i.2)
    refine .sl e k n b off c cs (List.ofFn fun i : Fin cs.length => Classical.choose (hx i)) h0 hcap (hb h0) (by rw [List.length_ofFn]; exact hk) (by rw [List.length_ofFn]) (fun i u hu => ?_) (fun i d u hd hu => ?_)
    · obtain ⟨hi, rfl⟩ := List.getElem?_eq_some_iff.1 hu
      rw [List.getElem_ofFn]
      exact (Classical.choose_spec (hx ⟨i, by simpa using hi⟩)).1
    · obtain ⟨hi, rfl⟩ := List.getElem?_eq_some_iff.1 hu
      obtain ⟨h1, rfl⟩ := List.getElem?_eq_some_iff.1 hd
      rw [List.getElem_ofFn]
      exact (Classical.choose_spec (hx ⟨i, h1⟩)).2

/-- The blocks of a value's own row. -/
def blk (v : Value) : List Nat := match v.ownBlock with | some g => [g] | none => []
theorem mem_blk {v : Value} {g : Nat} : g ∈ blk v ↔ v.ownBlock = some g := by
  unfold blk
  cases v.ownBlock with
  | none => simp
  | some x => simp [eq_comm]
theorem blk_nodup (v : Value) : (blk v).Nodup := by unfold blk; split <;> simp
/-- Rows of the call's own (from block B on): what they hold, and in which blocks. -/
inductive Own (w : World) (B : Nat) : Dat → Value → List Nat → Prop
  | one (v : Value) : Own w B (.one v) v []
  | sl (e : TypeId) (k n : Nat) (cs : List Dat) (vs : List Value) (v : Value) (Fs : List (List Nat)) (h : w.ownsRow B e k v n vs) (hl : vs.length = cs.length) (hF : Fs.length = cs.length)
      (hi : ∀ (i : Nat) (d : Dat) (u : Value) (G : List Nat), cs[i]? = some d → vs[i]? = some u → Fs[i]? = some G → Own w B d u G) : Own w B (.sl e k n cs) v (blk v ++ Fs.flatten)
/-- Cells of the call's own: each with its blocks. -/
structure Cells (w : World) (B : Nat) (cs : List Dat) (vs : List Value) (Fs : List (List Nat)) : Prop where
  l1 : vs.length = cs.length
  l2 : Fs.length = cs.length
  own : ∀ (i : Nat) (d : Dat) (u : Value) (G : List Nat), cs[i]? = some d → vs[i]? = some u → Fs[i]? = some G → Own w B d u G
theorem Own.of_cells {w : World} {B : Nat} {e : TypeId} {k n : Nat} {cs : List Dat} {vs : List Value} {v : Value} {Fs : List (List Nat)} (h : w.ownsRow B e k v n vs) (hc : Cells w B cs vs Fs) : Own w B (.sl e k n cs) v (blk v ++ Fs.flatten) := .sl e k n cs vs v Fs h hc.l1 hc.l2 hc.own
theorem Own.cells {w : World} {B : Nat} {e : TypeId} {k n : Nat} {cs : List Dat} {v : Value} {F : List Nat} (h : Own w B (.sl e k n cs) v F) : ∃ vs Fs, F = blk v ++ Fs.flatten ∧ w.ownsRow B e k v n vs ∧ Cells w B cs vs Fs := by
  cases h with
  | sl e k n cs vs v Fs h hl hF hi => exact ⟨vs, Fs, rfl, h, hl, hF, hi⟩
theorem blk_lt {w : World} {B : Nat} {e : TypeId} {k n : Nat} {v : Value} {vs : List Value} (h : w.ownsRow B e k v n vs) : ∀ g ∈ blk v, B ≤ g ∧ g < w.heap.size := fun g hg => h.lt g (mem_blk.1 hg)
theorem mem_flatten {Fs : List (List Nat)} {g : Nat} (h : g ∈ Fs.flatten) : ∃ (i : Nat) (G : List Nat), Fs[i]? = some G ∧ g ∈ G := by
  obtain ⟨l, hl, hg⟩ := List.mem_flatten.1 h
  obtain ⟨i, hi⟩ := List.mem_iff_getElem?.1 hl
  exact ⟨i, l, hi, hg⟩
theorem flatten_mem {Fs : List (List Nat)} {G : List Nat} {g i : Nat} (hi : Fs[i]? = some G) (h : g ∈ G) : g ∈ Fs.flatten := List.mem_flatten.2 ⟨G, List.mem_iff_getElem?.2 ⟨i, hi⟩, h⟩
theorem Own.lt {w : World} {B : Nat} {d : Dat} {v : Value} {F : List Nat} (h : Own w B d v F) : ∀ g ∈ F, B ≤ g ∧ g < w.heap.size := by
  induction h with
  | one v => intro g hg; simp at hg
  | sl e k n cs vs v Fs h hl hF _ ih =>
    intro g hg
    rcases List.mem_append.1 hg with hg | hg
    · exact blk_lt h g hg
    · obtain ⟨i, G, hi, hg⟩ := mem_flatten hg
      obtain ⟨d, hd⟩ := both hF.symm hi
      obtain ⟨u, hu⟩ := both hl hd
      exact ih i d u G hd hu hi g hg
/-- Rows stay where their blocks stay. -/
theorem Own.kept {w w' : World} {B : Nat} {d : Dat} {v : Value} {F : List Nat} (h : Own w B d v F) (hk : ∀ g ∈ F, w'.heap[g]? = w.heap[g]?) : Own w' B d v F := by
  induction h with
  | one v => exact .one v
  | sl e k n cs vs v Fs h hl hF _ ih =>
    refine .sl e k n cs vs v Fs ⟨h.1, ?_⟩ hl hF (fun i d u G hd hu hG => ih i d u G hd hu hG (fun g hg => hk g (List.mem_append_right _ (flatten_mem hG hg))))
    rcases h.2 with hn | ⟨g, cap, cur, rfl, hb, hgg, rest⟩
    · exact .inl hn
    · exact .inr ⟨g, cap, cur, rfl, hb, (hk g (List.mem_append_left _ (mem_blk.2 rfl))).trans hgg, rest⟩
theorem Own.call {w w' : World} {B : Nat} {d : Dat} {v : Value} {F : List Nat} (h : Own w B d v F) (hb : Below w.heap.size w w') : Own w' B d v F := h.kept fun g hg => hb.block g (h.lt g hg).2
theorem Own.grown {w w' : World} {B : Nat} {d : Dat} {v : Value} {F : List Nat} {r : Option Nat} (h : Own w B d v F) (hg : w.grownBy w' r) (hr : ∀ g ∈ F, some g ≠ r) : Own w' B d v F := h.kept fun g hx => hg.block g (h.lt g hx).2 (hr g hx)
theorem own_cell {w : World} {B : Nat} {e : TypeId} {k n : Nat} {v : Value} {vs : List Value} (h : w.ownsRow B e k v n vs) (hn : 0 < n) : ∃ g c, v = .slice (some ⟨g, 0, none⟩) n c ∧ B ≤ g ∧ g < w.heap.size ∧ blk v = [g] ∧ (∀ (i : Nat) (u : Value), vs[i]? = some u → w.cell? ⟨g, i, none⟩ = some u) ∧ ∀ i, w.frozen? ⟨g, i, none⟩ = false := by
  rcases h.2 with ⟨rfl, h0⟩ | ⟨g, cap, cur, rfl, hb, hg, h1, h2, h3, h4⟩
  · omega
  · refine ⟨g, cap, rfl, hb, (Array.getElem?_eq_some_iff.1 hg).1, rfl, fun i u hu => ?_, fun i => by simp [World.frozen?, hg]⟩
    obtain ⟨hi, _⟩ := List.getElem?_eq_some_iff.1 hu
    rw [cell_of_row w g i cur e _ hg]
    have hi2 : i < n * k := by rw [← h.1]; exact hi
    rw [← h4, List.getElem?_take, if_pos hi2] at hu
    simpa using hu
theorem row_cap {w : World} {B : Nat} {e : TypeId} {k n c : Nat} {a : Option Addr} {vs : List Value} (h : w.ownsRow B e k (.slice a n c) n vs) : n ≤ c := by
  rcases h.2 with ⟨x, h0⟩ | ⟨g, cap, cur, x, -, -, y, -⟩
  · omega
  · injection x with x1 x2 x3; omega
/-- What a row of the call's own reads as. -/
theorem Own.rd {w : World} {B : Nat} {d : Dat} {v : Value} {F : List Nat} (h : Own w B d v F) : Rd w d v := by
  induction h with
  | one v => exact .one v
  | sl e k n cs vs v Fs h hl hF _ ih =>
    rcases Nat.eq_zero_or_pos n with h0 | h0
    · subst h0
      have hv : vs = [] := List.eq_nil_of_length_eq_zero (by rw [h.1]; simp)
      subst hv
      have hc : cs = [] := List.eq_nil_of_length_eq_zero (by simpa using hl.symm)
      subst hc
      rcases h.2 with ⟨rfl, _⟩ | ⟨g, cap, cur, rfl, _⟩
      · exact .nil e k _ _
      · exact .nil e k _ _
    · obtain ⟨g, c, rfl, _, hlt, _, hc, _⟩ := own_cell h h0
      refine .sl e k n g 0 c cs vs h0 (row_cap h) hlt h.1 hl (fun i u hu => by rw [Nat.zero_add]; exact hc i u hu) (fun i d u hd hu => ?_)
      obtain ⟨G, hG⟩ := both hF hd
      exact ih i d u G hd hu hG
theorem Cells.nil (w : World) (B : Nat) : Cells w B [] [] [] := ⟨rfl, rfl, fun i d u G h => by simp at h⟩
theorem Cells.cons {w : World} {B : Nat} {c : Dat} {v : Value} {F : List Nat} {cs : List Dat} {vs : List Value} {Fs : List (List Nat)} (h : Own w B c v F) (hs : Cells w B cs vs Fs) : Cells w B (c :: cs) (v :: vs) (F :: Fs) :=
  ⟨by simp [hs.l1], by simp [hs.l2], fun i d u G hd hu hG => by
    cases i with
    | zero => simp at hd hu hG; subst hd hu hG; exact h
    | succ i => exact hs.own i d u G (by simpa using hd) (by simpa using hu) (by simpa using hG)⟩
theorem Cells.append {w : World} {B : Nat} {cs ds : List Dat} {vs us : List Value} {Fs Gs : List (List Nat)} (h : Cells w B cs vs Fs) (h' : Cells w B ds us Gs) : Cells w B (cs ++ ds) (vs ++ us) (Fs ++ Gs) :=
  ⟨by simp [h.l1, h'.l1], by simp [h.l2, h'.l2], fun i d u G hd hu hG => by
    rw [List.getElem?_append] at hd hu hG
    rw [h.l1] at hu
    rw [h.l2] at hG
    by_cases hi : i < cs.length
    · rw [if_pos hi] at hd hu hG
      exact h.own i d u G hd hu hG
    · rw [if_neg hi] at hd hu hG
      exact h'.own _ d u G hd hu hG⟩
theorem Cells.kept {w w' : World} {B : Nat} {cs : List Dat} {vs : List Value} {Fs : List (List Nat)} (h : Cells w B cs vs Fs) (hk : ∀ g ∈ Fs.flatten, w'.heap[g]? = w.heap[g]?) : Cells w' B cs vs Fs :=
  ⟨h.l1, h.l2, fun i d u G hd hu hG => (h.own i d u G hd hu hG).kept fun g hg => hk g (flatten_mem hG hg)⟩
theorem Cells.lt {w : World} {B : Nat} {cs : List Dat} {vs : List Value} {Fs : List (List Nat)} (h : Cells w B cs vs Fs) : ∀ g ∈ Fs.flatten, B ≤ g ∧ g < w.heap.size := by
  intro g hg
  obtain ⟨i, G, hi, hg⟩ := mem_flatten hg
  obtain ⟨d, hd⟩ := both h.l2.symm hi
  obtain ⟨u, hu⟩ := both h.l1 hd
  exact (h.own i d u G hd hu hi).lt g hg
theorem Own.nil (w : World) (B : Nat) (e : TypeId) (k : Nat) : Own w B (.sl e k 0 []) (.slice none 0 0) [] := Own.of_cells (vs := []) (Fs := []) (w.ownsRow_nil B e k) (Cells.nil w B)

/-- An append of elements that lie at an address, onto a row of the call's own. -/
theorem append_own {P : Program} {w : World} {B : Nat} {t ty e : TypeId} {z : Value} {k bytes : Nat} (ht : P.underlying t = some (.slice e)) (hinfo : (P.info? e).map (fun i => (i.zero, i.size, i.bytes)) = some (some z, k, bytes)) (hzs : z.cells.size = k) (hk : 0 < k)
    {n : Nat} {cs : List Dat} {v : Value} {F : List Nat} (ho : Own w B (.sl e k n cs) v F) (hF : F.Nodup) {a : Addr} {m : Nat} (c : Nat) {ds : List Dat} {us : List Value} {Gs : List (List Nat)} (hd : Cells w B ds us Gs)
    (hus : us.length = m * k) (hcell : ∀ (i : Nat) (u : Value), us[i]? = some u → w.cell? (a.add i) = some u) (h1 : ∀ u ∈ us, u.oneCell' = true) (hG : Gs.flatten.Nodup) (hdis : ∀ g ∈ F, g ∉ Gs.flatten)
    (h63 : n + m ≤ 1000000) (hby : bytes ≤ 1000) (hB : B ≤ w.heap.size) :
    ∃ v' w' F', (Builtin.append_ #[t, t] ty #[v, .slice (some a) m c]).run P w = .ok v' w' ∧ Own w' B (.sl e k (n + m) (cs ++ ds)) v' F' ∧ F'.Nodup ∧ w.grownBy w' v.ownBlock ∧ (∀ g ∈ F', g ∈ F ∨ g ∈ Gs.flatten ∨ g = w.heap.size) := by
  obtain ⟨vs, Fs, rfl, hrow, hcs⟩ := ho.cells
  obtain ⟨i, hi, hz⟩ := Option.map_eq_some_iff.1 hinfo
  simp only [Prod.mk.injEq] at hz
  obtain ⟨hz1, hz2, hz3⟩ := hz
  have hb : (n + m) * bytes ≤ 140737488355328 := Nat.le_trans (Nat.mul_le_mul h63 hby) (by decide)
  obtain ⟨v', w', hrun, h2, h3, _, h5⟩ := run_append_own_at (P := P) w B t ty e i z k bytes ht hi hz1 hz2 hz3 hzs hk v n vs hrow a m c us hus hcell h1 (by unfold maxLen; omega) hb hB
  have hnd := List.nodup_append.1 hF
  have keepF : ∀ g ∈ Fs.flatten, w'.heap[g]? = w.heap[g]? := fun g hg => h3.block g (hcs.lt g hg).2 (fun hx => hnd.2.2 g (mem_blk.2 hx.symm) g hg rfl)
  have keepG : ∀ g ∈ Gs.flatten, w'.heap[g]? = w.heap[g]? := fun g hg => h3.block g (hd.lt g hg).2 (fun hx => hdis g (List.mem_append_left _ (mem_blk.2 hx.symm)) hg)
  have hall := (hcs.kept keepF).append (hd.kept keepG)
  refine ⟨v', w', _, hrun, Own.of_cells h2 hall, ?_, h3, ?_⟩
  · rw [List.flatten_append]
    refine List.nodup_append.2 ⟨blk_nodup _, List.nodup_append.2 ⟨hnd.2.1, hG, fun g hg g' hg' e => ?_⟩, fun g hg g' hg' e => ?_⟩
    · subst e; exact hdis g (List.mem_append_right _ hg) hg'
    · subst e
      have hgv := mem_blk.1 hg
      rcases h5 with h5 | h5
      · have hm : g ∈ blk v := mem_blk.2 (by rw [← h5, hgv])
        rcases List.mem_append.1 hg' with hx | hx
        · exact hnd.2.2 g hm g hx rfl
        · exact hdis g (List.mem_append_left _ hm) hx
      · rw [hgv] at h5
        have : g = w.heap.size := Option.some.inj h5
        rcases List.mem_append.1 hg' with hx | hx
        · have := (hcs.lt g hx).2; omega
        · have := (hd.lt g hx).2; omega
  · intro g hg
    rw [List.flatten_append] at hg
    rcases List.mem_append.1 hg with hg | hg
    · have hgv := mem_blk.1 hg
      rcases h5 with h5 | h5
      · exact .inl (List.mem_append_left _ (mem_blk.2 (by rw [← h5, hgv])))
      · rw [hgv] at h5
        exact .inr (.inr (Option.some.inj h5))
    · rcases List.mem_append.1 hg with hx | hx
      · exact .inl (List.mem_append_right _ hx)
      · exact .inr (.inl hx)

/-- Elements of k cells each, one behind the other: the cell at a place. -/
theorem flat_get {α β : Type} {f : α → List β} {k : Nat} (hf : ∀ x, (f x).length = k) : ∀ (l : List α) (i j : Nat), j < k → (l.flatMap f)[i * k + j]? = (l[i]?).bind fun x => (f x)[j]?
  | [], i, j, hj => by simp
  | x :: l, i, j, hj => by
    rw [List.flatMap_cons]
    cases i with
    | zero =>
      rw [Nat.zero_mul, Nat.zero_add, List.getElem?_append_left (by rw [hf]; exact hj)]
      rfl
    | succ i =>
      rw [List.getElem?_append_right (by rw [hf, Nat.succ_mul]; omega), hf, show (i + 1) * k + j - k = i * k + j by rw [Nat.succ_mul]; omega, flat_get hf l i j hj]
      rfl
theorem flat_len {α β : Type} {f : α → List β} {k : Nat} (hf : ∀ x, (f x).length = k) (l : List α) : (l.flatMap f).length = l.length * k := by
  induction l with
  | nil => simp
  | cons x l ih => rw [List.flatMap_cons, List.length_append, hf, ih, List.length_cons, Nat.succ_mul]; omega
/-- A slice of elements of k cells each, read. -/
theorem Rd.elems {w : World} {e : TypeId} {k n : Nat} {α : Type} {f : α → List Dat} (hf : ∀ x, (f x).length = k) {l : List α} {v : Value} (h : Rd w (.sl e k n (l.flatMap f)) v) (hk : 0 < k) : n = l.length ∧ ∃ a c, v = .slice a l.length c ∧ (0 < l.length → ∃ b off, a = some ⟨b, off, none⟩ ∧ b < w.heap.size ∧ ∀ (i : Nat) (hi : i < l.length) (j : Nat) (d : Dat), (f l[i])[j]? = some d → ∃ u, w.cell? ⟨b, off + (i * k + j), none⟩ = some u ∧ Rd w d u) := by
  obtain ⟨a, c, rfl, hl, hc⟩ := h.slice
  rw [flat_len hf] at hl
  have hn : n = l.length := (Nat.eq_of_mul_eq_mul_right hk hl).symm
  subst hn
  refine ⟨rfl, a, c, rfl, fun h0 => ?_⟩
  obtain ⟨b, off, rfl, hb, hcell⟩ := hc h0
  refine ⟨b, off, rfl, hb, fun i hi j d hd => ?_⟩
  have hj : j < k := by
    obtain ⟨h1, _⟩ := List.getElem?_eq_some_iff.1 hd
    rwa [hf] at h1
  refine hcell _ d ?_
  rw [flat_get hf l i j hj, List.getElem?_eq_getElem hi]
  exact hd

/-- A cell of a row of the call's own is stored. -/
theorem ownsRow_set {w : World} {B : Nat} {e : TypeId} {k n : Nat} {v : Value} {vs : List Value} (h : w.ownsRow B e k v n vs) {g j : Nat} (hg : v.ownBlock = some g) (hj : j < vs.length) (u : Value) : (w.setCell ⟨g, j, none⟩ u).ownsRow B e k v n (vs.set j u) := by
  refine ⟨by rw [List.length_set]; exact h.1, ?_⟩
  rcases h.2 with ⟨rfl, _⟩ | ⟨g', cap, cur, rfl, hb, hgg, h1, h2, h3, h4⟩
  · simp [Value.ownBlock] at hg
  · have : g' = g := by simpa [Value.ownBlock] using hg
    subst this
    refine .inr ⟨g', cap, cur.set! j u, rfl, hb, ?_, h1, h2, by simpa using h3, ?_⟩
    · simp [World.setCell, Array.getElem?_modify, hgg]
    · rw [← h4, Array.set!_eq_setIfInBounds, Array.toList_setIfInBounds, List.take_set]
theorem Own.set_far {w : World} {B : Nat} {d : Dat} {v : Value} {F : List Nat} (h : Own w B d v F) {p : Addr} (hp : p.block ∉ F) (u : Value) : Own (w.setCell p u) B d v F := h.kept fun g hg => Below.heap_setCell w p u g (fun e => hp (e ▸ hg))
theorem Cells.set_far {w : World} {B : Nat} {cs : List Dat} {vs : List Value} {Fs : List (List Nat)} (h : Cells w B cs vs Fs) {p : Addr} (hp : p.block ∉ Fs.flatten) (u : Value) : Cells (w.setCell p u) B cs vs Fs := h.kept fun g hg => Below.heap_setCell w p u g (fun e => hp (e ▸ hg))
/-- Cells, taken apart. -/
theorem Cells.split {w : World} {B : Nat} {cs ds : List Dat} {vs : List Value} {Fs : List (List Nat)} (h : Cells w B (cs ++ ds) vs Fs) : ∃ us ws Gs Hs, vs = us ++ ws ∧ Fs = Gs ++ Hs ∧ Cells w B cs us Gs ∧ Cells w B ds ws Hs := by
  have l1 := h.l1
  have l2 := h.l2
  rw [List.length_append] at l1 l2
  refine ⟨vs.take cs.length, vs.drop cs.length, Fs.take cs.length, Fs.drop cs.length, (List.take_append_drop _ _).symm, (List.take_append_drop _ _).symm, ⟨by rw [List.length_take]; omega, by rw [List.length_take]; omega, fun i d u G hd hu hG => ?_⟩, ⟨by rw [List.length_drop]; omega, by rw [List.length_drop]; omega, fun i d u G hd hu hG => ?_⟩⟩
  · obtain ⟨hi, _⟩ := List.getElem?_eq_some_iff.1 hd
    rw [List.getElem?_take, if_pos hi] at hu hG
    exact h.own i d u G (by rw [List.getElem?_append_left hi]; exact hd) hu hG
  · rw [List.getElem?_drop] at hu hG
    exact h.own (cs.length + i) d u G (by rw [List.getElem?_append_right (by omega), Nat.add_sub_cancel_left]; exact hd) hu hG

theorem cells_alloc {w : World} {B : Nat} {cs : List Dat} {vs : List Value} {Fs : List (List Nat)} (h : Cells w B cs vs Fs) (o : Obj) : Cells (w.alloc o) B cs vs Fs := h.kept fun g hg => Below.heap_alloc w o g (h.lt g hg).2
theorem own_alloc {w : World} {B : Nat} {d : Dat} {v : Value} {F : List Nat} (h : Own w B d v F) (o : Obj) : Own (w.alloc o) B d v F := h.kept fun g hg => Below.heap_alloc w o g (h.lt g hg).2
/-- A new block of cells is a row of the call's own. -/
theorem own_new {w : World} {B : Nat} {e : TypeId} {k n : Nat} {ds : List Dat} {us : List Value} {Gs : List (List Nat)} (hd : Cells w B ds us Gs) (hl : us.length = n * k) (hB : B ≤ w.heap.size) (hn : n ≤ 1000000) :
    Own (w.alloc (.cells us.toArray e)) B (.sl e k n ds) (.slice (some ⟨w.heap.size, 0, none⟩) n n) (w.heap.size :: Gs.flatten) :=
  Own.of_cells (v := .slice (some ⟨w.heap.size, 0, none⟩) n n) ⟨hl, .inr ⟨w.heap.size, n, us.toArray, rfl, hB, heap_alloc_new w _, Nat.le_refl _, by unfold maxLen; omega, by simpa using hl, by simp [List.take_of_length_le, hl]⟩⟩ (cells_alloc hd _)
theorem ones (w : World) (B : Nat) : ∀ us : List Value, Cells w B (us.map .one) us (us.map fun _ => [])
  | [] => Cells.nil w B
  | u :: us => (ones w B us).cons (.one u)
theorem ones_flat (us : List Value) : (us.map fun _ => ([] : List Nat)).flatten = [] := by induction us with
  | nil => rfl
  | cons u us ih => simp
/-- An append of one element that stands in a new block. -/
theorem push_own {P : Program} {w0 w : World} {t ty e : TypeId} {z : Value} {k bytes : Nat} (ht : P.underlying t = some (.slice e)) (hinfo : (P.info? e).map (fun i => (i.zero, i.size, i.bytes)) = some (some z, k, bytes)) (hzs : z.cells.size = k) (hk : 0 < k)
    {n : Nat} {cs : List Dat} {v : Value} {F : List Nat} (ho : Own w w0.heap.size (.sl e k n cs) v F) (hF : F.Nodup) {ds : List Dat} {us : List Value} {Gs : List (List Nat)} (hd : Cells w w0.heap.size ds us Gs)
    (hus : us.length = k) (h1 : ∀ u ∈ us, u.oneCell' = true) (hG : Gs.flatten.Nodup) (hdis : ∀ g ∈ F, g ∉ Gs.flatten) (h63 : n + 1 ≤ 1000000) (hby : bytes ≤ 1000) (hb : Below w0.heap.size w0 w) :
    ∃ v' w' F', (Builtin.append_ #[t, t] ty #[v, .slice (some ⟨w.heap.size, 0, none⟩) 1 1]).run P (w.alloc (.cells us.toArray e)) = .ok v' w' ∧ Own w' w0.heap.size (.sl e k (n + 1) (cs ++ ds)) v' F' ∧ F'.Nodup ∧ (w.alloc (.cells us.toArray e)).grownBy w' v.ownBlock ∧ Below w0.heap.size w0 w' ∧ (∀ g ∈ F', g ∈ F ∨ g ∈ Gs.flatten ∨ w.heap.size < g) := by
  have hB : w0.heap.size ≤ w.heap.size := hb.size
  have hs : (w.alloc (.cells us.toArray e)).heap.size = w.heap.size + 1 := by simp
  obtain ⟨v', w', F', r1, r2, r3, r4, r5⟩ := append_own (P := P) (w := w.alloc (.cells us.toArray e)) (B := w0.heap.size) (t := t) (ty := ty) ht hinfo hzs hk (own_alloc ho _) hF (a := ⟨w.heap.size, 0, none⟩) (m := 1) 1 (cells_alloc hd _) (by rw [hus, Nat.one_mul]) (fun i u hu => by
    rw [add_none, Nat.zero_add, cell_of_row _ w.heap.size i _ e _ (heap_alloc_new w _)]
    simpa using hu) h1 hG hdis h63 hby (by rw [hs]; omega)
  refine ⟨v', w', F', r1, r2, r3, r4, ?_, fun g hg => ?_⟩
  · refine (hb.alloc (o := .cells us.toArray e) hB).grown r4 (by rw [hs]; omega) (fun g hg => ?_)
    have := ho.lt g (by
      obtain ⟨vs, Fs, rfl, _, _⟩ := ho.cells
      exact List.mem_append_left _ (mem_blk.2 hg))
    exact this.1
  · rcases r5 g hg with h | h | h
    · exact .inl h
    · exact .inr (.inl h)
    · exact .inr (.inr (by rw [hs] at h; omega))

/-- Block g is just these cells of element type t, none frozen. -/
def Blk (w : World) (g : Nat) (t : TypeId) (vs : List Value) : Prop := w.heap[g]? = some (.cells vs.toArray t (0, 0))
theorem Blk.cell {w : World} {g : Nat} {t : TypeId} {vs : List Value} (h : Blk w g t vs) {i : Nat} {u : Value} (hi : vs[i]? = some u) : w.cell? ⟨g, i, none⟩ = some u := by
  rw [cell_of_row w g i _ t _ h]; simpa using hi
theorem Blk.frozen {w : World} {g : Nat} {t : TypeId} {vs : List Value} (h : Blk w g t vs) (i : Nat) : w.frozen? ⟨g, i, none⟩ = false := by unfold Blk at h; simp [World.frozen?, h]
theorem Blk.new (w : World) (t : TypeId) (vs : List Value) : Blk (w.alloc (.cells vs.toArray t)) w.heap.size t vs := by unfold Blk; rw [heap_alloc_new]
theorem Blk.lt {w : World} {g : Nat} {t : TypeId} {vs : List Value} (h : Blk w g t vs) : g < w.heap.size := by
  rcases Nat.lt_or_ge g w.heap.size with h' | h'
  · exact h'
  · unfold Blk at h; rw [Array.getElem?_eq_none h'] at h; cases h
theorem Blk.kept {w w' : World} {g : Nat} {t : TypeId} {vs : List Value} (h : Blk w g t vs) (e : w'.heap[g]? = w.heap[g]?) : Blk w' g t vs := e.trans h
theorem Blk.alloc {w : World} {g : Nat} {t : TypeId} {vs : List Value} (h : Blk w g t vs) (o : Obj) : Blk (w.alloc o) g t vs := h.kept (Below.heap_alloc w o g h.lt)
theorem Blk.set_ {w : World} {g : Nat} {t : TypeId} {vs : List Value} (h : Blk w g t vs) (i : Nat) (u : Value) : Blk (w.setCell ⟨g, i, none⟩ u) g t (vs.set i u) := by
  unfold Blk at h ⊢
  simp [World.setCell, Array.getElem?_modify, h]
/-- An append by its run, in a region that draws its order. -/
theorem step_append_run {P : Program} {w : World} {ops : Array Oper} {o : Oper} {a : Act} {K : Act → World → Prop} {Q : Exit → Act → World → Prop} {E : Prop} (hgd : o.guard = none) (d s : Operand) (dT sT : TypeId)
    (ho : o.op = .call { callee := .builtin .append, args := #[d, s], argTypes := #[dT, sT] }) (vd vs : Value) (hd : a.eval d = vd) (hs : a.eval s = vs) (v' : Value) (w' : World)
    (hrun : (Builtin.append_ #[dT, sT] o.type #[vd, vs]).run P w = .ok v' w') (h : K (a.put o.dst v') w') :
    if Region.wanted o (yielded ops a.tmps) = true then Oper.wp P o a w K Q else E := by
  have hw : Region.wanted o (yielded ops a.tmps) = true := by simp [Region.wanted, hgd]
  rw [if_pos hw]
  unfold Oper.wp
  simp [execOp, ho, resolve, invoke, builtin, hd, hs, hrun, Result.andThen]
  exact h
end Go.Proofs.YtndbgdapojkfaaaGreatDoor.Tre
