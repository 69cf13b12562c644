/- Texts in memory: slices of strings. -/
import Derived.Test.YtndbgdapojkfaaaGreatDoorTre
import Derived.Test.YtndbgdapojkfaaaGreatDoorByt
import Derived.BigQuiet
import Derived.Deep.QuietTactic
set_option linter.unusedVariables false
namespace Go.Proofs.YtndbgdapojkfaaaGreatDoor.Txt
open Go.RowKit Go.Deep Go.Proofs.YtndbgdapojkfaaaGreatDoor.Byt Go.Proofs.YtndbgdapojkfaaaGreatDoor.Tre

/-- Texts that are read. -/
def txC (t : ByteArray) : List Dat := [.one (.string t)]
def txD (ts : List ByteArray) : Dat := .sl 9 1 ts.length (ts.flatMap txC)
theorem text_at {w : World} {ts : List ByteArray} {a : Option Addr} {c : Nat} (h : Rd w (txD ts) (.slice a ts.length c)) {i : Nat} (hi : i < ts.length) : ∃ b off, a = some ⟨b, off, none⟩ ∧ w.cell? ⟨b, off + i, none⟩ = some (.string ts[i]) := by
  obtain ⟨_, a', c', hv, hc⟩ := Rd.elems (f := txC) (k := 1) (fun _ => rfl) h (by omega)
  obtain ⟨b, off, rfl, hb, hcell⟩ := hc (by omega)
  obtain ⟨u, hu, hr⟩ := hcell i hi 0 _ rfl
  injection hv with e1 e2 e3
  subst e1
  exact ⟨b, off, rfl, by rw [← hr.val]; simpa using hu⟩
def lists (ts : List ByteArray) : List (List UInt8) := ts.map fun t => t.data.toList
def mks (ls : List (List UInt8)) : List ByteArray := ls.map fun l => ⟨l.toArray⟩
theorem mks_lists (ts : List ByteArray) : mks (lists ts) = ts := by
  unfold mks lists
  rw [List.map_map]
  conv => rhs; rw [← List.map_id ts]
  exact List.map_congr_left fun t _ => mk_list t
theorem mks_len (ls : List (List UInt8)) : (mks ls).length = ls.length := List.length_map ..
theorem lists_len (ts : List ByteArray) : (lists ts).length = ts.length := List.length_map ..
theorem mks_snoc (ls : List (List UInt8)) (l : List UInt8) : mks (ls ++ [l]) = mks ls ++ [⟨l.toArray⟩] := by unfold mks; rw [List.map_append, List.map_singleton]
theorem lists_snoc {ts : List ByteArray} {k : Nat} (h : k < ts.length) : lists (ts.take (k + 1)) = lists (ts.take k) ++ [ts[k].data.toList] := by
  unfold lists
  rw [List.take_succ_eq_append_getElem h, List.map_append, List.map_singleton]
theorem sl_of {w : World} {ts : List ByteArray} {v : Value} (h : Rd w (txD ts) v) : ∃ a c, v = .slice a ts.length c := by
  obtain ⟨a, c, rfl, _⟩ := h.slice
  exact ⟨a, c, rfl⟩
theorem infoS : (Tryz.prog.info? 9).map (fun i => (i.zero, i.size, i.bytes)) = some (some (.string ByteArray.empty), 1, 16) := by kernel_rfl
/-- Rows of a call's own, each block once. -/
structure Ow (w0 w : World) (d : Dat) (v : Value) (F : List Nat) : Prop where
  own : Own w w0.heap.size d v F
  nd : F.Nodup
theorem Ow.nil (w0 w : World) : Ow w0 w (txD []) (.slice none 0 0) [] := ⟨Own.nil _ _ _ _, by simp⟩
theorem Ow.call {w0 w w' : World} {d : Dat} {v : Value} {F : List Nat} (h : Ow w0 w d v F) (hb : Below w.heap.size w w') : Ow w0 w' d v F := ⟨h.own.call hb, h.nd⟩
theorem Ow.sl {w0 w : World} {ts : List ByteArray} {v : Value} {F : List Nat} (h : Ow w0 w (txD ts) v F) : ∃ a c, v = .slice a ts.length c := sl_of h.own.rd
/-- Texts of the call's own: a text more. -/
theorem texts_new {w wr : World} {ts : List ByteArray} {v : Value} {F : List Nat} (ho : Ow w wr (txD ts) v F) (hb : Bl w wr) (t : ByteArray) (hn : ts.length ≤ 100000) :
    ∃ v' w' F', (Builtin.append_ #[44, 44] 44 #[v, .slice (some ⟨wr.heap.size, 0, none⟩) 1 1]).run Tryz.prog (wr.alloc (.cells #[.string t] 9)) = .ok v' w' ∧ Ow w w' (txD (ts ++ [t])) v' F' ∧ Bl w w' ∧ (∀ g ∈ F', g ∈ F ∨ wr.heap.size < g) ∧ (wr.alloc (.cells #[.string t] 9)).grownBy w' v.ownBlock ∧ (∀ g, v.ownBlock = some g → g ∈ F) := by
  obtain ⟨v', w', F', r1, r2, r3, r4, r5, r6⟩ := push_own (P := Tryz.prog) (w0 := w) (w := wr) (t := 44) (ty := 44) Tryz.underlying44 infoS rfl (by omega)
    ho.own ho.nd (ones wr w.heap.size [.string t]) rfl (fun u hu => by
      have : u = .string t := by simpa using hu
      subst this
      rfl) (by simp) (fun g hg hx => by simp at hx) (by omega) (by omega) hb.below
  refine ⟨v', w', F', r1, ⟨?_, r3⟩, ⟨r5, r5.size⟩, fun g hg => ?_, r4, fun g hg => ?_⟩
  · unfold txD
    rw [List.flatMap_append, List.length_append, List.length_singleton]
    exact r2
  · rcases r6 g hg with h | h | h
    · exact .inl h
    · simp at h
    · exact .inr h
  · obtain ⟨vs, Fs, rfl, _, _⟩ := ho.own.cells
    exact List.mem_append_left _ (mem_blk.2 hg)
theorem ones_txC : ∀ ts : List ByteArray, (ts.map Value.string).map Dat.one = ts.flatMap txC
  | [] => rfl
  | t :: ts => by rw [List.map_cons, List.map_cons, List.flatMap_cons, ones_txC ts]; rfl
/-- Texts that are written out, in a new block. -/
theorem texts_lit (w : World) (ts : List ByteArray) (hn : ts.length ≤ 1000000) : Rd (w.alloc (.cells (ts.map Value.string).toArray 9)) (txD ts) (.slice (some ⟨w.heap.size, 0, none⟩) ts.length ts.length) := by
  have := own_new (w := w) (B := w.heap.size) (e := 9) (k := 1) (n := ts.length) (ones w w.heap.size (ts.map Value.string)) (by simp) (Nat.le_refl _) hn
  rw [ones_txC] at this
  exact this.rd
/-- Bytes of a call's own, as plain data. -/
def bC (b : UInt8) : List Dat := [.one (.int .u8 b.toNat)]
def bD (l : List UInt8) : Dat := .sl 5 1 l.length (l.flatMap bC)
theorem Ow.bnil (w0 w : World) : Ow w0 w (bD []) (.slice none 0 0) [] := ⟨Own.nil _ _ _ _, by simp⟩
theorem bC_cells {w : World} {B : Nat} : ∀ {l : List UInt8} {vs : List Value} {Fs : List (List Nat)}, Cells w B (l.flatMap bC) vs Fs → vs = bv l ∧ Fs.flatten = []
  | [], vs, Fs, h => by
    have h1 := h.l1
    have h2 := h.l2
    simp at h1 h2
    subst h1 h2
    exact ⟨rfl, rfl⟩
  | b :: l, vs, Fs, h => by
    have h1 := h.l1
    have h2 := h.l2
    match vs, Fs, h1, h2 with
    | u :: vs, G :: Fs, h1, h2 =>
      have h0 := h.own 0 _ _ _ rfl rfl rfl
      obtain ⟨hu, hG⟩ : u = .int .u8 b.toNat ∧ G = [] := by cases h0; exact ⟨rfl, rfl⟩
      subst hu hG
      have ht : Cells w B (l.flatMap bC) vs Fs := ⟨by simpa [bC] using h1, by simpa [bC] using h2, fun i d u G hd hu hG => h.own (i + 1) d u G (by simpa [bC] using hd) (by simpa using hu) (by simpa using hG)⟩
      obtain ⟨e1, e2⟩ := bC_cells ht
      exact ⟨by rw [e1]; rfl, by simp [e2]⟩
theorem own_bytes {w : World} {B : Nat} {l : List UInt8} {v : Value} {F : List Nat} (h : Own w B (bD l) v F) : OwnB w B v l ∧ F = blk v := by
  obtain ⟨vs, Fs, rfl, hrow, hcs⟩ := h.cells
  obtain ⟨rfl, e⟩ := bC_cells hcs
  exact ⟨hrow, by rw [e, List.append_nil]⟩
/-- Bytes of the call's own: a byte more. -/
theorem bytes_new {w wr : World} {l : List UInt8} {v : Value} {F : List Nat} (ho : Ow w wr (bD l) v F) (hb : Bl w wr) (b : UInt8) {z : Int} (hz : z = b.toNat) (hn : l.length ≤ 100000) :
    ∃ v' w' F', (Builtin.append_ #[76, 76] 76 #[v, .slice (some ⟨wr.heap.size, 0, none⟩) 1 1]).run Tryz.prog (wr.alloc (.cells #[.int .u8 z] 5)) = .ok v' w' ∧ Ow w w' (bD (l ++ [b])) v' F' ∧ Bl w w' ∧ (∀ g ∈ F', g ∈ F ∨ wr.heap.size < g) ∧ (wr.alloc (.cells #[.int .u8 z] 5)).grownBy w' v.ownBlock ∧ (∀ g, v.ownBlock = some g → g ∈ F) := by
  subst hz
  obtain ⟨v', w', F', r1, r2, r3, r4, r5, r6⟩ := push_own (P := Tryz.prog) (w0 := w) (w := wr) (t := 76) (ty := 76) Tryz.underlying76 info5 rfl (by omega)
    ho.own ho.nd (ones wr w.heap.size [.int .u8 b.toNat]) rfl (fun u hu => by
      have : u = .int .u8 b.toNat := by simpa using hu
      subst this
      rfl) (by simp) (fun g hg hx => by simp at hx) (by omega) (by omega) hb.below
  refine ⟨v', w', F', r1, ⟨?_, r3⟩, ⟨r5, r5.size⟩, fun g hg => ?_, r4, fun g hg => ?_⟩
  · unfold bD
    rw [List.flatMap_append, List.length_append, List.length_singleton]
    exact r2
  · rcases r6 g hg with h | h | h
    · exact .inl h
    · simp at h
    · exact .inr h
  · obtain ⟨vs, Fs, rfl, _, _⟩ := ho.own.cells
    exact List.mem_append_left _ (mem_blk.2 hg)
/-- An append of two bytes that stand in a new block. -/
theorem append_two {w wr : World} {v : Value} {l : List UInt8} (h : OwnB wr w.heap.size v l) (hb : Bl w wr) (b c : UInt8) {y z : Int} (hy : y = b.toNat) (hz : z = c.toNat) (hs : l.length + 1 < 140737488355328) :
    ∃ v' w', (Builtin.append_ #[76, 76] 76 #[v, .slice (some ⟨wr.heap.size, 0, none⟩) 2 2]).run Tryz.prog (wr.alloc (.cells #[.int .u8 y, .int .u8 z] 5)) = .ok v' w' ∧ OwnB w' w.heap.size v' (l ++ [b, c]) ∧ Bl w w' := by
  subst hy hz
  obtain ⟨i, hi, hz⟩ := Option.map_eq_some_iff.1 info5
  simp only [Prod.mk.injEq] at hz
  obtain ⟨hz1, hz2, hz3⟩ := hz
  have hB : w.heap.size ≤ (wr.alloc (.cells #[.int .u8 (b.toNat : Int), .int .u8 (c.toNat : Int)] 5)).heap.size := by have := hb.le; simp; omega
  obtain ⟨v', w', h1, h2, h3, -⟩ := run_append_own (P := Tryz.prog) (wr.alloc (.cells #[.int .u8 (b.toNat : Int), .int .u8 (c.toNat : Int)] 5)) w.heap.size 76 76 5 i (.int .u8 0) 1 1 Tryz.underlying76 hi hz1 hz2 hz3 rfl (by omega) v l.length (bv l) (h.alloc _) ⟨wr.heap.size, 0, none⟩ 2 2 (bv [b, c]) (by simp [bv_length])
    (fun j u hu => by
      rw [bv_getElem?] at hu
      obtain ⟨b', hb1, rfl⟩ := Option.map_eq_some_iff.1 hu
      obtain ⟨hj, rfl⟩ := List.getElem?_eq_some_iff.1 hb1
      simp only [List.length_cons, List.length_nil] at hj
      rw [Tre.add_none, Nat.zero_add, cell_of_row _ wr.heap.size j _ 5 _ (heap_alloc_new wr _)]
      match j, hj with
      | 0, _ => rfl
      | 1, _ => rfl) (bv_one [b, c]) (by unfold maxLen; omega) (by omega) hB
  refine ⟨v', w', h1, ?_, ?_⟩
  · unfold OwnB
    rw [List.length_append, bv_append]
    exact h2
  · have := (hb.below.alloc (o := .cells #[.int .u8 (b.toNat : Int), .int .u8 (c.toNat : Int)] 5) hb.le).grown h3 hB (OwnB.base h)
    exact ⟨this, this.size⟩
end Go.Proofs.YtndbgdapojkfaaaGreatDoor.Txt
