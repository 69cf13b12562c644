/- A strings.Builder of a call's own. -/
import Derived.Test.YtndbgdapojkfaaaGreatDoorShelf
import Derived.Test.YtndbgdapojkfaaaGreatDoorByt
import Derived.Lib.Builder
set_option linter.unusedVariables false
namespace Go.Proofs.YtndbgdapojkfaaaGreatDoor.Bld
open Go.RowKit Go.Proofs.YtndbgdapojkfaaaGreatDoor.Byt

theorem isB_below {T e : TypeId} {B b : Nat} {bs : List Value} {w w' : World} (h : Lib.IsBuilder T e B b bs w) (hb : Below w.heap.size w w') : Lib.IsBuilder T e B b bs w' := by
  have go : ∀ p, Lib.BuilderAt T e B b p bs w → Lib.BuilderAt T e B b p bs w' := by
    intro p h
    have hl := h.lt
    obtain ⟨hB, v, hh, hown, hne⟩ := h
    exact ⟨hB, v, (hb.block b hl).trans hh, hown.kept (row := none) ⟨hb.os, hb.tape, hb.output, hb.size, fun j hj _ => hb.block j hj⟩ (by cases hv : v.ownBlock <;> simp), hne⟩
  exact h.imp (go _) (go _)
/-- The call's builder, its first new block, holds these bytes; what lay there stays. -/
structure Bu (w wr : World) (l : List UInt8) : Prop where
  bel : Below w.heap.size w wr
  bld : Lib.IsBuilder 78 5 w.heap.size w.heap.size (Lib.byteCells l) wr
theorem Bu.call {w wr w' : World} {l : List UInt8} (h : Bu w wr l) (hb : Below wr.heap.size wr w') : Bu w w' l := ⟨((Bl.mk h.bel h.bel.size).call hb).below, isB_below h.bld hb⟩
theorem Bu.start (w : World) : Bu w (w.alloc (.cells #[.pointer none, .slice none 0 0] 78)) [] := ⟨new1 _ _, Lib.fresh_isBuilder _ _ _⟩
theorem Bu.drew {w wr : World} {l : List UInt8} (h : Bu w wr l) : Bu w wr.drew l := h.call (Below.refl _ _).drew
/-- Its own block is there. -/
theorem Bu.lt {w wr : World} {l : List UInt8} (h : Bu w wr l) : w.heap.size < wr.heap.size := h.bld.elim (fun h => h.lt) (fun h => h.lt)
theorem write_any (w wr : World) (l : List UInt8) (s : ByteArray) (h : Bu w wr l) (hl : l.length + s.size ≤ 140737488355328) :
    Calls Tryz.prog 36 #[.pointer (some ⟨w.heap.size, 0, none⟩), .string s] wr fun r w' => r = .returned (.tuple #[.int .i64 s.size, .nilIface]) ∧ Bu w w' (l ++ s.data.toList) := by
  refine (shWrite w.heap.size w.heap.size _ s wr h.bld (by rw [Lib.byteCells_length]; exact hl) h.bel.size).mono ?_
  rintro r w' ⟨rfl, hb, hw⟩
  rw [Lib.strCells_eq, ← Lib.byteCells_append] at hb
  exact ⟨rfl, h.bel.trans hw, .inr hb⟩
theorem byte_any (w wr : World) (l : List UInt8) (c : UInt8) {z : Int} (hz : z = c.toNat) (h : Bu w wr l) (hl : l.length + 1 ≤ 140737488355328) :
    Calls Tryz.prog 74 #[.pointer (some ⟨w.heap.size, 0, none⟩), .int .u8 z] wr fun r w' => r = .returned .nilIface ∧ Bu w w' (l ++ [c]) := by
  subst hz
  refine (shByte w.heap.size w.heap.size _ c.toNat wr h.bld (by rw [Lib.byteCells_length]; exact hl) h.bel.size).mono ?_
  rintro r w' ⟨rfl, hb, hw⟩
  have e : Lib.byteCells l ++ [.int .u8 (c.toNat : Int)] = Lib.byteCells (l ++ [c]) := by rw [Lib.byteCells_append]; rfl
  rw [e] at hb
  exact ⟨rfl, h.bel.trans hw, .inr hb⟩
theorem string_any (w wr : World) (l : List UInt8) (h : Bu w wr l) : Calls Tryz.prog 38 #[.pointer (some ⟨w.heap.size, 0, none⟩)] wr fun r w' => r = .returned (.string ⟨l.toArray⟩) ∧ Below w.heap.size w w' := by
  refine (shString w.heap.size w.heap.size l wr h.bld h.bel.size).mono ?_
  rintro r w' ⟨rfl, hb⟩
  exact ⟨rfl, h.bel.trans hb⟩
end Go.Proofs.YtndbgdapojkfaaaGreatDoor.Bld
