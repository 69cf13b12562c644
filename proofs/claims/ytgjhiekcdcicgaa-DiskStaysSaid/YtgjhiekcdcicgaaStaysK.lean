/- What holds in DiskStays from late write to late write. -/
import Derived.Test.YtgjhiekcdcicgaaActs
import Derived.Test.YtgjhiekcdcicgaaInts
import Derived.Test.YtgjhiekcdcicgaaTorn
namespace Go.Proofs.Ytgjhiekcdcicgaa
open Go.RowKit

/-- Bools as cells; small numbers as cells. -/
def OV (O : List Bool) : List Value := O.map .bool
theorem OV_length (O : List Bool) : (OV O).length = O.length := by simp [OV]
theorem OV_nostr (O : List Bool) : ∀ v ∈ OV O, ∀ s, v ≠ .string s := by
  intro v hv s
  obtain ⟨x, _, rfl⟩ := List.mem_map.1 hv
  simp
theorem OV_set (O : List Bool) (i : Nat) (b : Bool) : (OV O).set i (.bool b) = OV (O.set i b) := by simp [OV]
def EV (zs : List Int) : List Value := zs.map (.int .i8)
theorem EV_length (S : List Int) : (EV S).length = S.length := by simp [EV]
theorem RV.i8At {w : World} {a : Option Addr} {n : Nat} {S : List Int} (h : RV w a n 1 (EV S)) {k : Nat} (hk : k < n) :
    ∃ b off z, a = some ⟨b, off, none⟩ ∧ b < w.heap.size ∧ z ∈ S ∧ w.cell? ⟨b, off + k, none⟩ = some (.int .i8 z) := by
  obtain ⟨b, off, e, hb, hc⟩ := h.2 (by omega)
  have hl : k < S.length := by have := h.1; rw [EV_length] at this; omega
  refine ⟨b, off, S[k], e, hb, List.getElem_mem hl, ?_⟩
  rw [hc k (by rw [EV_length]; exact hl)]
  simp [EV]

/-- What holds from late write to late write. -/
structure StayK (w wr : World) (b7 b12 b13 : Nat) (A : Option Addr) (p c : Nat) (B : Option Addr) (m d : Nat) (T : List ByteArray) (V : List Wr) (A0 : Option Addr) (n0 c0 : Nat) (B0 : Option Addr) (m0 d0 : Nat) (O : List Bool) (v : Value) (H : List Int) (k : Nat) : Prop where
  run : Run w wr b7 A p c B m d (-1) T V k
  st0 : St wr b12 A0 n0 c0 B0 m0 d0 (-1)
  dev0 : Dev wr A0 n0 c0 B0 m0 d0 (-1) T []
  arr : Blk wr b13 68 (OV O)
  len : O.length = 16
  row : IRow wr w.heap.size v H
  few : H.length ≤ k
  n1 : b7 ≠ b12
  n2 : b7 ≠ b13
  n3 : b12 ≠ b13
  v1 : v.ownBlock ≠ some b7
  v2 : v.ownBlock ≠ some b12
  v3 : v.ownBlock ≠ some b13
  h13 : w.heap.size ≤ b13
  seen : ∀ x ∈ V, O.getD x.1.toNat false = true
  uniq : (V.map (·.1)).Nodup

section
variable {w wr wx : World} {b7 b12 b13 : Nat} {A : Option Addr} {p c : Nat} {B : Option Addr} {m d : Nat} {T : List ByteArray} {V : List Wr} {A0 : Option Addr} {n0 c0 : Nat} {B0 : Option Addr} {m0 d0 : Nat} {O : List Bool} {v : Value} {H : List Int} {k : Nat}
theorem StayK.skip (h : StayK w wr b7 b12 b13 A p c B m d T V A0 n0 c0 B0 m0 d0 O v H k) : StayK w wr b7 b12 b13 A p c B m d T V A0 n0 c0 B0 m0 d0 O v H (k + 1) :=
  ⟨⟨h.run.bel, h.run.st, h.run.dev, h.run.fine.more (by omega), h.run.new⟩, h.st0, h.dev0, h.arr, h.len, h.row, by have := h.few; omega, h.n1, h.n2, h.n3, h.v1, h.v2, h.v3, h.h13, h.seen, h.uniq⟩
theorem StayK.call (h : StayK w wr b7 b12 b13 A p c B m d T V A0 n0 c0 B0 m0 d0 O v H k) (hb : Below wr.heap.size wr wx) : StayK w wx b7 b12 b13 A p c B m d T V A0 n0 c0 B0 m0 d0 O v H k :=
  ⟨h.run.call hb, h.st0.call hb, h.dev0.below hb, h.arr.call hb, h.len, h.row.call hb, h.few, h.n1, h.n2, h.n3, h.v1, h.v2, h.v3, h.h13, h.seen, h.uniq⟩
theorem getD_set (O : List Bool) (q j : Nat) (h : O.getD j false = true) : (O.set q true).getD j false = true := by
  simp only [List.getD, List.getElem?_set] at h ⊢
  by_cases e : q = j
  · subst e
    rw [if_pos rfl]
    by_cases hq : q < O.length
    · rw [if_pos hq]; rfl
    · rw [if_neg hq, ← List.getElem?_eq_none (by omega : O.length ≤ q)]; exact h
  · rw [if_neg e]; exact h
theorem getD_set_same (O : List Bool) (q : Nat) (hq : q < O.length) : (O.set q true).getD q false = true := by
  simp only [List.getD, List.getElem?_set]
  simp [hq]
/-- A place is marked. -/
theorem StayK.mark (h : StayK w wr b7 b12 b13 A p c B m d T V A0 n0 c0 B0 m0 d0 O v H k) (q : Nat) : StayK w (wr.setCell ⟨b13, q, none⟩ (.bool true)) b7 b12 b13 A p c B m d T V A0 n0 c0 B0 m0 d0 (O.set q true) v H k := by
  have hg := grown_set (World.grownBy.refl wr (some b13)) q (.bool true)
  have hn := NoStr.of_blk h.arr (OV_nostr O)
  have ha := h.arr.set_ q (.bool true)
  rw [OV_set] at ha
  exact ⟨⟨h.run.bel.grown hg h.run.bel.size (by simpa using h.h13), h.run.st.other hg h.n2, h.run.dev.only hn hg, h.run.fine, h.run.new⟩, h.st0.other hg h.n3, h.dev0.only hn hg, ha, by rw [List.length_set]; exact h.len, h.row.other hg h.v3, h.few, h.n1, h.n2, h.n3, h.v1, h.v2, h.v3, h.h13, fun x hx => getD_set O q _ (h.seen x hx), h.uniq⟩
/-- A write is put. -/
theorem StayK.put (h : StayK w wr b7 b12 b13 A p c B m d T V A0 n0 c0 B0 m0 d0 O v H k) (q : Nat) (b : UInt8) (hk : k < 1024) (hq : q < 16) (hs : O.getD q false = true) (hnew : ∀ x ∈ V, x.1 ≠ (q : Int)) {b8 : Nat} {B1 : Option Addr} {p1 d1 : Nat} {B2 : Option Addr} {q1 d2 : Nat}
    (hN : NewD wr wx b8 B1 p1 d1 B2 q1 d2 (-1) T (V ++ [((q : Int), fillS b)])) : StayK w (set3 wx b7 (.slice B1 p1 d1) (.slice B2 q1 d2) (.int .i64 (-1))) b7 b12 b13 B1 p1 d1 B2 q1 d2 T (V ++ [((q : Int), fillS b)]) A0 n0 c0 B0 m0 d0 O v H (k + 1) := by
  have hg := grown_set3 wx b7 (.slice B1 p1 d1) (.slice B2 q1 d2) (.int .i64 (-1))
  have h2 := h.call hN.bel
  have hF : Fine T (V ++ [((q : Int), fillS b)]) (-1) (k + 1) := by
    have := h.run.fine.act hk ⟨q, b, false⟩
    have e : q % 16 = q := Nat.mod_eq_of_lt hq
    simp only [dS, dW, e] at this
    exact this
  refine ⟨h2.run.set hN.dev hF, h2.st0.other hg (fun e => h.n1 e.symm), h2.dev0.only h2.run.st.ns hg, h2.arr.of_block (hg.block b13 h2.arr.lt (by simpa using fun e => h.n2 e.symm)), h.len, h2.row.other hg h.v1, by have := h.few; omega, h.n1, h.n2, h.n3, h.v1, h.v2, h.v3, h.h13, ?_, ?_⟩
  · intro x hx
    rcases List.mem_append.1 hx with hx | hx
    · exact h.seen x hx
    · simp at hx; subst hx; simpa using hs
  · rw [List.map_append, List.nodup_append]
    refine ⟨h.uniq, by simp, ?_⟩
    intro x hx y hy e
    simp at hy
    obtain ⟨z, hz, rfl⟩ := List.mem_map.1 hx
    exact hnew z hz (e.trans hy)
/-- One cut more. -/
theorem StayK.cut (h : StayK w wr b7 b12 b13 A p c B m d T V A0 n0 c0 B0 m0 d0 O v H (k + 1)) (hH : H.length ≤ k) {v' : Value} {w' : World} {x : Int} (hI : IRow w' w.heap.size v' (H ++ [x])) (hg : wr.grownBy w' v.ownBlock) (ho : v'.ownBlock = v.ownBlock ∨ v'.ownBlock = some wr.heap.size) :
    StayK w w' b7 b12 b13 A p c B m d T V A0 n0 c0 B0 m0 d0 O v' (H ++ [x]) (k + 1) := by
  have b1 : w'.heap[b7]? = wr.heap[b7]? := hg.block b7 h.run.st.lt (fun e => h.v1 e.symm)
  have b2 : w'.heap[b12]? = wr.heap[b12]? := hg.block b12 h.st0.lt (fun e => h.v2 e.symm)
  have b3 : w'.heap[b13]? = wr.heap[b13]? := hg.block b13 h.arr.lt (fun e => h.v3 e.symm)
  have hd : ∀ {A : Option Addr} {n c : Nat} {A' : Option Addr} {m c' : Nat} {f : Int} {S : List ByteArray} {W : List Wr}, Dev wr A n c A' m c' f S W → Dev w' A n c A' m c' f S W := by
    intro _ _ _ _ _ _ _ _ _ hD
    cases hav : v.ownBlock with
    | none =>
      rw [hav] at hg
      exact hD.below ⟨hg.os, hg.tape, hg.output, hg.size, fun j hj => hg.block j hj (by simp)⟩
    | some g =>
      rw [hav] at hg
      exact hD.only (h.row.noStr g hav) hg
  have l1 := h.run.st.lt
  have l2 := h.st0.lt
  have l3 := h.arr.lt
  refine ⟨⟨h.run.bel.grown hg h.run.bel.size (fun g hg => (h.row.lt g hg).1), h.run.st.of_block b1, hd h.run.dev, h.run.fine, h.run.new⟩, h.st0.of_block b2, hd h.dev0, h.arr.of_block b3, h.len, hI, by rw [List.length_append]; simp; exact hH, h.n1, h.n2, h.n3, ?_, ?_, ?_, h.h13, h.seen, h.uniq⟩
  · rcases ho with e | e
    · rw [e]; exact h.v1
    · rw [e]; intro e; injection e with e; omega
  · rcases ho with e | e
    · rw [e]; exact h.v2
    · rw [e]; intro e; injection e with e; omega
  · rcases ho with e | e
    · rw [e]; exact h.v3
    · rw [e]; intro e; injection e with e; omega
end

end Go.Proofs.Ytgjhiekcdcicgaa
