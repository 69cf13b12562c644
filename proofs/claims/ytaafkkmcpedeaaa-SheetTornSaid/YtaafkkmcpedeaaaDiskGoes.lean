/- Contracts of goesInto and of the function that it answers. -/
import Derived.Test.YtaafkkmcpedeaaaDiskPut
import Derived.RegionTactic
import Derived.ChangeAlike
namespace Go.Proofs.Ytaafkkmcpedeaaa.Dsk
open Go.RowKit

/-- The function that keeps the sectors in the cell of block b. -/
abbrev FV (b : Nat) : Value := .func (.func 48) #[] #[.pointer (some ⟨b, 0, none⟩)]

theorem goes_any (A : Option Addr) (n c : Nat) (w : World) :
    Calls Try.prog 34 #[.slice A n c] w fun e w' => e = .returned (FV w.heap.size) ∧ w' = w.alloc (.cells #[.slice A n c] 39) := by
  go_enter Try.func34, Try.ntmps34
  go_wp2
  go_ret
  exact ⟨rfl, rfl⟩

theorem let_raw (bx g n cap : Nat) (p k : Nat) (s t : ByteArray) (w : World) (hbx : w.cell? ⟨bx, 0, none⟩ = some (.slice (some ⟨g, 0, none⟩) n cap))
    (hc : w.cell? ⟨g, p, none⟩ = some (.string t)) (hf : w.frozen? ⟨g, p, none⟩ = false) (hbl : bx < w.heap.size) (hg : g < w.heap.size) (hp : p < n) (hs : s.size = 64) (ht : t.size = 64) (hk : k ≤ 64) :
    Calls Try.prog 48 #[.agg #[.int .i64 p, .string s], .int .i64 k, .pointer (some ⟨bx, 0, none⟩)] w fun e w' => e = .returned (.tuple #[]) ∧
      w' = ((w.setCell ⟨g, p, none⟩ (.string (s.extract 0 k ++ t.extract k t.size))).alloc (.cells #[.int .i64 p, .string s] 65)).drew := by
  have i1 : (p : Int) < (n : Int) := by omega
  have i2 : (k : Int) ≤ 64 := by omega
  have HS := Lib.hid hs
  have HT := Lib.hid ht
  have j1 : (k : Int) ≤ (s.size : Int) := by omega
  have j2 : (k : Int) ≤ (t.size : Int) := by omega
  have hlim : ¬ 9223372036854775807 < min k s.size + (t.size - k) := by omega
  clear hs ht hk
  go_enter Try.func48, Try.ntmps48
  go_wp2
  go_region
  all_goals (go_end0; exact ⟨rfl, rfl⟩)
theorem sv_set (S : List ByteArray) (p : Nat) (x : ByteArray) : (SV S).set p (.string x) = SV (S.set p x) := by simp [SV]

/-- A write goes into a row of sectors of the call's own; all other blocks stay. -/
theorem let_any (bx g n cap base : Nat) (S : List ByteArray) (p k : Nat) (s : ByteArray) (w : World) (hbx : w.cell? ⟨bx, 0, none⟩ = some (.slice (some ⟨g, 0, none⟩) n cap))
    (hown : w.ownsRow base 9 1 (.slice (some ⟨g, 0, none⟩) n cap) n (SV S)) (hp : p < n) (hs : s.size = 64) (hS : secOk S = true) (hk : k ≤ 64) :
    Calls Try.prog 48 #[.agg #[.int .i64 p, .string s], .int .i64 k, .pointer (some ⟨bx, 0, none⟩)] w fun e w' => e = .returned (.tuple #[]) ∧
      w'.ownsRow base 9 1 (.slice (some ⟨g, 0, none⟩) n cap) n (SV (goOne S ((p : Int), s) k)) ∧ w.grownBy w' (some g) := by
  have hl : S.length = n := (RV.of_own hown).sec
  have hpl : p < S.length := by omega
  have ht : (S[p]).size = 64 := (secOk_iff S).1 hS _ (List.getElem_mem hpl)
  have hc : w.cell? ⟨g, p, none⟩ = some (.string S[p]) := by
    rw [hown.cellAt p (by omega)]; simp [SV, hpl]
  refine (let_raw bx g n cap p k s S[p] w hbx hc (hown.frozenAt p) (cell_lt hbx) (cell_lt hc) hp hs ht hk).mono ?_
  rintro e w' ⟨rfl, rfl⟩
  obtain ⟨h1, h2⟩ := hown.stored p (.string (s.extract 0 k ++ (S[p]).extract k (S[p]).size))
  have e1 : goOne S ((p : Int), s) k = S.set p (s.extract 0 k ++ (S[p]).extract k (S[p]).size) := by
    unfold goOne
    simp only [Int.toNat_natCast]
    rw [secAt_eq hpl]
  rw [sv_set, ← e1] at h1
  have h3 := h1.alloc (.cells #[.int .i64 p, .string s] 65)
  have h4 := h2.trans (World.grownBy_alloc _ (.cells #[.int .i64 p, .string s] 65) (some g))
  exact ⟨rfl, h3, ⟨h4.os, h4.tape, h4.output, h4.size, h4.block⟩⟩

end Go.Proofs.Ytaafkkmcpedeaaa.Dsk
