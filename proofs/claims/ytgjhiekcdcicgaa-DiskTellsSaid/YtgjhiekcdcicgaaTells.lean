/-
  Proved: DiskTells returns true for every two devices and every number, and leaves them as they were. No conditions.
-/
import Derived.Test.YtgjhiekcdcicgaaTellsW
import Derived.Test.YtgjhiekcdcicgaaOpenT
namespace Go.Proofs.Ytgjhiekcdcicgaa.diskTells
open Go.ChangeShapes Go.WideShapes Go.ChangeAt Go.RowKit
set_option linter.unusedVariables false

theorem walk_tells (A : Option Addr) (n c : Nat) (A' : Option Addr) (m c' : Nat) (f : Int) (S : List ByteArray) (W : List Wr) (B : Option Addr) (p d : Nat) (B' : Option Addr) (q d' : Nat) (g : Int) (T : List ByteArray) (V : List Wr) (z : Int) (w : World)
    (hS : RV w A n 1 (SV S) ∧ RV w A' m 2 (WV W) ∧ -9223372036854775808 ≤ f ∧ f ≤ 9223372036854775807) (hT : RV w B p 1 (SV T) ∧ RV w B' q 2 (WV V) ∧ -9223372036854775808 ≤ g ∧ g ≤ 9223372036854775807) :
    Calls Try.prog 4 #[.agg #[.slice A n c, .slice A' m c', .int .i64 f, .slice B p d, .slice B' q d', .int .i64 g], .int .i64 z] w fun e w' => e = .returned (.bool true) ∧ Below w.heap.size w w' := by
  by_cases h1 : (600 : Int) < n
  · exact tells_big1 A n c A' m c' f B p d B' q d' g z w (.inl h1)
  by_cases h2 : (1100 : Int) < m
  · exact tells_big1 A n c A' m c' f B p d B' q d' g z w (.inr h2)
  by_cases h3 : (600 : Int) < p
  · exact tells_big2 A n c A' m c' f B p d B' q d' g z w (by omega) (by omega) (.inl h3)
  by_cases h4 : (1100 : Int) < q
  · exact tells_big2 A n c A' m c' f B p d B' q d' g z w (by omega) (by omega) (.inr h4)
  · exact tells_go A n c A' m c' f S W B p d B' q d' g T V z w (by omega) (by omega) (by omega) (by omega) ⟨hS.1, hS.2.1, hS.2.2.1, hS.2.2.2, by have := hS.1.sec; omega, by have := hS.2.1.wr; omega⟩ ⟨hT.1, hT.2.1, hT.2.2.1, hT.2.2.2, by have := hT.1.sec; omega, by have := hT.2.1.wr; omega⟩

set_option maxRecDepth 100000 in
theorem lifted (os : Os) (started : os.Started) (H : Type) (enc : TypeId × Value → H) :
    ReturnsInHanded {} Try.checked os 4 .any (Rows.diskTellsSpec.pre6 enc Try.prog Try.f4 Rows.diskTellsRow.domain false) (Rows.diskTellsSpec.post enc Try.prog Try.f4 false true false false) := by
  refine returnsInHanded_of_change (C := Try.checked) own started (by kernel_rfl) Try.func4
    (ChangeSpec.witness6 (enc := enc) (C := Try.checked) false ⟨#[], #[.agg #[.slice none 0 0, .slice none 0 0, .int .i64 0, .slice none 0 0, .slice none 0 0, .int .i64 0], .int .i64 0], []⟩ 8 (by kernel_rfl) (by kernel_rfl) (by kernel_rfl) (by kernel_rfl)) ?_
  intro W base args ds gs before hval0 hW hcnd _
  have hval : ∀ (j : Nat) t v, Try.f4.params[j]? = some t → args[j]? = some v → Value.okWide Try.prog W .any base t v := hval0
  have hW' := hW
  obtain ⟨p, q, hA0, hV, rfl, hfz, hnd⟩ := hW
  have hA : DataW.TrodAll enc Try.prog W 0 (fun _ => true) true Try.f4.params.toList args.toList ds p := hA0
  rw [Try.params4] at hA hval
  obtain ⟨v0, vs0, d0, ds0, p0, q0, hargs, rfl, rfl, h0, r0⟩ := trodAll_cons hA
  obtain ⟨v1, vs1, d1, ds1, p1, q1, rfl, rfl, rfl, h1, r1⟩ := trodAll_cons r0
  obtain ⟨rfl, rfl, rfl⟩ := trodAll_nil r1
  obtain rfl : args = #[v0, v1] := by cases args; simp_all
  obtain ⟨rfl, rfl⟩ := trodVars_none hV
  have k0 := h0
  have lt0 : ∀ x ∈ p0, x.block < W.heap.size := by obtain ⟨m, hm⟩ := k0; exact DataW.trod_lt m _ _ _ hm
  have k1 := h1
  have lt1 : ∀ x ∈ p1, x.block < W.heap.size := by obtain ⟨m, hm⟩ := k1; exact DataW.trod_lt m _ _ _ hm
  obtain ⟨A, n, c, A', m, c', f, S, X, B, k, e, B', q, e', g, T, V, rfl, hS, hT⟩ := open_pair (hval 0 49 v0 rfl rfl) h0
  obtain ⟨z, rfl⟩ := okWide_int Try.underlying3 (hval 1 3 v1 rfl rfl)
  clear hA0 hval0
  refine (walk_tells A n c A' m c' f S X B k e B' q e' g T V z W hS hT).mono fun e W' ⟨he, bel⟩ => ?_
  subst he
  exact ⟨_, rfl, _, _, _, [], _, [], hW', trodAll_mk1 (shut_bool Try.underlying4 _), (trodAll_cons_mk (Below.trod laidOut (by kernel_rfl) (of_decide_eq_true (by kernel_rfl)) k0 bel lt0) (trodAll_cons_mk (Below.trod laidOut (by kernel_rfl) (of_decide_eq_true (by kernel_rfl)) k1 bel lt1) trodAll_mk0)), rfl, bel.frame _, fun h => by cases h⟩

theorem over : Rows.diskTellsRow.holds Try.pinned (OpenSpec.ofChange Rows.diskTellsSpec) :=
  OpenClaim.holds_of_wide 4 Try.f4 rfl rfl rfl rfl rfl rfl rfl ⟨rfl, rfl, rfl, rfl, rfl⟩ rfl rfl rfl rfl rfl (by kernel_rfl) Try.func4 (by kernel_rfl)
    (of_decide_eq_true (by kernel_rfl)) (by unfold Func.isWrapper; first | (rw [if_pos (by decide +kernel)]; kernel_rfl) | (rw [if_neg (by decide +kernel)]; exact ⟨rfl, rfl⟩))
    (fun os started H enc _ => lifted os started H enc)

/-- The given statement. -/
theorem proved : Rows.DiskTellsSaid := over
#print axioms proved
end Go.Proofs.Ytgjhiekcdcicgaa.diskTells
