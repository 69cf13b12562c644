/-
  Proved: DiskChanges returns true for every device, write and list of cuts, and leaves them as they were. No conditions.
-/
import Derived.Test.YtgjhiekcdcicgaaChangesW
import Derived.Test.YtgjhiekcdcicgaaOpenD
namespace Go.Proofs.Ytgjhiekcdcicgaa.diskChanges
open Go.ChangeShapes Go.WideShapes Go.ChangeAt Go.RowKit
set_option linter.unusedVariables false

theorem walk_changes (A : Option Addr) (n c : Nat) (A' : Option Addr) (m c' : Nat) (f : Int) (S : List ByteArray) (W : List Wr) (p : Int) (s : ByteArray) (q : Option Addr) (len cap : Nat) (zs : List Int) (w : World)
    (hS : RV w A n 1 (SV S)) (hW : RV w A' m 2 (WV W)) (hlo : -9223372036854775808 ≤ f) (hhi : f ≤ 9223372036854775807) (hq : RV w q len 1 (IV zs)) :
    Calls Try.prog 3 #[DV A n c A' m c' f, .agg #[.int .i64 p, .string s], .slice q len cap] w fun e w' => e = .returned (.bool true) ∧ Below w.heap.size w w' := by
  by_cases h1 : (600 : Int) < n
  · exact changes_big1 A n c A' m c' f p s q len cap w (.inl h1)
  by_cases h2 : (1100 : Int) < m
  · exact changes_big1 A n c A' m c' f p s q len cap w (.inr h2)
  by_cases h3 : (1200 : Int) < len
  · exact changes_big2 A n c A' m c' f p s q len cap w (by omega) (by omega) h3
  · exact changes_go A n c A' m c' f S W p s q len cap zs w (by omega) (by omega) (by omega) ⟨hS, hW, hlo, hhi, by have := hS.sec; omega, by have := hW.wr; omega⟩ hq

set_option maxRecDepth 100000 in
theorem lifted (os : Os) (started : os.Started) (H : Type) (enc : TypeId × Value → H) :
    ReturnsInHanded {} Try.checked os 3 .any (Rows.diskChangesSpec.pre6 enc Try.prog Try.f3 Rows.diskChangesRow.domain false) (Rows.diskChangesSpec.post enc Try.prog Try.f3 false true false false) := by
  refine returnsInHanded_of_change (C := Try.checked) own started (by kernel_rfl) Try.func3
    (ChangeSpec.witness6 (enc := enc) (C := Try.checked) false ⟨#[], #[DV none 0 0 none 0 0 0, .agg #[.int .i64 0, .string ByteArray.empty], .slice none 0 0], []⟩ 8 (by kernel_rfl) (by kernel_rfl) (by kernel_rfl) (by kernel_rfl)) ?_
  intro W base args ds gs before hval0 hW hcnd _
  have hval : ∀ (j : Nat) t v, Try.f3.params[j]? = some t → args[j]? = some v → Value.okWide Try.prog W .any base t v := hval0
  have hW' := hW
  obtain ⟨p, q, hA0, hV, rfl, hfz, hnd⟩ := hW
  have hA : DataW.TrodAll enc Try.prog W 0 (fun _ => true) true Try.f3.params.toList args.toList ds p := hA0
  rw [Try.params3] at hA hval
  obtain ⟨v0, vs0, d0, ds0, p0, q0, hargs, rfl, rfl, h0, r0⟩ := trodAll_cons hA
  obtain ⟨v1, vs1, d1, ds1, p1, q1, rfl, rfl, rfl, h1, r1⟩ := trodAll_cons r0
  obtain ⟨v2, vs2, d2, ds2, p2, q2, rfl, rfl, rfl, h2, r2⟩ := trodAll_cons r1
  obtain ⟨rfl, rfl, rfl⟩ := trodAll_nil r2
  obtain rfl : args = #[v0, v1, v2] := by cases args; simp_all
  obtain ⟨rfl, rfl⟩ := trodVars_none hV
  have k0 := h0
  have lt0 : ∀ x ∈ p0, x.block < W.heap.size := by obtain ⟨m, hm⟩ := k0; exact DataW.trod_lt m _ _ _ hm
  have k1 := h1
  have lt1 : ∀ x ∈ p1, x.block < W.heap.size := by obtain ⟨m, hm⟩ := k1; exact DataW.trod_lt m _ _ _ hm
  have k2 := h2
  have lt2 : ∀ x ∈ p2, x.block < W.heap.size := by obtain ⟨m, hm⟩ := k2; exact DataW.trod_lt m _ _ _ hm
  obtain ⟨A, n, c, A', m, c', f, S, X, rfl, hS, hX, hlo, hhi⟩ := open_state (hval 0 25 v0 rfl rfl) h0
  obtain ⟨z, s, rfl⟩ := open_write (hval 1 27 v1 rfl rfl) h1
  obtain ⟨a2, len2, cap2, zs2, rfl, rv2⟩ := open_cuts (hval 2 28 v2 rfl rfl) h2
  clear hA0 hval0
  refine (walk_changes A n c A' m c' f S X z s a2 len2 cap2 zs2 W hS hX hlo hhi rv2).mono fun e W' ⟨he, bel⟩ => ?_
  subst he
  exact ⟨_, rfl, _, _, _, [], _, [], hW', trodAll_mk1 (shut_bool Try.underlying4 _), (trodAll_cons_mk (Below.trod laidOut (by kernel_rfl) (of_decide_eq_true (by kernel_rfl)) k0 bel lt0) (trodAll_cons_mk (Below.trod laidOut (by kernel_rfl) (of_decide_eq_true (by kernel_rfl)) k1 bel lt1) (trodAll_cons_mk (Below.trod laidOut (by kernel_rfl) (of_decide_eq_true (by kernel_rfl)) k2 bel lt2) trodAll_mk0))), rfl, bel.frame _, fun h => by cases h⟩

theorem over : Rows.diskChangesRow.holds Try.pinned (OpenSpec.ofChange Rows.diskChangesSpec) :=
  OpenClaim.holds_of_wide 3 Try.f3 rfl rfl rfl rfl rfl rfl rfl ⟨rfl, rfl, rfl, rfl, rfl⟩ rfl rfl rfl rfl rfl (by kernel_rfl) Try.func3 (by kernel_rfl)
    (of_decide_eq_true (by kernel_rfl)) (by unfold Func.isWrapper; first | (rw [if_pos (by decide +kernel)]; kernel_rfl) | (rw [if_neg (by decide +kernel)]; exact ⟨rfl, rfl⟩))
    (fun os started H enc _ => lifted os started H enc)

/-- The given statement. -/
theorem proved : Rows.DiskChangesSaid := over
#print axioms proved
end Go.Proofs.Ytgjhiekcdcicgaa.diskChanges
