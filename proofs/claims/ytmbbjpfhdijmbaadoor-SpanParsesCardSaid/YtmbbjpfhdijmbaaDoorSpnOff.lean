/- Contract of ParseOffset. -/
import Derived.Test.YtmbbjpfhdijmbaaDoorSpnPri
import Derived.Lib.IndexBytes
import Derived.Laws.DeepStrings4
namespace Go.Proofs.YtmbbjpfhdijmbaaDoor.Spn
open Go.RowKit
set_option linter.unusedVariables false

theorem sgR_of {l : List UInt8} (h : l.head? = some 45 ∨ l.head? = some 43) : sgR l = l.tail := if_pos h
theorem of_prog {l : List UInt8} : ofF l = true ↔ (sgR l).length ≠ l.length ∧ cnt (sgR l) = (sgR l).length ∧ (cnt (sgR l) = 4 ∨ cnt (sgR l) = 6) := by
  rw [ofF_iff]
  by_cases hs : l.head? = some 45 ∨ l.head? = some 43
  · rw [sgR_of hs, List.length_tail]
    have hp : 0 < l.length := by cases l <;> simp at *
    constructor
    · rintro ⟨h1, -, h3⟩
      have := cnt_full.2 h3
      rw [List.length_tail] at this
      omega
    · rintro ⟨h1, h2, h3⟩
      have h4 : cnt l.tail = l.tail.length := by rw [List.length_tail]; exact h2
      exact ⟨by omega, hs, cnt_full.1 h4⟩
  · have e : sgR l = l := if_neg hs
    rw [e]
    constructor
    · rintro ⟨-, h2, -⟩; exact absurd h2 hs
    · rintro ⟨h1, -, -⟩; exact absurd rfl h1
theorem ext_mid (s : ByteArray) (a b : Nat) : s.extract a b = ⟨((s.data.toList.drop a).take (b - a)).toArray⟩ := Lib.extract_eq s a b
theorem of_parts {l : List UInt8} (h : ofF l = true) : sgR l = l.tail ∧ ofH l = dv (l.tail.take 2) ∧ ofM l = dv ((l.tail.drop 2).take 2) ∧ allD l.tail = true ∧ (l.length = 5 → ofS l = 0) ∧ (l.length = 7 → ofS l = dv (l.tail.drop 4)) := by
  obtain ⟨h1, h2, h3⟩ := ofF_iff.1 h
  have e : ∀ k, (l.drop (k + 1)) = l.tail.drop k := fun k => by cases l <;> simp
  refine ⟨sgR_of h2, by unfold ofH; rw [e 0, List.drop_zero], by unfold ofM; rw [e 2], h3, fun h5 => by unfold ofS; rw [if_neg (by omega)], fun h7 => ?_⟩
  unfold ofS
  rw [if_pos h7, e 4, List.take_of_length_le]
  rw [List.length_drop, List.length_tail]
  omega
theorem sg_of {l : List UInt8} : (sgV l = 1 ∧ ¬ l.head? = some 45) ∨ (sgV l = -1 ∧ l.head? = some 45) := by
  unfold sgV
  by_cases h : l.head? = some 45
  · rw [if_pos h]; exact Or.inr ⟨rfl, h⟩
  · rw [if_neg h]; exact Or.inl ⟨rfl, h⟩
theorem ofR_cases {l : List UInt8} : (ofR l = true ∧ (23 < ofH l ∨ (ofH l ≤ 23 ∧ 59 < ofM l) ∨ (ofH l ≤ 23 ∧ ofM l ≤ 59 ∧ 59 < ofS l) ∨ (ofH l ≤ 23 ∧ ofM l ≤ 59 ∧ ofS l ≤ 59 ∧ sgV l = -1 ∧ ofH l * 3600 + ofM l * 60 + ofS l = 0))) ∨ (ofR l = false ∧ ofH l ≤ 23 ∧ ofM l ≤ 59 ∧ ofS l ≤ 59 ∧ (sgV l = 1 ∨ (sgV l = -1 ∧ ofH l * 3600 + ofM l * 60 + ofS l ≠ 0))) := by
  have e : ofR l = true ↔ 23 < ofH l ∨ 59 < ofM l ∨ 59 < ofS l ∨ (sgV l = -1 ∧ ofN l = 0) := by
    unfold ofR
    rcases sg_of (l := l) with ⟨h1, h2⟩ | ⟨h1, h2⟩ <;> simp [h1, h2, or_assoc]
  unfold ofN at e
  have h1 := sgV_in l
  rcases hr : ofR l with _ | _
  · rw [hr] at e
    right
    simp at e
    obtain ⟨a, b, c, d⟩ := e
    refine ⟨rfl, a, b, c, ?_⟩
    rcases h1 with h1 | h1
    · exact Or.inl h1
    · exact Or.inr ⟨h1, d h1⟩
  · rw [hr] at e
    left
    have := e.1 rfl
    refine ⟨rfl, ?_⟩
    omega

theorem slice24 (d : ByteArray) (h : 4 ≤ d.size) : ∀ W, (Instr.slice 9 (.string d) (some (.int .i64 2)) (some (.int .i64 4)) none).run Tryd.prog W = .ok (.string (d.extract 2 4)) W := fun W => by
  rw [run_slice_string_if W 9 d .i64 .i64 2 4 Tryd.underlying9, if_pos (by omega)]
  rfl

theorem poffset_form (l : List UInt8) (hs : l.length ≤ 100) (hf : ofF l = false) (w : World) :
    Calls Tryd.prog 10 #[.string ⟨l.toArray⟩] w fun r w' => r = .returned (.tuple #[.int .i64 0, .int .i64 4]) ∧ w = w' := by
  have HG := Lib.hid (fun W => cutsign_l l W)
  have HC := Lib.hid (fun W => count_any ⟨(sgR l).toArray⟩ (by rw [size_mk]; have := sgR_len l; omega) W)
  rw [data_mk] at HC
  have hn : ¬ ((sgR l).length ≠ l.length ∧ cnt (sgR l) = (sgR l).length ∧ (cnt (sgR l) = 4 ∨ cnt (sgR l) = 6)) := fun h => by have := of_prog.2 h; rw [hf] at this; cases this
  have z1 := size_mk l
  have z2 := size_mk (sgR l)
  have hz : (sgR l).length ≤ 100 := by have := sgR_len l; omega
  rw [← z1, ← z2] at hn
  rw [← z2] at hz
  rw [← z1] at hs
  clear z1 z2
  generalize cnt (sgR l) = k at *
  generalize sgV l = g at *
  generalize ByteArray.mk (sgR l).toArray = d at *
  generalize ByteArray.mk l.toArray = s at *
  by_cases c1 : d.size = s.size
  · have t1 : ((d.size : Int) == s.size) = true := by simp [c1]
    clear hn c1
    go_enter Tryd.func10, Tryd.ntmps10
    go_wp2_with (first
      | (go_at_call 18; with_reducible refine (HG.out _).mono ?_; rintro e w0 ⟨rfl, rfl⟩)
      | (go_at_call 23; with_reducible refine (HC.out _).mono ?_; rintro e w0 ⟨rfl, rfl⟩))
    go_ret2
    exact ⟨rfl, rfl⟩
  · have t1 : ((d.size : Int) == s.size) = false := by simp; omega
    by_cases c2 : k = d.size
    · have t2 : ((k : Int) != d.size) = false := by simp [c2]
      have t3 : ((k : Int) != 4) = true := by simp; omega
      have t4 : ((k : Int) != 6) = true := by simp; omega
      clear hn c1 c2
      go_enter Tryd.func10, Tryd.ntmps10
      go_wp2_with (first
        | (go_at_call 18; with_reducible refine (HG.out _).mono ?_; rintro e w0 ⟨rfl, rfl⟩)
        | (go_at_call 23; with_reducible refine (HC.out _).mono ?_; rintro e w0 ⟨rfl, rfl⟩))
      go_ret2
      exact ⟨rfl, rfl⟩
    · have t2 : ((k : Int) != d.size) = true := by simp; omega
      clear hn c1 c2
      go_enter Tryd.func10, Tryd.ntmps10
      go_wp2_with (first
        | (go_at_call 18; with_reducible refine (HG.out _).mono ?_; rintro e w0 ⟨rfl, rfl⟩)
        | (go_at_call 23; with_reducible refine (HC.out _).mono ?_; rintro e w0 ⟨rfl, rfl⟩))
      go_ret2
      exact ⟨rfl, rfl⟩
theorem poffset_4a (s d : ByteArray) (g x y z : Int) (hd : d.size = 4) (hs : d.size ≠ s.size) (hz : s.size ≤ 100)
    (x0 : 0 ≤ x) (x9 : x ≤ 99) (y0 : 0 ≤ y) (y9 : y ≤ 99) (z0 : 0 ≤ z) (z9 : z ≤ 99) (hz0 : z = 0) (c1 : 23 < x)
    (HG : Hid (∀ W, Calls Tryd.prog 18 #[.string s] W fun r w' => r = .returned (.tuple #[.int .i64 (g), .string d]) ∧ W = w'))
    (HC : Hid (∀ W, Calls Tryd.prog 23 #[.string d] W fun r w' => r = .returned (.int .i64 4) ∧ W = w'))
    (HH : Hid (∀ W, Calls Tryd.prog 24 #[.string (d.extract 0 2)] W fun r w' => r = .returned (.int .i64 x) ∧ Below W.heap.size W w'))
    (HM : Hid (∀ W, Calls Tryd.prog 24 #[.string (d.extract 2 4)] W fun r w' => r = .returned (.int .i64 y) ∧ Below W.heap.size W w'))
    (w : World) : Calls Tryd.prog 10 #[.string s] w fun r w' => r = .returned (.tuple #[.int .i64 (0), .int .i64 (8)]) ∧ Below w.heap.size w w' := by
  have t1 : ((4 : Int) == s.size) = false := by simp; omega
  have d0 : (d.size : Int) = 4 := by omega
  have hsl := slice24 d (by omega)
  have HD := Lib.hid hd
  clear hs hd
  go_enter Tryd.func10, Tryd.ntmps10
  go_wp2_with (first
    | (go_at_call 18; with_reducible refine (HG.out _).mono ?_; rintro e w0 ⟨rfl, rfl⟩)
    | (go_at_call 23; with_reducible refine (HC.out _).mono ?_; rintro e w0 ⟨rfl, rfl⟩))
  refine wp_region_class (Bl w) ((Bl.refl w).call (Joins.below_draws _ _ 1)) (by kernel_rfl) (by kernel_rfl) ?_
  intro hne
  go_big_quiet_step (fail)
  go_big_quiet_step (fail)
  go_big_quiet_step (exact wd_call Bl.keep (HH.out _))
  go_big_quiet_step (fail)
  go_big_quiet_step (fail)
  go_big_quiet_step (exact wd_call Bl.keep (HM.out _))
  go_big_quiet_step (fail)
  go_big_quiet_step (fail)
  go_big_quiet_step (fail)
  refine wpQuiet_nil ?_
  rintro _ ⟨z, rfl⟩
  have HB := Lib.hid z.ok
  go_wp2_with fail
  go_ret2
  exact ⟨by first | rfl | simp, HB.out.below⟩

theorem poffset_4b (s d : ByteArray) (g x y z : Int) (hd : d.size = 4) (hs : d.size ≠ s.size) (hz : s.size ≤ 100)
    (x0 : 0 ≤ x) (x9 : x ≤ 99) (y0 : 0 ≤ y) (y9 : y ≤ 99) (z0 : 0 ≤ z) (z9 : z ≤ 99) (hz0 : z = 0) (c1 : x ≤ 23) (c2 : 59 < y)
    (HG : Hid (∀ W, Calls Tryd.prog 18 #[.string s] W fun r w' => r = .returned (.tuple #[.int .i64 (g), .string d]) ∧ W = w'))
    (HC : Hid (∀ W, Calls Tryd.prog 23 #[.string d] W fun r w' => r = .returned (.int .i64 4) ∧ W = w'))
    (HH : Hid (∀ W, Calls Tryd.prog 24 #[.string (d.extract 0 2)] W fun r w' => r = .returned (.int .i64 x) ∧ Below W.heap.size W w'))
    (HM : Hid (∀ W, Calls Tryd.prog 24 #[.string (d.extract 2 4)] W fun r w' => r = .returned (.int .i64 y) ∧ Below W.heap.size W w'))
    (w : World) : Calls Tryd.prog 10 #[.string s] w fun r w' => r = .returned (.tuple #[.int .i64 (0), .int .i64 (8)]) ∧ Below w.heap.size w w' := by
  have t1 : ((4 : Int) == s.size) = false := by simp; omega
  have d0 : (d.size : Int) = 4 := by omega
  have hsl := slice24 d (by omega)
  have HD := Lib.hid hd
  clear hs hd
  go_enter Tryd.func10, Tryd.ntmps10
  go_wp2_with (first
    | (go_at_call 18; with_reducible refine (HG.out _).mono ?_; rintro e w0 ⟨rfl, rfl⟩)
    | (go_at_call 23; with_reducible refine (HC.out _).mono ?_; rintro e w0 ⟨rfl, rfl⟩))
  refine wp_region_class (Bl w) ((Bl.refl w).call (Joins.below_draws _ _ 1)) (by kernel_rfl) (by kernel_rfl) ?_
  intro hne
  go_big_quiet_step (fail)
  go_big_quiet_step (fail)
  go_big_quiet_step (exact wd_call Bl.keep (HH.out _))
  go_big_quiet_step (fail)
  go_big_quiet_step (fail)
  go_big_quiet_step (exact wd_call Bl.keep (HM.out _))
  go_big_quiet_step (fail)
  go_big_quiet_step (fail)
  go_big_quiet_step (fail)
  refine wpQuiet_nil ?_
  rintro _ ⟨z, rfl⟩
  have HB := Lib.hid z.ok
  go_wp2_with fail
  go_ret2
  exact ⟨by first | rfl | simp, HB.out.below⟩

theorem poffset_4d (s d : ByteArray) (g x y z : Int) (hd : d.size = 4) (hs : d.size ≠ s.size) (hz : s.size ≤ 100)
    (x0 : 0 ≤ x) (x9 : x ≤ 99) (y0 : 0 ≤ y) (y9 : y ≤ 99) (z0 : 0 ≤ z) (z9 : z ≤ 99) (hz0 : z = 0) (c1 : x ≤ 23) (c2 : y ≤ 59) (c3 : z ≤ 59) (c4 : (x * 3600 + y * 60 == 0) = true)
    (HG : Hid (∀ W, Calls Tryd.prog 18 #[.string s] W fun r w' => r = .returned (.tuple #[.int .i64 (-1), .string d]) ∧ W = w'))
    (HC : Hid (∀ W, Calls Tryd.prog 23 #[.string d] W fun r w' => r = .returned (.int .i64 4) ∧ W = w'))
    (HH : Hid (∀ W, Calls Tryd.prog 24 #[.string (d.extract 0 2)] W fun r w' => r = .returned (.int .i64 x) ∧ Below W.heap.size W w'))
    (HM : Hid (∀ W, Calls Tryd.prog 24 #[.string (d.extract 2 4)] W fun r w' => r = .returned (.int .i64 y) ∧ Below W.heap.size W w'))
    (w : World) : Calls Tryd.prog 10 #[.string s] w fun r w' => r = .returned (.tuple #[.int .i64 (0), .int .i64 (8)]) ∧ Below w.heap.size w w' := by
  have t1 : ((4 : Int) == s.size) = false := by simp; omega
  have d0 : (d.size : Int) = 4 := by omega
  have hsl := slice24 d (by omega)
  have HD := Lib.hid hd
  clear hs hd
  go_enter Tryd.func10, Tryd.ntmps10
  go_wp2_with (first
    | (go_at_call 18; with_reducible refine (HG.out _).mono ?_; rintro e w0 ⟨rfl, rfl⟩)
    | (go_at_call 23; with_reducible refine (HC.out _).mono ?_; rintro e w0 ⟨rfl, rfl⟩))
  refine wp_region_class (Bl w) ((Bl.refl w).call (Joins.below_draws _ _ 1)) (by kernel_rfl) (by kernel_rfl) ?_
  intro hne
  go_big_quiet_step (fail)
  go_big_quiet_step (fail)
  go_big_quiet_step (exact wd_call Bl.keep (HH.out _))
  go_big_quiet_step (fail)
  go_big_quiet_step (fail)
  go_big_quiet_step (exact wd_call Bl.keep (HM.out _))
  go_big_quiet_step (fail)
  go_big_quiet_step (fail)
  go_big_quiet_step (fail)
  refine wpQuiet_nil ?_
  rintro _ ⟨z, rfl⟩
  have HB := Lib.hid z.ok
  go_wp2_with fail
  go_ret2
  exact ⟨by first | rfl | simp, HB.out.below⟩

theorem poffset_4e (s d : ByteArray) (g x y z : Int) (hd : d.size = 4) (hs : d.size ≠ s.size) (hz : s.size ≤ 100)
    (x0 : 0 ≤ x) (x9 : x ≤ 99) (y0 : 0 ≤ y) (y9 : y ≤ 99) (z0 : 0 ≤ z) (z9 : z ≤ 99) (hz0 : z = 0) (c1 : x ≤ 23) (c2 : y ≤ 59) (c3 : z ≤ 59) (c4 : (x * 3600 + y * 60 == 0) = false)
    (HG : Hid (∀ W, Calls Tryd.prog 18 #[.string s] W fun r w' => r = .returned (.tuple #[.int .i64 (-1), .string d]) ∧ W = w'))
    (HC : Hid (∀ W, Calls Tryd.prog 23 #[.string d] W fun r w' => r = .returned (.int .i64 4) ∧ W = w'))
    (HH : Hid (∀ W, Calls Tryd.prog 24 #[.string (d.extract 0 2)] W fun r w' => r = .returned (.int .i64 x) ∧ Below W.heap.size W w'))
    (HM : Hid (∀ W, Calls Tryd.prog 24 #[.string (d.extract 2 4)] W fun r w' => r = .returned (.int .i64 y) ∧ Below W.heap.size W w'))
    (w : World) : Calls Tryd.prog 10 #[.string s] w fun r w' => r = .returned (.tuple #[.int .i64 (-(x * 3600 + y * 60)), .int .i64 (0)]) ∧ Below w.heap.size w w' := by
  have t1 : ((4 : Int) == s.size) = false := by simp; omega
  have d0 : (d.size : Int) = 4 := by omega
  have hsl := slice24 d (by omega)
  have HD := Lib.hid hd
  clear hs hd
  go_enter Tryd.func10, Tryd.ntmps10
  go_wp2_with (first
    | (go_at_call 18; with_reducible refine (HG.out _).mono ?_; rintro e w0 ⟨rfl, rfl⟩)
    | (go_at_call 23; with_reducible refine (HC.out _).mono ?_; rintro e w0 ⟨rfl, rfl⟩))
  refine wp_region_class (Bl w) ((Bl.refl w).call (Joins.below_draws _ _ 1)) (by kernel_rfl) (by kernel_rfl) ?_
  intro hne
  go_big_quiet_step (fail)
  go_big_quiet_step (fail)
  go_big_quiet_step (exact wd_call Bl.keep (HH.out _))
  go_big_quiet_step (fail)
  go_big_quiet_step (fail)
  go_big_quiet_step (exact wd_call Bl.keep (HM.out _))
  go_big_quiet_step (fail)
  go_big_quiet_step (fail)
  go_big_quiet_step (fail)
  refine wpQuiet_nil ?_
  rintro _ ⟨z, rfl⟩
  have HB := Lib.hid z.ok
  go_wp2_with fail
  go_ret2
  exact ⟨by first | rfl | simp, HB.out.below⟩

theorem poffset_4f (s d : ByteArray) (g x y z : Int) (hd : d.size = 4) (hs : d.size ≠ s.size) (hz : s.size ≤ 100)
    (x0 : 0 ≤ x) (x9 : x ≤ 99) (y0 : 0 ≤ y) (y9 : y ≤ 99) (z0 : 0 ≤ z) (z9 : z ≤ 99) (hz0 : z = 0) (c1 : x ≤ 23) (c2 : y ≤ 59) (c3 : z ≤ 59)
    (HG : Hid (∀ W, Calls Tryd.prog 18 #[.string s] W fun r w' => r = .returned (.tuple #[.int .i64 (1), .string d]) ∧ W = w'))
    (HC : Hid (∀ W, Calls Tryd.prog 23 #[.string d] W fun r w' => r = .returned (.int .i64 4) ∧ W = w'))
    (HH : Hid (∀ W, Calls Tryd.prog 24 #[.string (d.extract 0 2)] W fun r w' => r = .returned (.int .i64 x) ∧ Below W.heap.size W w'))
    (HM : Hid (∀ W, Calls Tryd.prog 24 #[.string (d.extract 2 4)] W fun r w' => r = .returned (.int .i64 y) ∧ Below W.heap.size W w'))
    (w : World) : Calls Tryd.prog 10 #[.string s] w fun r w' => r = .returned (.tuple #[.int .i64 (x * 3600 + y * 60), .int .i64 (0)]) ∧ Below w.heap.size w w' := by
  have t1 : ((4 : Int) == s.size) = false := by simp; omega
  have d0 : (d.size : Int) = 4 := by omega
  have hsl := slice24 d (by omega)
  have HD := Lib.hid hd
  clear hs hd
  go_enter Tryd.func10, Tryd.ntmps10
  go_wp2_with (first
    | (go_at_call 18; with_reducible refine (HG.out _).mono ?_; rintro e w0 ⟨rfl, rfl⟩)
    | (go_at_call 23; with_reducible refine (HC.out _).mono ?_; rintro e w0 ⟨rfl, rfl⟩))
  refine wp_region_class (Bl w) ((Bl.refl w).call (Joins.below_draws _ _ 1)) (by kernel_rfl) (by kernel_rfl) ?_
  intro hne
  go_big_quiet_step (fail)
  go_big_quiet_step (fail)
  go_big_quiet_step (exact wd_call Bl.keep (HH.out _))
  go_big_quiet_step (fail)
  go_big_quiet_step (fail)
  go_big_quiet_step (exact wd_call Bl.keep (HM.out _))
  go_big_quiet_step (fail)
  go_big_quiet_step (fail)
  go_big_quiet_step (fail)
  refine wpQuiet_nil ?_
  rintro _ ⟨z, rfl⟩
  have HB := Lib.hid z.ok
  go_wp2_with fail
  go_ret2
  exact ⟨by first | rfl | simp, HB.out.below⟩

theorem poffset_6a (s d : ByteArray) (g x y z : Int) (hd : d.size = 6) (hs : d.size ≠ s.size) (hz : s.size ≤ 100)
    (x0 : 0 ≤ x) (x9 : x ≤ 99) (y0 : 0 ≤ y) (y9 : y ≤ 99) (z0 : 0 ≤ z) (z9 : z ≤ 99) (c1 : 23 < x)
    (HG : Hid (∀ W, Calls Tryd.prog 18 #[.string s] W fun r w' => r = .returned (.tuple #[.int .i64 (g), .string d]) ∧ W = w'))
    (HC : Hid (∀ W, Calls Tryd.prog 23 #[.string d] W fun r w' => r = .returned (.int .i64 6) ∧ W = w'))
    (HH : Hid (∀ W, Calls Tryd.prog 24 #[.string (d.extract 0 2)] W fun r w' => r = .returned (.int .i64 x) ∧ Below W.heap.size W w'))
    (HM : Hid (∀ W, Calls Tryd.prog 24 #[.string (d.extract 2 4)] W fun r w' => r = .returned (.int .i64 y) ∧ Below W.heap.size W w'))
    (HS : Hid (∀ W, Calls Tryd.prog 24 #[.string (d.extract 4 d.size)] W fun r w' => r = .returned (.int .i64 z) ∧ Below W.heap.size W w'))
    (w : World) : Calls Tryd.prog 10 #[.string s] w fun r w' => r = .returned (.tuple #[.int .i64 (0), .int .i64 (8)]) ∧ Below w.heap.size w w' := by
  have t1 : ((6 : Int) == s.size) = false := by simp; omega
  have d0 : (d.size : Int) = 6 := by omega
  have hsl := slice24 d (by omega)
  have HS6 := HS
  rw [hd] at HS6
  have HD := Lib.hid hd
  clear hs hd
  go_enter Tryd.func10, Tryd.ntmps10
  go_wp2_with (first
    | (go_at_call 18; with_reducible refine (HG.out _).mono ?_; rintro e w0 ⟨rfl, rfl⟩)
    | (go_at_call 23; with_reducible refine (HC.out _).mono ?_; rintro e w0 ⟨rfl, rfl⟩))
  refine wp_region_class (Bl w) ((Bl.refl w).call (Joins.below_draws _ _ 1)) (by kernel_rfl) (by kernel_rfl) ?_
  intro hne
  go_big_quiet_step (fail)
  go_big_quiet_step (fail)
  go_big_quiet_step (exact wd_call Bl.keep (HH.out _))
  go_big_quiet_step (fail)
  go_big_quiet_step (fail)
  go_big_quiet_step (exact wd_call Bl.keep (HM.out _))
  go_big_quiet_step (fail)
  go_big_quiet_step (fail)
  go_big_quiet_step (fail)
  refine wpQuiet_nil ?_
  rintro _ ⟨z, rfl⟩
  have HB := Lib.hid z.ok
  go_wp2_with (first
    | (go_at_call 24; with_reducible refine (HS.out _).mono ?_; rintro e w0 ⟨rfl, hb⟩; have HB2 := Lib.hid (HB.out.call hb); clear hb)
    | (go_at_call 24; with_reducible refine (HS6.out _).mono ?_; rintro e w0 ⟨rfl, hb⟩; have HB2 := Lib.hid (HB.out.call hb); clear hb))
  go_ret2
  exact ⟨by first | rfl | simp, HB2.out.below⟩

theorem poffset_6b (s d : ByteArray) (g x y z : Int) (hd : d.size = 6) (hs : d.size ≠ s.size) (hz : s.size ≤ 100)
    (x0 : 0 ≤ x) (x9 : x ≤ 99) (y0 : 0 ≤ y) (y9 : y ≤ 99) (z0 : 0 ≤ z) (z9 : z ≤ 99) (c1 : x ≤ 23) (c2 : 59 < y)
    (HG : Hid (∀ W, Calls Tryd.prog 18 #[.string s] W fun r w' => r = .returned (.tuple #[.int .i64 (g), .string d]) ∧ W = w'))
    (HC : Hid (∀ W, Calls Tryd.prog 23 #[.string d] W fun r w' => r = .returned (.int .i64 6) ∧ W = w'))
    (HH : Hid (∀ W, Calls Tryd.prog 24 #[.string (d.extract 0 2)] W fun r w' => r = .returned (.int .i64 x) ∧ Below W.heap.size W w'))
    (HM : Hid (∀ W, Calls Tryd.prog 24 #[.string (d.extract 2 4)] W fun r w' => r = .returned (.int .i64 y) ∧ Below W.heap.size W w'))
    (HS : Hid (∀ W, Calls Tryd.prog 24 #[.string (d.extract 4 d.size)] W fun r w' => r = .returned (.int .i64 z) ∧ Below W.heap.size W w'))
    (w : World) : Calls Tryd.prog 10 #[.string s] w fun r w' => r = .returned (.tuple #[.int .i64 (0), .int .i64 (8)]) ∧ Below w.heap.size w w' := by
  have t1 : ((6 : Int) == s.size) = false := by simp; omega
  have d0 : (d.size : Int) = 6 := by omega
  have hsl := slice24 d (by omega)
  have HS6 := HS
  rw [hd] at HS6
  have HD := Lib.hid hd
  clear hs hd
  go_enter Tryd.func10, Tryd.ntmps10
  go_wp2_with (first
    | (go_at_call 18; with_reducible refine (HG.out _).mono ?_; rintro e w0 ⟨rfl, rfl⟩)
    | (go_at_call 23; with_reducible refine (HC.out _).mono ?_; rintro e w0 ⟨rfl, rfl⟩))
  refine wp_region_class (Bl w) ((Bl.refl w).call (Joins.below_draws _ _ 1)) (by kernel_rfl) (by kernel_rfl) ?_
  intro hne
  go_big_quiet_step (fail)
  go_big_quiet_step (fail)
  go_big_quiet_step (exact wd_call Bl.keep (HH.out _))
  go_big_quiet_step (fail)
  go_big_quiet_step (fail)
  go_big_quiet_step (exact wd_call Bl.keep (HM.out _))
  go_big_quiet_step (fail)
  go_big_quiet_step (fail)
  go_big_quiet_step (fail)
  refine wpQuiet_nil ?_
  rintro _ ⟨z, rfl⟩
  have HB := Lib.hid z.ok
  go_wp2_with (first
    | (go_at_call 24; with_reducible refine (HS.out _).mono ?_; rintro e w0 ⟨rfl, hb⟩; have HB2 := Lib.hid (HB.out.call hb); clear hb)
    | (go_at_call 24; with_reducible refine (HS6.out _).mono ?_; rintro e w0 ⟨rfl, hb⟩; have HB2 := Lib.hid (HB.out.call hb); clear hb))
  go_ret2
  exact ⟨by first | rfl | simp, HB2.out.below⟩

theorem poffset_6c (s d : ByteArray) (g x y z : Int) (hd : d.size = 6) (hs : d.size ≠ s.size) (hz : s.size ≤ 100)
    (x0 : 0 ≤ x) (x9 : x ≤ 99) (y0 : 0 ≤ y) (y9 : y ≤ 99) (z0 : 0 ≤ z) (z9 : z ≤ 99) (c1 : x ≤ 23) (c2 : y ≤ 59) (c3 : 59 < z)
    (HG : Hid (∀ W, Calls Tryd.prog 18 #[.string s] W fun r w' => r = .returned (.tuple #[.int .i64 (g), .string d]) ∧ W = w'))
    (HC : Hid (∀ W, Calls Tryd.prog 23 #[.string d] W fun r w' => r = .returned (.int .i64 6) ∧ W = w'))
    (HH : Hid (∀ W, Calls Tryd.prog 24 #[.string (d.extract 0 2)] W fun r w' => r = .returned (.int .i64 x) ∧ Below W.heap.size W w'))
    (HM : Hid (∀ W, Calls Tryd.prog 24 #[.string (d.extract 2 4)] W fun r w' => r = .returned (.int .i64 y) ∧ Below W.heap.size W w'))
    (HS : Hid (∀ W, Calls Tryd.prog 24 #[.string (d.extract 4 d.size)] W fun r w' => r = .returned (.int .i64 z) ∧ Below W.heap.size W w'))
    (w : World) : Calls Tryd.prog 10 #[.string s] w fun r w' => r = .returned (.tuple #[.int .i64 (0), .int .i64 (8)]) ∧ Below w.heap.size w w' := by
  have t1 : ((6 : Int) == s.size) = false := by simp; omega
  have d0 : (d.size : Int) = 6 := by omega
  have hsl := slice24 d (by omega)
  have HS6 := HS
  rw [hd] at HS6
  have HD := Lib.hid hd
  clear hs hd
  go_enter Tryd.func10, Tryd.ntmps10
  go_wp2_with (first
    | (go_at_call 18; with_reducible refine (HG.out _).mono ?_; rintro e w0 ⟨rfl, rfl⟩)
    | (go_at_call 23; with_reducible refine (HC.out _).mono ?_; rintro e w0 ⟨rfl, rfl⟩))
  refine wp_region_class (Bl w) ((Bl.refl w).call (Joins.below_draws _ _ 1)) (by kernel_rfl) (by kernel_rfl) ?_
  intro hne
  go_big_quiet_step (fail)
  go_big_quiet_step (fail)
  go_big_quiet_step (exact wd_call Bl.keep (HH.out _))
  go_big_quiet_step (fail)
  go_big_quiet_step (fail)
  go_big_quiet_step (exact wd_call Bl.keep (HM.out _))
  go_big_quiet_step (fail)
  go_big_quiet_step (fail)
  go_big_quiet_step (fail)
  refine wpQuiet_nil ?_
  rintro _ ⟨z, rfl⟩
  have HB := Lib.hid z.ok
  go_wp2_with (first
    | (go_at_call 24; with_reducible refine (HS.out _).mono ?_; rintro e w0 ⟨rfl, hb⟩; have HB2 := Lib.hid (HB.out.call hb); clear hb)
    | (go_at_call 24; with_reducible refine (HS6.out _).mono ?_; rintro e w0 ⟨rfl, hb⟩; have HB2 := Lib.hid (HB.out.call hb); clear hb))
  go_ret2
  exact ⟨by first | rfl | simp, HB2.out.below⟩

theorem poffset_6d (s d : ByteArray) (g x y z : Int) (hd : d.size = 6) (hs : d.size ≠ s.size) (hz : s.size ≤ 100)
    (x0 : 0 ≤ x) (x9 : x ≤ 99) (y0 : 0 ≤ y) (y9 : y ≤ 99) (z0 : 0 ≤ z) (z9 : z ≤ 99) (c1 : x ≤ 23) (c2 : y ≤ 59) (c3 : z ≤ 59) (c4 : (x * 3600 + y * 60 + z == 0) = true)
    (HG : Hid (∀ W, Calls Tryd.prog 18 #[.string s] W fun r w' => r = .returned (.tuple #[.int .i64 (-1), .string d]) ∧ W = w'))
    (HC : Hid (∀ W, Calls Tryd.prog 23 #[.string d] W fun r w' => r = .returned (.int .i64 6) ∧ W = w'))
    (HH : Hid (∀ W, Calls Tryd.prog 24 #[.string (d.extract 0 2)] W fun r w' => r = .returned (.int .i64 x) ∧ Below W.heap.size W w'))
    (HM : Hid (∀ W, Calls Tryd.prog 24 #[.string (d.extract 2 4)] W fun r w' => r = .returned (.int .i64 y) ∧ Below W.heap.size W w'))
    (HS : Hid (∀ W, Calls Tryd.prog 24 #[.string (d.extract 4 d.size)] W fun r w' => r = .returned (.int .i64 z) ∧ Below W.heap.size W w'))
    (w : World) : Calls Tryd.prog 10 #[.string s] w fun r w' => r = .returned (.tuple #[.int .i64 (0), .int .i64 (8)]) ∧ Below w.heap.size w w' := by
  have t1 : ((6 : Int) == s.size) = false := by simp; omega
  have d0 : (d.size : Int) = 6 := by omega
  have hsl := slice24 d (by omega)
  have HS6 := HS
  rw [hd] at HS6
  have HD := Lib.hid hd
  clear hs hd
  go_enter Tryd.func10, Tryd.ntmps10
  go_wp2_with (first
    | (go_at_call 18; with_reducible refine (HG.out _).mono ?_; rintro e w0 ⟨rfl, rfl⟩)
    | (go_at_call 23; with_reducible refine (HC.out _).mono ?_; rintro e w0 ⟨rfl, rfl⟩))
  refine wp_region_class (Bl w) ((Bl.refl w).call (Joins.below_draws _ _ 1)) (by kernel_rfl) (by kernel_rfl) ?_
  intro hne
  go_big_quiet_step (fail)
  go_big_quiet_step (fail)
  go_big_quiet_step (exact wd_call Bl.keep (HH.out _))
  go_big_quiet_step (fail)
  go_big_quiet_step (fail)
  go_big_quiet_step (exact wd_call Bl.keep (HM.out _))
  go_big_quiet_step (fail)
  go_big_quiet_step (fail)
  go_big_quiet_step (fail)
  refine wpQuiet_nil ?_
  rintro _ ⟨z, rfl⟩
  have HB := Lib.hid z.ok
  go_wp2_with (first
    | (go_at_call 24; with_reducible refine (HS.out _).mono ?_; rintro e w0 ⟨rfl, hb⟩; have HB2 := Lib.hid (HB.out.call hb); clear hb)
    | (go_at_call 24; with_reducible refine (HS6.out _).mono ?_; rintro e w0 ⟨rfl, hb⟩; have HB2 := Lib.hid (HB.out.call hb); clear hb))
  go_ret2
  exact ⟨by first | rfl | simp, HB2.out.below⟩

theorem poffset_6e (s d : ByteArray) (g x y z : Int) (hd : d.size = 6) (hs : d.size ≠ s.size) (hz : s.size ≤ 100)
    (x0 : 0 ≤ x) (x9 : x ≤ 99) (y0 : 0 ≤ y) (y9 : y ≤ 99) (z0 : 0 ≤ z) (z9 : z ≤ 99) (c1 : x ≤ 23) (c2 : y ≤ 59) (c3 : z ≤ 59) (c4 : (x * 3600 + y * 60 + z == 0) = false)
    (HG : Hid (∀ W, Calls Tryd.prog 18 #[.string s] W fun r w' => r = .returned (.tuple #[.int .i64 (-1), .string d]) ∧ W = w'))
    (HC : Hid (∀ W, Calls Tryd.prog 23 #[.string d] W fun r w' => r = .returned (.int .i64 6) ∧ W = w'))
    (HH : Hid (∀ W, Calls Tryd.prog 24 #[.string (d.extract 0 2)] W fun r w' => r = .returned (.int .i64 x) ∧ Below W.heap.size W w'))
    (HM : Hid (∀ W, Calls Tryd.prog 24 #[.string (d.extract 2 4)] W fun r w' => r = .returned (.int .i64 y) ∧ Below W.heap.size W w'))
    (HS : Hid (∀ W, Calls Tryd.prog 24 #[.string (d.extract 4 d.size)] W fun r w' => r = .returned (.int .i64 z) ∧ Below W.heap.size W w'))
    (w : World) : Calls Tryd.prog 10 #[.string s] w fun r w' => r = .returned (.tuple #[.int .i64 (-(x * 3600 + y * 60 + z)), .int .i64 (0)]) ∧ Below w.heap.size w w' := by
  have t1 : ((6 : Int) == s.size) = false := by simp; omega
  have d0 : (d.size : Int) = 6 := by omega
  have hsl := slice24 d (by omega)
  have HS6 := HS
  rw [hd] at HS6
  have HD := Lib.hid hd
  clear hs hd
  go_enter Tryd.func10, Tryd.ntmps10
  go_wp2_with (first
    | (go_at_call 18; with_reducible refine (HG.out _).mono ?_; rintro e w0 ⟨rfl, rfl⟩)
    | (go_at_call 23; with_reducible refine (HC.out _).mono ?_; rintro e w0 ⟨rfl, rfl⟩))
  refine wp_region_class (Bl w) ((Bl.refl w).call (Joins.below_draws _ _ 1)) (by kernel_rfl) (by kernel_rfl) ?_
  intro hne
  go_big_quiet_step (fail)
  go_big_quiet_step (fail)
  go_big_quiet_step (exact wd_call Bl.keep (HH.out _))
  go_big_quiet_step (fail)
  go_big_quiet_step (fail)
  go_big_quiet_step (exact wd_call Bl.keep (HM.out _))
  go_big_quiet_step (fail)
  go_big_quiet_step (fail)
  go_big_quiet_step (fail)
  refine wpQuiet_nil ?_
  rintro _ ⟨z, rfl⟩
  have HB := Lib.hid z.ok
  go_wp2_with (first
    | (go_at_call 24; with_reducible refine (HS.out _).mono ?_; rintro e w0 ⟨rfl, hb⟩; have HB2 := Lib.hid (HB.out.call hb); clear hb)
    | (go_at_call 24; with_reducible refine (HS6.out _).mono ?_; rintro e w0 ⟨rfl, hb⟩; have HB2 := Lib.hid (HB.out.call hb); clear hb))
  go_ret2
  exact ⟨by first | rfl | simp, HB2.out.below⟩

theorem poffset_6f (s d : ByteArray) (g x y z : Int) (hd : d.size = 6) (hs : d.size ≠ s.size) (hz : s.size ≤ 100)
    (x0 : 0 ≤ x) (x9 : x ≤ 99) (y0 : 0 ≤ y) (y9 : y ≤ 99) (z0 : 0 ≤ z) (z9 : z ≤ 99) (c1 : x ≤ 23) (c2 : y ≤ 59) (c3 : z ≤ 59)
    (HG : Hid (∀ W, Calls Tryd.prog 18 #[.string s] W fun r w' => r = .returned (.tuple #[.int .i64 (1), .string d]) ∧ W = w'))
    (HC : Hid (∀ W, Calls Tryd.prog 23 #[.string d] W fun r w' => r = .returned (.int .i64 6) ∧ W = w'))
    (HH : Hid (∀ W, Calls Tryd.prog 24 #[.string (d.extract 0 2)] W fun r w' => r = .returned (.int .i64 x) ∧ Below W.heap.size W w'))
    (HM : Hid (∀ W, Calls Tryd.prog 24 #[.string (d.extract 2 4)] W fun r w' => r = .returned (.int .i64 y) ∧ Below W.heap.size W w'))
    (HS : Hid (∀ W, Calls Tryd.prog 24 #[.string (d.extract 4 d.size)] W fun r w' => r = .returned (.int .i64 z) ∧ Below W.heap.size W w'))
    (w : World) : Calls Tryd.prog 10 #[.string s] w fun r w' => r = .returned (.tuple #[.int .i64 (x * 3600 + y * 60 + z), .int .i64 (0)]) ∧ Below w.heap.size w w' := by
  have t1 : ((6 : Int) == s.size) = false := by simp; omega
  have d0 : (d.size : Int) = 6 := by omega
  have hsl := slice24 d (by omega)
  have HS6 := HS
  rw [hd] at HS6
  have HD := Lib.hid hd
  clear hs hd
  go_enter Tryd.func10, Tryd.ntmps10
  go_wp2_with (first
    | (go_at_call 18; with_reducible refine (HG.out _).mono ?_; rintro e w0 ⟨rfl, rfl⟩)
    | (go_at_call 23; with_reducible refine (HC.out _).mono ?_; rintro e w0 ⟨rfl, rfl⟩))
  refine wp_region_class (Bl w) ((Bl.refl w).call (Joins.below_draws _ _ 1)) (by kernel_rfl) (by kernel_rfl) ?_
  intro hne
  go_big_quiet_step (fail)
  go_big_quiet_step (fail)
  go_big_quiet_step (exact wd_call Bl.keep (HH.out _))
  go_big_quiet_step (fail)
  go_big_quiet_step (fail)
  go_big_quiet_step (exact wd_call Bl.keep (HM.out _))
  go_big_quiet_step (fail)
  go_big_quiet_step (fail)
  go_big_quiet_step (fail)
  refine wpQuiet_nil ?_
  rintro _ ⟨z, rfl⟩
  have HB := Lib.hid z.ok
  go_wp2_with (first
    | (go_at_call 24; with_reducible refine (HS.out _).mono ?_; rintro e w0 ⟨rfl, hb⟩; have HB2 := Lib.hid (HB.out.call hb); clear hb)
    | (go_at_call 24; with_reducible refine (HS6.out _).mono ?_; rintro e w0 ⟨rfl, hb⟩; have HB2 := Lib.hid (HB.out.call hb); clear hb))
  go_ret2
  exact ⟨by first | rfl | simp, HB2.out.below⟩

theorem num_ext (l : List UInt8) (hd : allD l = true) (a b : Nat) (h1 : 1 ≤ ((l.drop a).take (b - a)).length) (h2 : ((l.drop a).take (b - a)).length ≤ 6) (w : World) :
    Calls Tryd.prog 24 #[.string ((ByteArray.mk l.toArray).extract a b)] w fun r w' => r = .returned (.int .i64 (dv ((l.drop a).take (b - a)))) ∧ Below w.heap.size w w' := by
  have e := ext_mid ⟨l.toArray⟩ a b
  rw [data_mk] at e
  rw [e]
  have := number_any ⟨((l.drop a).take (b - a)).toArray⟩ (by rw [data_mk]; exact all_take (all_drop hd a) _) (by rw [size_mk]; exact h1) (by rw [size_mk]; exact h2) w
  rwa [data_mk] at this
theorem poffset_l (l : List UInt8) (hs : l.length ≤ 100) (w : World) :
    Calls Tryd.prog 10 #[.string ⟨l.toArray⟩] w fun r w' => r = .returned (.tuple #[.int .i64 (ofV l), .int .i64 (ofE l)]) ∧ Below w.heap.size w w' := by
  rcases hf : ofF l with _ | _
  · rw [ofV_not (by rw [of_form hf]; decide), of_form hf]
    refine (poffset_form l hs hf w).mono ?_
    rintro r w' ⟨rfl, rfl⟩
    exact ⟨rfl, Below.refl _ _⟩
  · obtain ⟨p1, p2, p3, p4, p5, p6⟩ := of_parts hf
    obtain ⟨x0, x9, y0, y9, z0, z9⟩ := of_in hf
    obtain ⟨hl, -, -⟩ := ofF_iff.1 hf
    have HG := fun W => cutsign_l l W
    rw [p1] at HG
    have htl : l.tail.length = l.length - 1 := List.length_tail
    have HC := fun W => count_any ⟨l.tail.toArray⟩ (by rw [size_mk]; omega) W
    rw [data_mk, cnt_full.2 p4] at HC
    have HH := fun W => num_ext l.tail p4 0 2 (by rw [List.length_take, List.length_drop]; omega) (by rw [List.length_take]; omega) W
    have HM := fun W => num_ext l.tail p4 2 4 (by rw [List.length_take, List.length_drop]; omega) (by rw [List.length_take]; omega) W
    rw [show (l.tail.drop 0).take (2 - 0) = l.tail.take 2 by simp, ← p2] at HH
    rw [show (4 - 2 : Nat) = 2 by rfl, ← p3] at HM
    have hds : (ByteArray.mk l.tail.toArray).size = l.length - 1 := by rw [size_mk, htl]
    have hss : (ByteArray.mk l.toArray).size = l.length := size_mk l
    have hne : (ByteArray.mk l.tail.toArray).size ≠ (ByteArray.mk l.toArray).size := by rw [hds, hss]; omega
    have hz : (ByteArray.mk l.toArray).size ≤ 100 := by rw [hss]; exact hs
    have en : ofN l = ofH l * 3600 + ofM l * 60 + ofS l := rfl
    rcases hl with hl | hl
    · have hd : (ByteArray.mk l.tail.toArray).size = 4 := by rw [hds, hl]
      have z := p5 hl
      rw [htl, hl] at HC
      rw [z, Int.add_zero] at en
      rcases ofR_cases (l := l) with ⟨hr, c⟩ | ⟨hr, c⟩
      · rw [ofV_not (by rw [of_range hf hr]; decide), of_range hf hr]
        rcases c with c1 | ⟨c1, c2⟩ | ⟨c1, c2, c3⟩ | ⟨c1, c2, c3, hg, c4⟩
        · exact poffset_4a _ _ _ _ _ _ hd hne hz x0 x9 y0 y9 z0 z9 z c1 (Lib.hid HG) (Lib.hid HC) (Lib.hid HH) (Lib.hid HM) w
        · exact poffset_4b _ _ _ _ _ _ hd hne hz x0 x9 y0 y9 z0 z9 z c1 c2 (Lib.hid HG) (Lib.hid HC) (Lib.hid HH) (Lib.hid HM) w
        · omega
        · rw [hg] at HG
          rw [z, Int.add_zero] at c4
          exact poffset_4d _ _ 0 _ _ _ hd hne hz x0 x9 y0 y9 z0 z9 z c1 c2 c3 (by simpa using c4) (Lib.hid HG) (Lib.hid HC) (Lib.hid HH) (Lib.hid HM) w
      · obtain ⟨e1, e2⟩ := of_ok hf hr
        obtain ⟨c1, c2, c3, hg | ⟨hg, c4⟩⟩ := c
        · rw [e1, e2, hg, Int.one_mul, en]
          rw [hg] at HG
          exact poffset_4f _ _ 0 _ _ _ hd hne hz x0 x9 y0 y9 z0 z9 z c1 c2 c3 (Lib.hid HG) (Lib.hid HC) (Lib.hid HH) (Lib.hid HM) w
        · rw [e1, e2, hg, Int.neg_mul, Int.one_mul, en]
          rw [hg] at HG
          rw [z, Int.add_zero] at c4
          exact poffset_4e _ _ 0 _ _ _ hd hne hz x0 x9 y0 y9 z0 z9 z c1 c2 c3 (by simpa using c4) (Lib.hid HG) (Lib.hid HC) (Lib.hid HH) (Lib.hid HM) w
    · have hd : (ByteArray.mk l.tail.toArray).size = 6 := by rw [hds, hl]
      have z := p6 hl
      have e4 : (l.tail.drop 4).take (6 - 4) = l.tail.drop 4 := by rw [List.take_of_length_le]; rw [List.length_drop]; omega
      have HS := fun W => num_ext l.tail p4 4 6 (by rw [List.length_take, List.length_drop]; omega) (by rw [List.length_take]; omega) W
      rw [e4, ← z] at HS
      rw [htl, hl] at HC
      rw [← hd] at HS
      rcases ofR_cases (l := l) with ⟨hr, c⟩ | ⟨hr, c⟩
      · rw [ofV_not (by rw [of_range hf hr]; decide), of_range hf hr]
        rcases c with c1 | ⟨c1, c2⟩ | ⟨c1, c2, c3⟩ | ⟨c1, c2, c3, hg, c4⟩
        · exact poffset_6a _ _ _ _ _ _ hd hne hz x0 x9 y0 y9 z0 z9 c1 (Lib.hid HG) (Lib.hid HC) (Lib.hid HH) (Lib.hid HM) (Lib.hid HS) w
        · exact poffset_6b _ _ _ _ _ _ hd hne hz x0 x9 y0 y9 z0 z9 c1 c2 (Lib.hid HG) (Lib.hid HC) (Lib.hid HH) (Lib.hid HM) (Lib.hid HS) w
        · exact poffset_6c _ _ _ _ _ _ hd hne hz x0 x9 y0 y9 z0 z9 c1 c2 c3 (Lib.hid HG) (Lib.hid HC) (Lib.hid HH) (Lib.hid HM) (Lib.hid HS) w
        · rw [hg] at HG
          exact poffset_6d _ _ 0 _ _ _ hd hne hz x0 x9 y0 y9 z0 z9 c1 c2 c3 (by simpa using c4) (Lib.hid HG) (Lib.hid HC) (Lib.hid HH) (Lib.hid HM) (Lib.hid HS) w
      · obtain ⟨e1, e2⟩ := of_ok hf hr
        obtain ⟨c1, c2, c3, hg | ⟨hg, c4⟩⟩ := c
        · rw [e1, e2, hg, Int.one_mul, en]
          rw [hg] at HG
          exact poffset_6f _ _ 0 _ _ _ hd hne hz x0 x9 y0 y9 z0 z9 c1 c2 c3 (Lib.hid HG) (Lib.hid HC) (Lib.hid HH) (Lib.hid HM) (Lib.hid HS) w
        · rw [e1, e2, hg, Int.neg_mul, Int.one_mul, en]
          rw [hg] at HG
          exact poffset_6e _ _ 0 _ _ _ hd hne hz x0 x9 y0 y9 z0 z9 c1 c2 c3 (by simpa using c4) (Lib.hid HG) (Lib.hid HC) (Lib.hid HH) (Lib.hid HM) (Lib.hid HS) w
end Go.Proofs.YtmbbjpfhdijmbaaDoor.Spn
