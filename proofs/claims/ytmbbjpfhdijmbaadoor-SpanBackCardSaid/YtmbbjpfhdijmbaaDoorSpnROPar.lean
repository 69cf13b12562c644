/- Contract of the document's ParseOffset. -/
import Derived.Test.YtmbbjpfhdijmbaaDoorSpnROff
import Derived.RegionTactic
namespace Go.Proofs.YtmbbjpfhdijmbaaDoor.Spn
open Go.RowKit
set_option linter.unusedVariables false

/-- All letters from the second one up to this place are digits. -/
def DgTo (s : ByteArray) (k : Nat) : Prop := ∀ i (h : i < s.size), 1 ≤ i → i < k → 48 ≤ s[i].toNat ∧ s[i].toNat ≤ 57
theorem DgTo.step {s : ByteArray} {k : Nat} (h : DgTo s k) (hk : k < s.size) (hd : 48 ≤ s[k].toNat ∧ s[k].toNat ≤ 57) : DgTo s (k + 1) := by
  intro i hi h1 h2
  by_cases e : i = k
  · subst e; exact hd
  · exact h i hi h1 (by omega)
/-- The number of two letters that are digits. -/
def pr (a b : UInt8) : Int := ((a.toNat : Int) - 48) % 256 * 10 + ((b.toNat : Int) - 48) % 256

theorem rpo_size (s : ByteArray) (h5 : ¬ s.size = 5) (h7 : ¬ s.size = 7) (w : World) :
    Calls Tryd.prog 11 #[.string s] w fun r w' => r = .returned (.tuple #[.int .i64 0, .int .i64 4]) ∧ Below w.heap.size w w' := by
  have t5 : ((s.size : Int) != 5) = true := by simp; omega
  have t7 : ((s.size : Int) != 7) = true := by simp; omega
  clear h5 h7
  go_enter Tryd.func11, Tryd.ntmps11
  go_wp2
  go_ret2
  exact ⟨rfl, Below.refl _ _⟩
theorem rpo_sign5 (s : ByteArray) (hz : s.size = 5) (b1 : ((s[0].toNat : Int) != 43) = true) (b2 : ((s[0].toNat : Int) != 45) = true) (w : World) :
    Calls Tryd.prog 11 #[.string s] w fun r w' => r = .returned (.tuple #[.int .i64 0, .int .i64 4]) ∧ Below w.heap.size w w' := by
  have hzI : (s.size : Int) = 5 := by omega
  go_enter Tryd.func11, Tryd.ntmps11
  go_wp2_with fail
  go_ret2
  exact ⟨rfl, Below.refl _ _⟩
theorem rpo_dig5p (s : ByteArray) (hz : s.size = 5) (sg : ((s[0].toNat : Int) != 43) = false) (sg3 : ((s[0].toNat : Int) == 45) = false) (HN : Hid (¬ DgTo s s.size)) (w : World) :
    Calls Tryd.prog 11 #[.string s] w fun r w' => r = .returned (.tuple #[.int .i64 0, .int .i64 4]) ∧ Below w.heap.size w w' := by
  have hzI : (s.size : Int) = 5 := by omega
  go_enter Tryd.func11, Tryd.ntmps11
  go_wp2_with fail
  go_loop [4] (fun i => ∃ k : Nat, 1 ≤ k ∧ (k : Int) ≤ 5 ∧ i = .int .i64 k ∧ Hid (DgTo s k)) (fun i => (5 - intOf i).toNat)
  case atStart => exact ⟨1, by omega, by omega, rfl, Lib.hid (fun i hi h1 h2 => by omega)⟩
  case round =>
    obtain ⟨k, h1, hk, rfl, ha⟩ := hrel
    by_cases hlt : (k : Int) < 5
    · have hi : k < s.size := by omega
      have HX := Lib.hid (fun hd => ha.out.step hi hd)
      by_cases a1 : 48 ≤ s[k].toNat
      · by_cases a2 : s[k].toNat ≤ 57
        · go_wp2_with fail
          go_round
          case rel => exact ⟨k + 1, by omega, by omega, by go_num, Lib.hid (HX.out ⟨a1, a2⟩)⟩
          case measure => simp [intOf]; omega
        · go_wp2_with fail
          go_ret2
          exact ⟨rfl, Below.refl _ _⟩
      · go_wp2_with fail
        go_ret2
        exact ⟨rfl, Below.refl _ _⟩
    · exfalso
      have e : k = s.size := by omega
      subst e
      exact HN.out ha.out
theorem rpo_dig5m (s : ByteArray) (hz : s.size = 5) (sg : ((s[0].toNat : Int) != 43) = true) (sg2 : ((s[0].toNat : Int) != 45) = false) (sg3 : ((s[0].toNat : Int) == 45) = true) (HN : Hid (¬ DgTo s s.size)) (w : World) :
    Calls Tryd.prog 11 #[.string s] w fun r w' => r = .returned (.tuple #[.int .i64 0, .int .i64 4]) ∧ Below w.heap.size w w' := by
  have hzI : (s.size : Int) = 5 := by omega
  go_enter Tryd.func11, Tryd.ntmps11
  go_wp2_with fail
  go_loop [4] (fun i => ∃ k : Nat, 1 ≤ k ∧ (k : Int) ≤ 5 ∧ i = .int .i64 k ∧ Hid (DgTo s k)) (fun i => (5 - intOf i).toNat)
  case atStart => exact ⟨1, by omega, by omega, rfl, Lib.hid (fun i hi h1 h2 => by omega)⟩
  case round =>
    obtain ⟨k, h1, hk, rfl, ha⟩ := hrel
    by_cases hlt : (k : Int) < 5
    · have hi : k < s.size := by omega
      have HX := Lib.hid (fun hd => ha.out.step hi hd)
      by_cases a1 : 48 ≤ s[k].toNat
      · by_cases a2 : s[k].toNat ≤ 57
        · go_wp2_with fail
          go_round
          case rel => exact ⟨k + 1, by omega, by omega, by go_num, Lib.hid (HX.out ⟨a1, a2⟩)⟩
          case measure => simp [intOf]; omega
        · go_wp2_with fail
          go_ret2
          exact ⟨rfl, Below.refl _ _⟩
      · go_wp2_with fail
        go_ret2
        exact ⟨rfl, Below.refl _ _⟩
    · exfalso
      have e : k = s.size := by omega
      subst e
      exact HN.out ha.out
theorem rpo_5ap (s : ByteArray) (x y : Int) (hz : s.size = 5) (HD : Hid (DgTo s s.size)) (sg : ((s[0].toNat : Int) != 43) = false) (sg3 : ((s[0].toNat : Int) == 45) = false) 
    (ex : pr s[1] s[2] = x) (ey : pr s[3] s[4] = y) (x0 : 0 ≤ x) (x9 : x ≤ 99) (y0 : 0 ≤ y) (y9 : y ≤ 99) (c1 : 23 < x) (w : World) :
    Calls Tryd.prog 11 #[.string s] w fun r w' => r = .returned (.tuple #[.int .i64 (0), .int .i64 (8)]) ∧ Below w.heap.size w w' := by
  have EX := Lib.hid ex
  have EY := Lib.hid ey
  clear ex ey
  unfold pr at EX EY
  have hzI : (s.size : Int) = 5 := by omega
  go_enter Tryd.func11, Tryd.ntmps11
  go_wp2_with fail
  go_loop [4] (fun i => ∃ k : Nat, 1 ≤ k ∧ (k : Int) ≤ 5 ∧ i = .int .i64 k ∧ Hid (DgTo s k)) (fun i => (5 - intOf i).toNat)
  case atStart => exact ⟨1, by omega, by omega, rfl, Lib.hid (fun i hi h1 h2 => by omega)⟩
  case round =>
    obtain ⟨k, h1, hk, rfl, ha⟩ := hrel
    by_cases hlt : (k : Int) < 5
    · have hi : k < s.size := by omega
      obtain ⟨a1, a2⟩ := HD.out k hi h1 hi
      have HX := Lib.hid (ha.out.step hi ⟨a1, a2⟩)
      go_wp2_with fail
      go_round
      case rel => exact ⟨k + 1, by omega, by omega, by go_num, HX⟩
      case measure => simp [intOf]; omega
    · obtain rfl : k = 5 := by omega
      clear HD ha
      have HB0 := Lib.hid (Bl.refl w)
      go_wp2_with fail
      go_loopw [5, 6] (fun n i wr => ((i = .int .i64 1 ∧ n = .int .i64 0)) ∧ Hid (Bl w wr)) (fun _ i _ => (5 - intOf i).toNat)
      case atStart => exact ⟨⟨rfl, rfl⟩, HB0⟩
      case round =>
        obtain ⟨⟨rfl, rfl⟩, hb⟩ := hrel
        go_upto_region 12 with fail
        refine wp_region_class (Bl w) (hb.out.call (Joins.below_draws _ _ 1)) (by kernel_rfl) (by kernel_rfl) ?_
        intro hne
        iterate 14 (go_big_quiet_step (fail))
        refine wpQuiet_nil ?_
        rintro _ ⟨zz, rfl⟩
        have hb2 := Lib.hid zz.ok
        rw [EX.out]
        go_wp2_with fail
        go_ret2
        exact ⟨rfl, hb2.out.below⟩
theorem rpo_5am (s : ByteArray) (x y : Int) (hz : s.size = 5) (HD : Hid (DgTo s s.size)) (sg : ((s[0].toNat : Int) != 43) = true) (sg2 : ((s[0].toNat : Int) != 45) = false) (sg3 : ((s[0].toNat : Int) == 45) = true) 
    (ex : pr s[1] s[2] = x) (ey : pr s[3] s[4] = y) (x0 : 0 ≤ x) (x9 : x ≤ 99) (y0 : 0 ≤ y) (y9 : y ≤ 99) (c1 : 23 < x) (w : World) :
    Calls Tryd.prog 11 #[.string s] w fun r w' => r = .returned (.tuple #[.int .i64 (0), .int .i64 (8)]) ∧ Below w.heap.size w w' := by
  have EX := Lib.hid ex
  have EY := Lib.hid ey
  clear ex ey
  unfold pr at EX EY
  have hzI : (s.size : Int) = 5 := by omega
  go_enter Tryd.func11, Tryd.ntmps11
  go_wp2_with fail
  go_loop [4] (fun i => ∃ k : Nat, 1 ≤ k ∧ (k : Int) ≤ 5 ∧ i = .int .i64 k ∧ Hid (DgTo s k)) (fun i => (5 - intOf i).toNat)
  case atStart => exact ⟨1, by omega, by omega, rfl, Lib.hid (fun i hi h1 h2 => by omega)⟩
  case round =>
    obtain ⟨k, h1, hk, rfl, ha⟩ := hrel
    by_cases hlt : (k : Int) < 5
    · have hi : k < s.size := by omega
      obtain ⟨a1, a2⟩ := HD.out k hi h1 hi
      have HX := Lib.hid (ha.out.step hi ⟨a1, a2⟩)
      go_wp2_with fail
      go_round
      case rel => exact ⟨k + 1, by omega, by omega, by go_num, HX⟩
      case measure => simp [intOf]; omega
    · obtain rfl : k = 5 := by omega
      clear HD ha
      have HB0 := Lib.hid (Bl.refl w)
      go_wp2_with fail
      go_loopw [5, 6] (fun n i wr => ((i = .int .i64 1 ∧ n = .int .i64 0)) ∧ Hid (Bl w wr)) (fun _ i _ => (5 - intOf i).toNat)
      case atStart => exact ⟨⟨rfl, rfl⟩, HB0⟩
      case round =>
        obtain ⟨⟨rfl, rfl⟩, hb⟩ := hrel
        go_upto_region 12 with fail
        refine wp_region_class (Bl w) (hb.out.call (Joins.below_draws _ _ 1)) (by kernel_rfl) (by kernel_rfl) ?_
        intro hne
        iterate 14 (go_big_quiet_step (fail))
        refine wpQuiet_nil ?_
        rintro _ ⟨zz, rfl⟩
        have hb2 := Lib.hid zz.ok
        rw [EX.out]
        go_wp2_with fail
        go_ret2
        exact ⟨rfl, hb2.out.below⟩
theorem rpo_5bp (s : ByteArray) (x y : Int) (hz : s.size = 5) (HD : Hid (DgTo s s.size)) (sg : ((s[0].toNat : Int) != 43) = false) (sg3 : ((s[0].toNat : Int) == 45) = false) 
    (ex : pr s[1] s[2] = x) (ey : pr s[3] s[4] = y) (x0 : 0 ≤ x) (x9 : x ≤ 99) (y0 : 0 ≤ y) (y9 : y ≤ 99) (c1 : x ≤ 23) (c2 : 59 < y) (w : World) :
    Calls Tryd.prog 11 #[.string s] w fun r w' => r = .returned (.tuple #[.int .i64 (0), .int .i64 (8)]) ∧ Below w.heap.size w w' := by
  have EX := Lib.hid ex
  have EY := Lib.hid ey
  clear ex ey
  unfold pr at EX EY
  have hzI : (s.size : Int) = 5 := by omega
  go_enter Tryd.func11, Tryd.ntmps11
  go_wp2_with fail
  go_loop [4] (fun i => ∃ k : Nat, 1 ≤ k ∧ (k : Int) ≤ 5 ∧ i = .int .i64 k ∧ Hid (DgTo s k)) (fun i => (5 - intOf i).toNat)
  case atStart => exact ⟨1, by omega, by omega, rfl, Lib.hid (fun i hi h1 h2 => by omega)⟩
  case round =>
    obtain ⟨k, h1, hk, rfl, ha⟩ := hrel
    by_cases hlt : (k : Int) < 5
    · have hi : k < s.size := by omega
      obtain ⟨a1, a2⟩ := HD.out k hi h1 hi
      have HX := Lib.hid (ha.out.step hi ⟨a1, a2⟩)
      go_wp2_with fail
      go_round
      case rel => exact ⟨k + 1, by omega, by omega, by go_num, HX⟩
      case measure => simp [intOf]; omega
    · obtain rfl : k = 5 := by omega
      clear HD ha
      have HB0 := Lib.hid (Bl.refl w)
      go_wp2_with fail
      go_loopw [5, 6] (fun n i wr => ((i = .int .i64 1 ∧ n = .int .i64 0) ∨ (i = .int .i64 3 ∧ n = .int .i64 x)) ∧ Hid (Bl w wr)) (fun _ i _ => (5 - intOf i).toNat)
      case atStart => exact ⟨Or.inl ⟨rfl, rfl⟩, HB0⟩
      case round =>
        obtain ⟨⟨rfl, rfl⟩ | ⟨rfl, rfl⟩, hb⟩ := hrel
        · go_upto_region 12 with fail
          refine wp_region_class (Bl w) (hb.out.call (Joins.below_draws _ _ 1)) (by kernel_rfl) (by kernel_rfl) ?_
          intro hne
          iterate 14 (go_big_quiet_step (fail))
          refine wpQuiet_nil ?_
          rintro _ ⟨zz, rfl⟩
          have hb2 := Lib.hid zz.ok
          rw [EX.out]
          go_wp2_with fail
          go_roundw
          case rel => exact ⟨Or.inr ⟨rfl, by first | rfl | simp⟩, hb2⟩
          case measure => simp [intOf]
        · go_upto_region 12 with fail
          refine wp_region_class (Bl w) (hb.out.call (Joins.below_draws _ _ 1)) (by kernel_rfl) (by kernel_rfl) ?_
          intro hne
          iterate 14 (go_big_quiet_step (fail))
          refine wpQuiet_nil ?_
          rintro _ ⟨zz, rfl⟩
          have hb2 := Lib.hid zz.ok
          rw [EY.out]
          go_wp2_with fail
          go_ret2
          exact ⟨rfl, hb2.out.below⟩
theorem rpo_5bm (s : ByteArray) (x y : Int) (hz : s.size = 5) (HD : Hid (DgTo s s.size)) (sg : ((s[0].toNat : Int) != 43) = true) (sg2 : ((s[0].toNat : Int) != 45) = false) (sg3 : ((s[0].toNat : Int) == 45) = true) 
    (ex : pr s[1] s[2] = x) (ey : pr s[3] s[4] = y) (x0 : 0 ≤ x) (x9 : x ≤ 99) (y0 : 0 ≤ y) (y9 : y ≤ 99) (c1 : x ≤ 23) (c2 : 59 < y) (w : World) :
    Calls Tryd.prog 11 #[.string s] w fun r w' => r = .returned (.tuple #[.int .i64 (0), .int .i64 (8)]) ∧ Below w.heap.size w w' := by
  have EX := Lib.hid ex
  have EY := Lib.hid ey
  clear ex ey
  unfold pr at EX EY
  have hzI : (s.size : Int) = 5 := by omega
  go_enter Tryd.func11, Tryd.ntmps11
  go_wp2_with fail
  go_loop [4] (fun i => ∃ k : Nat, 1 ≤ k ∧ (k : Int) ≤ 5 ∧ i = .int .i64 k ∧ Hid (DgTo s k)) (fun i => (5 - intOf i).toNat)
  case atStart => exact ⟨1, by omega, by omega, rfl, Lib.hid (fun i hi h1 h2 => by omega)⟩
  case round =>
    obtain ⟨k, h1, hk, rfl, ha⟩ := hrel
    by_cases hlt : (k : Int) < 5
    · have hi : k < s.size := by omega
      obtain ⟨a1, a2⟩ := HD.out k hi h1 hi
      have HX := Lib.hid (ha.out.step hi ⟨a1, a2⟩)
      go_wp2_with fail
      go_round
      case rel => exact ⟨k + 1, by omega, by omega, by go_num, HX⟩
      case measure => simp [intOf]; omega
    · obtain rfl : k = 5 := by omega
      clear HD ha
      have HB0 := Lib.hid (Bl.refl w)
      go_wp2_with fail
      go_loopw [5, 6] (fun n i wr => ((i = .int .i64 1 ∧ n = .int .i64 0) ∨ (i = .int .i64 3 ∧ n = .int .i64 x)) ∧ Hid (Bl w wr)) (fun _ i _ => (5 - intOf i).toNat)
      case atStart => exact ⟨Or.inl ⟨rfl, rfl⟩, HB0⟩
      case round =>
        obtain ⟨⟨rfl, rfl⟩ | ⟨rfl, rfl⟩, hb⟩ := hrel
        · go_upto_region 12 with fail
          refine wp_region_class (Bl w) (hb.out.call (Joins.below_draws _ _ 1)) (by kernel_rfl) (by kernel_rfl) ?_
          intro hne
          iterate 14 (go_big_quiet_step (fail))
          refine wpQuiet_nil ?_
          rintro _ ⟨zz, rfl⟩
          have hb2 := Lib.hid zz.ok
          rw [EX.out]
          go_wp2_with fail
          go_roundw
          case rel => exact ⟨Or.inr ⟨rfl, by first | rfl | simp⟩, hb2⟩
          case measure => simp [intOf]
        · go_upto_region 12 with fail
          refine wp_region_class (Bl w) (hb.out.call (Joins.below_draws _ _ 1)) (by kernel_rfl) (by kernel_rfl) ?_
          intro hne
          iterate 14 (go_big_quiet_step (fail))
          refine wpQuiet_nil ?_
          rintro _ ⟨zz, rfl⟩
          have hb2 := Lib.hid zz.ok
          rw [EY.out]
          go_wp2_with fail
          go_ret2
          exact ⟨rfl, hb2.out.below⟩
theorem rpo_5dm (s : ByteArray) (x y : Int) (hz : s.size = 5) (HD : Hid (DgTo s s.size)) (sg : ((s[0].toNat : Int) != 43) = true) (sg2 : ((s[0].toNat : Int) != 45) = false) (sg3 : ((s[0].toNat : Int) == 45) = true) 
    (ex : pr s[1] s[2] = x) (ey : pr s[3] s[4] = y) (x0 : 0 ≤ x) (x9 : x ≤ 99) (y0 : 0 ≤ y) (y9 : y ≤ 99) (c1 : x ≤ 23) (c2 : y ≤ 59) (c4 : ((x * 60 + y) * 60 == 0) = true) (w : World) :
    Calls Tryd.prog 11 #[.string s] w fun r w' => r = .returned (.tuple #[.int .i64 (0), .int .i64 (8)]) ∧ Below w.heap.size w w' := by
  have EX := Lib.hid ex
  have EY := Lib.hid ey
  clear ex ey
  unfold pr at EX EY
  have hzI : (s.size : Int) = 5 := by omega
  go_enter Tryd.func11, Tryd.ntmps11
  go_wp2_with fail
  go_loop [4] (fun i => ∃ k : Nat, 1 ≤ k ∧ (k : Int) ≤ 5 ∧ i = .int .i64 k ∧ Hid (DgTo s k)) (fun i => (5 - intOf i).toNat)
  case atStart => exact ⟨1, by omega, by omega, rfl, Lib.hid (fun i hi h1 h2 => by omega)⟩
  case round =>
    obtain ⟨k, h1, hk, rfl, ha⟩ := hrel
    by_cases hlt : (k : Int) < 5
    · have hi : k < s.size := by omega
      obtain ⟨a1, a2⟩ := HD.out k hi h1 hi
      have HX := Lib.hid (ha.out.step hi ⟨a1, a2⟩)
      go_wp2_with fail
      go_round
      case rel => exact ⟨k + 1, by omega, by omega, by go_num, HX⟩
      case measure => simp [intOf]; omega
    · obtain rfl : k = 5 := by omega
      clear HD ha
      have HB0 := Lib.hid (Bl.refl w)
      go_wp2_with fail
      go_loopw [5, 6] (fun n i wr => ((i = .int .i64 1 ∧ n = .int .i64 0) ∨ (i = .int .i64 3 ∧ n = .int .i64 x) ∨ (i = .int .i64 5 ∧ n = .int .i64 (x * 60 + y))) ∧ Hid (Bl w wr)) (fun _ i _ => (5 - intOf i).toNat)
      case atStart => exact ⟨Or.inl ⟨rfl, rfl⟩, HB0⟩
      case round =>
        obtain ⟨⟨rfl, rfl⟩ | ⟨rfl, rfl⟩ | ⟨rfl, rfl⟩, hb⟩ := hrel
        · go_upto_region 12 with fail
          refine wp_region_class (Bl w) (hb.out.call (Joins.below_draws _ _ 1)) (by kernel_rfl) (by kernel_rfl) ?_
          intro hne
          iterate 14 (go_big_quiet_step (fail))
          refine wpQuiet_nil ?_
          rintro _ ⟨zz, rfl⟩
          have hb2 := Lib.hid zz.ok
          rw [EX.out]
          go_wp2_with fail
          go_roundw
          case rel => exact ⟨Or.inr (Or.inl ⟨rfl, by first | rfl | simp⟩), hb2⟩
          case measure => simp [intOf]
        · go_upto_region 12 with fail
          refine wp_region_class (Bl w) (hb.out.call (Joins.below_draws _ _ 1)) (by kernel_rfl) (by kernel_rfl) ?_
          intro hne
          iterate 14 (go_big_quiet_step (fail))
          refine wpQuiet_nil ?_
          rintro _ ⟨zz, rfl⟩
          have hb2 := Lib.hid zz.ok
          rw [EY.out]
          go_wp2_with fail
          go_roundw
          case rel => exact ⟨Or.inr (Or.inr ⟨rfl, by first | rfl | simp⟩), hb2⟩
          case measure => simp [intOf]
        · go_wp2_with fail
          go_ret2
          exact ⟨by first | rfl | simp, hb.out.below⟩
theorem rpo_5em (s : ByteArray) (x y : Int) (hz : s.size = 5) (HD : Hid (DgTo s s.size)) (sg : ((s[0].toNat : Int) != 43) = true) (sg2 : ((s[0].toNat : Int) != 45) = false) (sg3 : ((s[0].toNat : Int) == 45) = true) 
    (ex : pr s[1] s[2] = x) (ey : pr s[3] s[4] = y) (x0 : 0 ≤ x) (x9 : x ≤ 99) (y0 : 0 ≤ y) (y9 : y ≤ 99) (c1 : x ≤ 23) (c2 : y ≤ 59) (c4 : ((x * 60 + y) * 60 == 0) = false) (w : World) :
    Calls Tryd.prog 11 #[.string s] w fun r w' => r = .returned (.tuple #[.int .i64 (-((x * 60 + y) * 60)), .int .i64 (0)]) ∧ Below w.heap.size w w' := by
  have EX := Lib.hid ex
  have EY := Lib.hid ey
  clear ex ey
  unfold pr at EX EY
  have hzI : (s.size : Int) = 5 := by omega
  go_enter Tryd.func11, Tryd.ntmps11
  go_wp2_with fail
  go_loop [4] (fun i => ∃ k : Nat, 1 ≤ k ∧ (k : Int) ≤ 5 ∧ i = .int .i64 k ∧ Hid (DgTo s k)) (fun i => (5 - intOf i).toNat)
  case atStart => exact ⟨1, by omega, by omega, rfl, Lib.hid (fun i hi h1 h2 => by omega)⟩
  case round =>
    obtain ⟨k, h1, hk, rfl, ha⟩ := hrel
    by_cases hlt : (k : Int) < 5
    · have hi : k < s.size := by omega
      obtain ⟨a1, a2⟩ := HD.out k hi h1 hi
      have HX := Lib.hid (ha.out.step hi ⟨a1, a2⟩)
      go_wp2_with fail
      go_round
      case rel => exact ⟨k + 1, by omega, by omega, by go_num, HX⟩
      case measure => simp [intOf]; omega
    · obtain rfl : k = 5 := by omega
      clear HD ha
      have HB0 := Lib.hid (Bl.refl w)
      go_wp2_with fail
      go_loopw [5, 6] (fun n i wr => ((i = .int .i64 1 ∧ n = .int .i64 0) ∨ (i = .int .i64 3 ∧ n = .int .i64 x) ∨ (i = .int .i64 5 ∧ n = .int .i64 (x * 60 + y))) ∧ Hid (Bl w wr)) (fun _ i _ => (5 - intOf i).toNat)
      case atStart => exact ⟨Or.inl ⟨rfl, rfl⟩, HB0⟩
      case round =>
        obtain ⟨⟨rfl, rfl⟩ | ⟨rfl, rfl⟩ | ⟨rfl, rfl⟩, hb⟩ := hrel
        · go_upto_region 12 with fail
          refine wp_region_class (Bl w) (hb.out.call (Joins.below_draws _ _ 1)) (by kernel_rfl) (by kernel_rfl) ?_
          intro hne
          iterate 14 (go_big_quiet_step (fail))
          refine wpQuiet_nil ?_
          rintro _ ⟨zz, rfl⟩
          have hb2 := Lib.hid zz.ok
          rw [EX.out]
          go_wp2_with fail
          go_roundw
          case rel => exact ⟨Or.inr (Or.inl ⟨rfl, by first | rfl | simp⟩), hb2⟩
          case measure => simp [intOf]
        · go_upto_region 12 with fail
          refine wp_region_class (Bl w) (hb.out.call (Joins.below_draws _ _ 1)) (by kernel_rfl) (by kernel_rfl) ?_
          intro hne
          iterate 14 (go_big_quiet_step (fail))
          refine wpQuiet_nil ?_
          rintro _ ⟨zz, rfl⟩
          have hb2 := Lib.hid zz.ok
          rw [EY.out]
          go_wp2_with fail
          go_roundw
          case rel => exact ⟨Or.inr (Or.inr ⟨rfl, by first | rfl | simp⟩), hb2⟩
          case measure => simp [intOf]
        · go_wp2_with fail
          go_ret2
          exact ⟨by first | rfl | simp, hb.out.below⟩
theorem rpo_5fp (s : ByteArray) (x y : Int) (hz : s.size = 5) (HD : Hid (DgTo s s.size)) (sg : ((s[0].toNat : Int) != 43) = false) (sg3 : ((s[0].toNat : Int) == 45) = false) 
    (ex : pr s[1] s[2] = x) (ey : pr s[3] s[4] = y) (x0 : 0 ≤ x) (x9 : x ≤ 99) (y0 : 0 ≤ y) (y9 : y ≤ 99) (c1 : x ≤ 23) (c2 : y ≤ 59) (w : World) :
    Calls Tryd.prog 11 #[.string s] w fun r w' => r = .returned (.tuple #[.int .i64 ((x * 60 + y) * 60), .int .i64 (0)]) ∧ Below w.heap.size w w' := by
  have EX := Lib.hid ex
  have EY := Lib.hid ey
  clear ex ey
  unfold pr at EX EY
  have hzI : (s.size : Int) = 5 := by omega
  go_enter Tryd.func11, Tryd.ntmps11
  go_wp2_with fail
  go_loop [4] (fun i => ∃ k : Nat, 1 ≤ k ∧ (k : Int) ≤ 5 ∧ i = .int .i64 k ∧ Hid (DgTo s k)) (fun i => (5 - intOf i).toNat)
  case atStart => exact ⟨1, by omega, by omega, rfl, Lib.hid (fun i hi h1 h2 => by omega)⟩
  case round =>
    obtain ⟨k, h1, hk, rfl, ha⟩ := hrel
    by_cases hlt : (k : Int) < 5
    · have hi : k < s.size := by omega
      obtain ⟨a1, a2⟩ := HD.out k hi h1 hi
      have HX := Lib.hid (ha.out.step hi ⟨a1, a2⟩)
      go_wp2_with fail
      go_round
      case rel => exact ⟨k + 1, by omega, by omega, by go_num, HX⟩
      case measure => simp [intOf]; omega
    · obtain rfl : k = 5 := by omega
      clear HD ha
      have HB0 := Lib.hid (Bl.refl w)
      go_wp2_with fail
      go_loopw [5, 6] (fun n i wr => ((i = .int .i64 1 ∧ n = .int .i64 0) ∨ (i = .int .i64 3 ∧ n = .int .i64 x) ∨ (i = .int .i64 5 ∧ n = .int .i64 (x * 60 + y))) ∧ Hid (Bl w wr)) (fun _ i _ => (5 - intOf i).toNat)
      case atStart => exact ⟨Or.inl ⟨rfl, rfl⟩, HB0⟩
      case round =>
        obtain ⟨⟨rfl, rfl⟩ | ⟨rfl, rfl⟩ | ⟨rfl, rfl⟩, hb⟩ := hrel
        · go_upto_region 12 with fail
          refine wp_region_class (Bl w) (hb.out.call (Joins.below_draws _ _ 1)) (by kernel_rfl) (by kernel_rfl) ?_
          intro hne
          iterate 14 (go_big_quiet_step (fail))
          refine wpQuiet_nil ?_
          rintro _ ⟨zz, rfl⟩
          have hb2 := Lib.hid zz.ok
          rw [EX.out]
          go_wp2_with fail
          go_roundw
          case rel => exact ⟨Or.inr (Or.inl ⟨rfl, by first | rfl | simp⟩), hb2⟩
          case measure => simp [intOf]
        · go_upto_region 12 with fail
          refine wp_region_class (Bl w) (hb.out.call (Joins.below_draws _ _ 1)) (by kernel_rfl) (by kernel_rfl) ?_
          intro hne
          iterate 14 (go_big_quiet_step (fail))
          refine wpQuiet_nil ?_
          rintro _ ⟨zz, rfl⟩
          have hb2 := Lib.hid zz.ok
          rw [EY.out]
          go_wp2_with fail
          go_roundw
          case rel => exact ⟨Or.inr (Or.inr ⟨rfl, by first | rfl | simp⟩), hb2⟩
          case measure => simp [intOf]
        · go_wp2_with fail
          go_ret2
          exact ⟨by first | rfl | simp, hb.out.below⟩
theorem rpo_sign7 (s : ByteArray) (hz : s.size = 7) (b1 : ((s[0].toNat : Int) != 43) = true) (b2 : ((s[0].toNat : Int) != 45) = true) (w : World) :
    Calls Tryd.prog 11 #[.string s] w fun r w' => r = .returned (.tuple #[.int .i64 0, .int .i64 4]) ∧ Below w.heap.size w w' := by
  have hzI : (s.size : Int) = 7 := by omega
  go_enter Tryd.func11, Tryd.ntmps11
  go_wp2_with fail
  go_ret2
  exact ⟨rfl, Below.refl _ _⟩
theorem rpo_dig7p (s : ByteArray) (hz : s.size = 7) (sg : ((s[0].toNat : Int) != 43) = false) (sg3 : ((s[0].toNat : Int) == 45) = false) (HN : Hid (¬ DgTo s s.size)) (w : World) :
    Calls Tryd.prog 11 #[.string s] w fun r w' => r = .returned (.tuple #[.int .i64 0, .int .i64 4]) ∧ Below w.heap.size w w' := by
  have hzI : (s.size : Int) = 7 := by omega
  go_enter Tryd.func11, Tryd.ntmps11
  go_wp2_with fail
  go_loop [4] (fun i => ∃ k : Nat, 1 ≤ k ∧ (k : Int) ≤ 7 ∧ i = .int .i64 k ∧ Hid (DgTo s k)) (fun i => (7 - intOf i).toNat)
  case atStart => exact ⟨1, by omega, by omega, rfl, Lib.hid (fun i hi h1 h2 => by omega)⟩
  case round =>
    obtain ⟨k, h1, hk, rfl, ha⟩ := hrel
    by_cases hlt : (k : Int) < 7
    · have hi : k < s.size := by omega
      have HX := Lib.hid (fun hd => ha.out.step hi hd)
      by_cases a1 : 48 ≤ s[k].toNat
      · by_cases a2 : s[k].toNat ≤ 57
        · go_wp2_with fail
          go_round
          case rel => exact ⟨k + 1, by omega, by omega, by go_num, Lib.hid (HX.out ⟨a1, a2⟩)⟩
          case measure => simp [intOf]; omega
        · go_wp2_with fail
          go_ret2
          exact ⟨rfl, Below.refl _ _⟩
      · go_wp2_with fail
        go_ret2
        exact ⟨rfl, Below.refl _ _⟩
    · exfalso
      have e : k = s.size := by omega
      subst e
      exact HN.out ha.out
theorem rpo_dig7m (s : ByteArray) (hz : s.size = 7) (sg : ((s[0].toNat : Int) != 43) = true) (sg2 : ((s[0].toNat : Int) != 45) = false) (sg3 : ((s[0].toNat : Int) == 45) = true) (HN : Hid (¬ DgTo s s.size)) (w : World) :
    Calls Tryd.prog 11 #[.string s] w fun r w' => r = .returned (.tuple #[.int .i64 0, .int .i64 4]) ∧ Below w.heap.size w w' := by
  have hzI : (s.size : Int) = 7 := by omega
  go_enter Tryd.func11, Tryd.ntmps11
  go_wp2_with fail
  go_loop [4] (fun i => ∃ k : Nat, 1 ≤ k ∧ (k : Int) ≤ 7 ∧ i = .int .i64 k ∧ Hid (DgTo s k)) (fun i => (7 - intOf i).toNat)
  case atStart => exact ⟨1, by omega, by omega, rfl, Lib.hid (fun i hi h1 h2 => by omega)⟩
  case round =>
    obtain ⟨k, h1, hk, rfl, ha⟩ := hrel
    by_cases hlt : (k : Int) < 7
    · have hi : k < s.size := by omega
      have HX := Lib.hid (fun hd => ha.out.step hi hd)
      by_cases a1 : 48 ≤ s[k].toNat
      · by_cases a2 : s[k].toNat ≤ 57
        · go_wp2_with fail
          go_round
          case rel => exact ⟨k + 1, by omega, by omega, by go_num, Lib.hid (HX.out ⟨a1, a2⟩)⟩
          case measure => simp [intOf]; omega
        · go_wp2_with fail
          go_ret2
          exact ⟨rfl, Below.refl _ _⟩
      · go_wp2_with fail
        go_ret2
        exact ⟨rfl, Below.refl _ _⟩
    · exfalso
      have e : k = s.size := by omega
      subst e
      exact HN.out ha.out
theorem rpo_7ap (s : ByteArray) (x y z : Int) (hz : s.size = 7) (HD : Hid (DgTo s s.size)) (sg : ((s[0].toNat : Int) != 43) = false) (sg3 : ((s[0].toNat : Int) == 45) = false) 
    (ex : pr s[1] s[2] = x) (ey : pr s[3] s[4] = y) (ez : pr s[5] s[6] = z) (x0 : 0 ≤ x) (x9 : x ≤ 99) (y0 : 0 ≤ y) (y9 : y ≤ 99) (z0 : 0 ≤ z) (z9 : z ≤ 99) (c1 : 23 < x) (w : World) :
    Calls Tryd.prog 11 #[.string s] w fun r w' => r = .returned (.tuple #[.int .i64 (0), .int .i64 (8)]) ∧ Below w.heap.size w w' := by
  have EX := Lib.hid ex
  have EY := Lib.hid ey
  have EZ := Lib.hid ez
  clear ez
  clear ex ey
  unfold pr at EX EY EZ
  have hzI : (s.size : Int) = 7 := by omega
  go_enter Tryd.func11, Tryd.ntmps11
  go_wp2_with fail
  go_loop [4] (fun i => ∃ k : Nat, 1 ≤ k ∧ (k : Int) ≤ 7 ∧ i = .int .i64 k ∧ Hid (DgTo s k)) (fun i => (7 - intOf i).toNat)
  case atStart => exact ⟨1, by omega, by omega, rfl, Lib.hid (fun i hi h1 h2 => by omega)⟩
  case round =>
    obtain ⟨k, h1, hk, rfl, ha⟩ := hrel
    by_cases hlt : (k : Int) < 7
    · have hi : k < s.size := by omega
      obtain ⟨a1, a2⟩ := HD.out k hi h1 hi
      have HX := Lib.hid (ha.out.step hi ⟨a1, a2⟩)
      go_wp2_with fail
      go_round
      case rel => exact ⟨k + 1, by omega, by omega, by go_num, HX⟩
      case measure => simp [intOf]; omega
    · obtain rfl : k = 7 := by omega
      clear HD ha
      have HB0 := Lib.hid (Bl.refl w)
      go_wp2_with fail
      go_loopw [5, 6] (fun n i wr => ((i = .int .i64 1 ∧ n = .int .i64 0)) ∧ Hid (Bl w wr)) (fun _ i _ => (7 - intOf i).toNat)
      case atStart => exact ⟨⟨rfl, rfl⟩, HB0⟩
      case round =>
        obtain ⟨⟨rfl, rfl⟩, hb⟩ := hrel
        go_upto_region 12 with fail
        refine wp_region_class (Bl w) (hb.out.call (Joins.below_draws _ _ 1)) (by kernel_rfl) (by kernel_rfl) ?_
        intro hne
        iterate 14 (go_big_quiet_step (fail))
        refine wpQuiet_nil ?_
        rintro _ ⟨zz, rfl⟩
        have hb2 := Lib.hid zz.ok
        rw [EX.out]
        go_wp2_with fail
        go_ret2
        exact ⟨rfl, hb2.out.below⟩
theorem rpo_7am (s : ByteArray) (x y z : Int) (hz : s.size = 7) (HD : Hid (DgTo s s.size)) (sg : ((s[0].toNat : Int) != 43) = true) (sg2 : ((s[0].toNat : Int) != 45) = false) (sg3 : ((s[0].toNat : Int) == 45) = true) 
    (ex : pr s[1] s[2] = x) (ey : pr s[3] s[4] = y) (ez : pr s[5] s[6] = z) (x0 : 0 ≤ x) (x9 : x ≤ 99) (y0 : 0 ≤ y) (y9 : y ≤ 99) (z0 : 0 ≤ z) (z9 : z ≤ 99) (c1 : 23 < x) (w : World) :
    Calls Tryd.prog 11 #[.string s] w fun r w' => r = .returned (.tuple #[.int .i64 (0), .int .i64 (8)]) ∧ Below w.heap.size w w' := by
  have EX := Lib.hid ex
  have EY := Lib.hid ey
  have EZ := Lib.hid ez
  clear ez
  clear ex ey
  unfold pr at EX EY EZ
  have hzI : (s.size : Int) = 7 := by omega
  go_enter Tryd.func11, Tryd.ntmps11
  go_wp2_with fail
  go_loop [4] (fun i => ∃ k : Nat, 1 ≤ k ∧ (k : Int) ≤ 7 ∧ i = .int .i64 k ∧ Hid (DgTo s k)) (fun i => (7 - intOf i).toNat)
  case atStart => exact ⟨1, by omega, by omega, rfl, Lib.hid (fun i hi h1 h2 => by omega)⟩
  case round =>
    obtain ⟨k, h1, hk, rfl, ha⟩ := hrel
    by_cases hlt : (k : Int) < 7
    · have hi : k < s.size := by omega
      obtain ⟨a1, a2⟩ := HD.out k hi h1 hi
      have HX := Lib.hid (ha.out.step hi ⟨a1, a2⟩)
      go_wp2_with fail
      go_round
      case rel => exact ⟨k + 1, by omega, by omega, by go_num, HX⟩
      case measure => simp [intOf]; omega
    · obtain rfl : k = 7 := by omega
      clear HD ha
      have HB0 := Lib.hid (Bl.refl w)
      go_wp2_with fail
      go_loopw [5, 6] (fun n i wr => ((i = .int .i64 1 ∧ n = .int .i64 0)) ∧ Hid (Bl w wr)) (fun _ i _ => (7 - intOf i).toNat)
      case atStart => exact ⟨⟨rfl, rfl⟩, HB0⟩
      case round =>
        obtain ⟨⟨rfl, rfl⟩, hb⟩ := hrel
        go_upto_region 12 with fail
        refine wp_region_class (Bl w) (hb.out.call (Joins.below_draws _ _ 1)) (by kernel_rfl) (by kernel_rfl) ?_
        intro hne
        iterate 14 (go_big_quiet_step (fail))
        refine wpQuiet_nil ?_
        rintro _ ⟨zz, rfl⟩
        have hb2 := Lib.hid zz.ok
        rw [EX.out]
        go_wp2_with fail
        go_ret2
        exact ⟨rfl, hb2.out.below⟩
theorem rpo_7bp (s : ByteArray) (x y z : Int) (hz : s.size = 7) (HD : Hid (DgTo s s.size)) (sg : ((s[0].toNat : Int) != 43) = false) (sg3 : ((s[0].toNat : Int) == 45) = false) 
    (ex : pr s[1] s[2] = x) (ey : pr s[3] s[4] = y) (ez : pr s[5] s[6] = z) (x0 : 0 ≤ x) (x9 : x ≤ 99) (y0 : 0 ≤ y) (y9 : y ≤ 99) (z0 : 0 ≤ z) (z9 : z ≤ 99) (c1 : x ≤ 23) (c2 : 59 < y) (w : World) :
    Calls Tryd.prog 11 #[.string s] w fun r w' => r = .returned (.tuple #[.int .i64 (0), .int .i64 (8)]) ∧ Below w.heap.size w w' := by
  have EX := Lib.hid ex
  have EY := Lib.hid ey
  have EZ := Lib.hid ez
  clear ez
  clear ex ey
  unfold pr at EX EY EZ
  have hzI : (s.size : Int) = 7 := by omega
  go_enter Tryd.func11, Tryd.ntmps11
  go_wp2_with fail
  go_loop [4] (fun i => ∃ k : Nat, 1 ≤ k ∧ (k : Int) ≤ 7 ∧ i = .int .i64 k ∧ Hid (DgTo s k)) (fun i => (7 - intOf i).toNat)
  case atStart => exact ⟨1, by omega, by omega, rfl, Lib.hid (fun i hi h1 h2 => by omega)⟩
  case round =>
    obtain ⟨k, h1, hk, rfl, ha⟩ := hrel
    by_cases hlt : (k : Int) < 7
    · have hi : k < s.size := by omega
      obtain ⟨a1, a2⟩ := HD.out k hi h1 hi
      have HX := Lib.hid (ha.out.step hi ⟨a1, a2⟩)
      go_wp2_with fail
      go_round
      case rel => exact ⟨k + 1, by omega, by omega, by go_num, HX⟩
      case measure => simp [intOf]; omega
    · obtain rfl : k = 7 := by omega
      clear HD ha
      have HB0 := Lib.hid (Bl.refl w)
      go_wp2_with fail
      go_loopw [5, 6] (fun n i wr => ((i = .int .i64 1 ∧ n = .int .i64 0) ∨ (i = .int .i64 3 ∧ n = .int .i64 x)) ∧ Hid (Bl w wr)) (fun _ i _ => (7 - intOf i).toNat)
      case atStart => exact ⟨Or.inl ⟨rfl, rfl⟩, HB0⟩
      case round =>
        obtain ⟨⟨rfl, rfl⟩ | ⟨rfl, rfl⟩, hb⟩ := hrel
        · go_upto_region 12 with fail
          refine wp_region_class (Bl w) (hb.out.call (Joins.below_draws _ _ 1)) (by kernel_rfl) (by kernel_rfl) ?_
          intro hne
          iterate 14 (go_big_quiet_step (fail))
          refine wpQuiet_nil ?_
          rintro _ ⟨zz, rfl⟩
          have hb2 := Lib.hid zz.ok
          rw [EX.out]
          go_wp2_with fail
          go_roundw
          case rel => exact ⟨Or.inr ⟨rfl, by first | rfl | simp⟩, hb2⟩
          case measure => simp [intOf]
        · go_upto_region 12 with fail
          refine wp_region_class (Bl w) (hb.out.call (Joins.below_draws _ _ 1)) (by kernel_rfl) (by kernel_rfl) ?_
          intro hne
          iterate 14 (go_big_quiet_step (fail))
          refine wpQuiet_nil ?_
          rintro _ ⟨zz, rfl⟩
          have hb2 := Lib.hid zz.ok
          rw [EY.out]
          go_wp2_with fail
          go_ret2
          exact ⟨rfl, hb2.out.below⟩
theorem rpo_7bm (s : ByteArray) (x y z : Int) (hz : s.size = 7) (HD : Hid (DgTo s s.size)) (sg : ((s[0].toNat : Int) != 43) = true) (sg2 : ((s[0].toNat : Int) != 45) = false) (sg3 : ((s[0].toNat : Int) == 45) = true) 
    (ex : pr s[1] s[2] = x) (ey : pr s[3] s[4] = y) (ez : pr s[5] s[6] = z) (x0 : 0 ≤ x) (x9 : x ≤ 99) (y0 : 0 ≤ y) (y9 : y ≤ 99) (z0 : 0 ≤ z) (z9 : z ≤ 99) (c1 : x ≤ 23) (c2 : 59 < y) (w : World) :
    Calls Tryd.prog 11 #[.string s] w fun r w' => r = .returned (.tuple #[.int .i64 (0), .int .i64 (8)]) ∧ Below w.heap.size w w' := by
  have EX := Lib.hid ex
  have EY := Lib.hid ey
  have EZ := Lib.hid ez
  clear ez
  clear ex ey
  unfold pr at EX EY EZ
  have hzI : (s.size : Int) = 7 := by omega
  go_enter Tryd.func11, Tryd.ntmps11
  go_wp2_with fail
  go_loop [4] (fun i => ∃ k : Nat, 1 ≤ k ∧ (k : Int) ≤ 7 ∧ i = .int .i64 k ∧ Hid (DgTo s k)) (fun i => (7 - intOf i).toNat)
  case atStart => exact ⟨1, by omega, by omega, rfl, Lib.hid (fun i hi h1 h2 => by omega)⟩
  case round =>
    obtain ⟨k, h1, hk, rfl, ha⟩ := hrel
    by_cases hlt : (k : Int) < 7
    · have hi : k < s.size := by omega
      obtain ⟨a1, a2⟩ := HD.out k hi h1 hi
      have HX := Lib.hid (ha.out.step hi ⟨a1, a2⟩)
      go_wp2_with fail
      go_round
      case rel => exact ⟨k + 1, by omega, by omega, by go_num, HX⟩
      case measure => simp [intOf]; omega
    · obtain rfl : k = 7 := by omega
      clear HD ha
      have HB0 := Lib.hid (Bl.refl w)
      go_wp2_with fail
      go_loopw [5, 6] (fun n i wr => ((i = .int .i64 1 ∧ n = .int .i64 0) ∨ (i = .int .i64 3 ∧ n = .int .i64 x)) ∧ Hid (Bl w wr)) (fun _ i _ => (7 - intOf i).toNat)
      case atStart => exact ⟨Or.inl ⟨rfl, rfl⟩, HB0⟩
      case round =>
        obtain ⟨⟨rfl, rfl⟩ | ⟨rfl, rfl⟩, hb⟩ := hrel
        · go_upto_region 12 with fail
          refine wp_region_class (Bl w) (hb.out.call (Joins.below_draws _ _ 1)) (by kernel_rfl) (by kernel_rfl) ?_
          intro hne
          iterate 14 (go_big_quiet_step (fail))
          refine wpQuiet_nil ?_
          rintro _ ⟨zz, rfl⟩
          have hb2 := Lib.hid zz.ok
          rw [EX.out]
          go_wp2_with fail
          go_roundw
          case rel => exact ⟨Or.inr ⟨rfl, by first | rfl | simp⟩, hb2⟩
          case measure => simp [intOf]
        · go_upto_region 12 with fail
          refine wp_region_class (Bl w) (hb.out.call (Joins.below_draws _ _ 1)) (by kernel_rfl) (by kernel_rfl) ?_
          intro hne
          iterate 14 (go_big_quiet_step (fail))
          refine wpQuiet_nil ?_
          rintro _ ⟨zz, rfl⟩
          have hb2 := Lib.hid zz.ok
          rw [EY.out]
          go_wp2_with fail
          go_ret2
          exact ⟨rfl, hb2.out.below⟩
theorem rpo_7cp (s : ByteArray) (x y z : Int) (hz : s.size = 7) (HD : Hid (DgTo s s.size)) (sg : ((s[0].toNat : Int) != 43) = false) (sg3 : ((s[0].toNat : Int) == 45) = false) 
    (ex : pr s[1] s[2] = x) (ey : pr s[3] s[4] = y) (ez : pr s[5] s[6] = z) (x0 : 0 ≤ x) (x9 : x ≤ 99) (y0 : 0 ≤ y) (y9 : y ≤ 99) (z0 : 0 ≤ z) (z9 : z ≤ 99) (c1 : x ≤ 23) (c2 : y ≤ 59) (c3 : 59 < z) (w : World) :
    Calls Tryd.prog 11 #[.string s] w fun r w' => r = .returned (.tuple #[.int .i64 (0), .int .i64 (8)]) ∧ Below w.heap.size w w' := by
  have EX := Lib.hid ex
  have EY := Lib.hid ey
  have EZ := Lib.hid ez
  clear ez
  clear ex ey
  unfold pr at EX EY EZ
  have hzI : (s.size : Int) = 7 := by omega
  go_enter Tryd.func11, Tryd.ntmps11
  go_wp2_with fail
  go_loop [4] (fun i => ∃ k : Nat, 1 ≤ k ∧ (k : Int) ≤ 7 ∧ i = .int .i64 k ∧ Hid (DgTo s k)) (fun i => (7 - intOf i).toNat)
  case atStart => exact ⟨1, by omega, by omega, rfl, Lib.hid (fun i hi h1 h2 => by omega)⟩
  case round =>
    obtain ⟨k, h1, hk, rfl, ha⟩ := hrel
    by_cases hlt : (k : Int) < 7
    · have hi : k < s.size := by omega
      obtain ⟨a1, a2⟩ := HD.out k hi h1 hi
      have HX := Lib.hid (ha.out.step hi ⟨a1, a2⟩)
      go_wp2_with fail
      go_round
      case rel => exact ⟨k + 1, by omega, by omega, by go_num, HX⟩
      case measure => simp [intOf]; omega
    · obtain rfl : k = 7 := by omega
      clear HD ha
      have HB0 := Lib.hid (Bl.refl w)
      go_wp2_with fail
      go_loopw [5, 6] (fun n i wr => ((i = .int .i64 1 ∧ n = .int .i64 0) ∨ (i = .int .i64 3 ∧ n = .int .i64 x) ∨ (i = .int .i64 5 ∧ n = .int .i64 (x * 60 + y))) ∧ Hid (Bl w wr)) (fun _ i _ => (7 - intOf i).toNat)
      case atStart => exact ⟨Or.inl ⟨rfl, rfl⟩, HB0⟩
      case round =>
        obtain ⟨⟨rfl, rfl⟩ | ⟨rfl, rfl⟩ | ⟨rfl, rfl⟩, hb⟩ := hrel
        · go_upto_region 12 with fail
          refine wp_region_class (Bl w) (hb.out.call (Joins.below_draws _ _ 1)) (by kernel_rfl) (by kernel_rfl) ?_
          intro hne
          iterate 14 (go_big_quiet_step (fail))
          refine wpQuiet_nil ?_
          rintro _ ⟨zz, rfl⟩
          have hb2 := Lib.hid zz.ok
          rw [EX.out]
          go_wp2_with fail
          go_roundw
          case rel => exact ⟨Or.inr (Or.inl ⟨rfl, by first | rfl | simp⟩), hb2⟩
          case measure => simp [intOf]
        · go_upto_region 12 with fail
          refine wp_region_class (Bl w) (hb.out.call (Joins.below_draws _ _ 1)) (by kernel_rfl) (by kernel_rfl) ?_
          intro hne
          iterate 14 (go_big_quiet_step (fail))
          refine wpQuiet_nil ?_
          rintro _ ⟨zz, rfl⟩
          have hb2 := Lib.hid zz.ok
          rw [EY.out]
          go_wp2_with fail
          go_roundw
          case rel => exact ⟨Or.inr (Or.inr ⟨rfl, by first | rfl | simp⟩), hb2⟩
          case measure => simp [intOf]
        · go_upto_region 12 with fail
          refine wp_region_class (Bl w) (hb.out.call (Joins.below_draws _ _ 1)) (by kernel_rfl) (by kernel_rfl) ?_
          intro hne
          iterate 14 (go_big_quiet_step (fail))
          refine wpQuiet_nil ?_
          rintro _ ⟨zz, rfl⟩
          have hb2 := Lib.hid zz.ok
          rw [EZ.out]
          go_wp2_with fail
          go_ret2
          exact ⟨rfl, hb2.out.below⟩
theorem rpo_7cm (s : ByteArray) (x y z : Int) (hz : s.size = 7) (HD : Hid (DgTo s s.size)) (sg : ((s[0].toNat : Int) != 43) = true) (sg2 : ((s[0].toNat : Int) != 45) = false) (sg3 : ((s[0].toNat : Int) == 45) = true) 
    (ex : pr s[1] s[2] = x) (ey : pr s[3] s[4] = y) (ez : pr s[5] s[6] = z) (x0 : 0 ≤ x) (x9 : x ≤ 99) (y0 : 0 ≤ y) (y9 : y ≤ 99) (z0 : 0 ≤ z) (z9 : z ≤ 99) (c1 : x ≤ 23) (c2 : y ≤ 59) (c3 : 59 < z) (w : World) :
    Calls Tryd.prog 11 #[.string s] w fun r w' => r = .returned (.tuple #[.int .i64 (0), .int .i64 (8)]) ∧ Below w.heap.size w w' := by
  have EX := Lib.hid ex
  have EY := Lib.hid ey
  have EZ := Lib.hid ez
  clear ez
  clear ex ey
  unfold pr at EX EY EZ
  have hzI : (s.size : Int) = 7 := by omega
  go_enter Tryd.func11, Tryd.ntmps11
  go_wp2_with fail
  go_loop [4] (fun i => ∃ k : Nat, 1 ≤ k ∧ (k : Int) ≤ 7 ∧ i = .int .i64 k ∧ Hid (DgTo s k)) (fun i => (7 - intOf i).toNat)
  case atStart => exact ⟨1, by omega, by omega, rfl, Lib.hid (fun i hi h1 h2 => by omega)⟩
  case round =>
    obtain ⟨k, h1, hk, rfl, ha⟩ := hrel
    by_cases hlt : (k : Int) < 7
    · have hi : k < s.size := by omega
      obtain ⟨a1, a2⟩ := HD.out k hi h1 hi
      have HX := Lib.hid (ha.out.step hi ⟨a1, a2⟩)
      go_wp2_with fail
      go_round
      case rel => exact ⟨k + 1, by omega, by omega, by go_num, HX⟩
      case measure => simp [intOf]; omega
    · obtain rfl : k = 7 := by omega
      clear HD ha
      have HB0 := Lib.hid (Bl.refl w)
      go_wp2_with fail
      go_loopw [5, 6] (fun n i wr => ((i = .int .i64 1 ∧ n = .int .i64 0) ∨ (i = .int .i64 3 ∧ n = .int .i64 x) ∨ (i = .int .i64 5 ∧ n = .int .i64 (x * 60 + y))) ∧ Hid (Bl w wr)) (fun _ i _ => (7 - intOf i).toNat)
      case atStart => exact ⟨Or.inl ⟨rfl, rfl⟩, HB0⟩
      case round =>
        obtain ⟨⟨rfl, rfl⟩ | ⟨rfl, rfl⟩ | ⟨rfl, rfl⟩, hb⟩ := hrel
        · go_upto_region 12 with fail
          refine wp_region_class (Bl w) (hb.out.call (Joins.below_draws _ _ 1)) (by kernel_rfl) (by kernel_rfl) ?_
          intro hne
          iterate 14 (go_big_quiet_step (fail))
          refine wpQuiet_nil ?_
          rintro _ ⟨zz, rfl⟩
          have hb2 := Lib.hid zz.ok
          rw [EX.out]
          go_wp2_with fail
          go_roundw
          case rel => exact ⟨Or.inr (Or.inl ⟨rfl, by first | rfl | simp⟩), hb2⟩
          case measure => simp [intOf]
        · go_upto_region 12 with fail
          refine wp_region_class (Bl w) (hb.out.call (Joins.below_draws _ _ 1)) (by kernel_rfl) (by kernel_rfl) ?_
          intro hne
          iterate 14 (go_big_quiet_step (fail))
          refine wpQuiet_nil ?_
          rintro _ ⟨zz, rfl⟩
          have hb2 := Lib.hid zz.ok
          rw [EY.out]
          go_wp2_with fail
          go_roundw
          case rel => exact ⟨Or.inr (Or.inr ⟨rfl, by first | rfl | simp⟩), hb2⟩
          case measure => simp [intOf]
        · go_upto_region 12 with fail
          refine wp_region_class (Bl w) (hb.out.call (Joins.below_draws _ _ 1)) (by kernel_rfl) (by kernel_rfl) ?_
          intro hne
          iterate 14 (go_big_quiet_step (fail))
          refine wpQuiet_nil ?_
          rintro _ ⟨zz, rfl⟩
          have hb2 := Lib.hid zz.ok
          rw [EZ.out]
          go_wp2_with fail
          go_ret2
          exact ⟨rfl, hb2.out.below⟩
theorem rpo_7dm (s : ByteArray) (x y z : Int) (hz : s.size = 7) (HD : Hid (DgTo s s.size)) (sg : ((s[0].toNat : Int) != 43) = true) (sg2 : ((s[0].toNat : Int) != 45) = false) (sg3 : ((s[0].toNat : Int) == 45) = true) 
    (ex : pr s[1] s[2] = x) (ey : pr s[3] s[4] = y) (ez : pr s[5] s[6] = z) (x0 : 0 ≤ x) (x9 : x ≤ 99) (y0 : 0 ≤ y) (y9 : y ≤ 99) (z0 : 0 ≤ z) (z9 : z ≤ 99) (c1 : x ≤ 23) (c2 : y ≤ 59) (c3 : z ≤ 59) (c4 : ((x * 60 + y) * 60 + z == 0) = true) (w : World) :
    Calls Tryd.prog 11 #[.string s] w fun r w' => r = .returned (.tuple #[.int .i64 (0), .int .i64 (8)]) ∧ Below w.heap.size w w' := by
  have EX := Lib.hid ex
  have EY := Lib.hid ey
  have EZ := Lib.hid ez
  clear ez
  clear ex ey
  unfold pr at EX EY EZ
  have hzI : (s.size : Int) = 7 := by omega
  go_enter Tryd.func11, Tryd.ntmps11
  go_wp2_with fail
  go_loop [4] (fun i => ∃ k : Nat, 1 ≤ k ∧ (k : Int) ≤ 7 ∧ i = .int .i64 k ∧ Hid (DgTo s k)) (fun i => (7 - intOf i).toNat)
  case atStart => exact ⟨1, by omega, by omega, rfl, Lib.hid (fun i hi h1 h2 => by omega)⟩
  case round =>
    obtain ⟨k, h1, hk, rfl, ha⟩ := hrel
    by_cases hlt : (k : Int) < 7
    · have hi : k < s.size := by omega
      obtain ⟨a1, a2⟩ := HD.out k hi h1 hi
      have HX := Lib.hid (ha.out.step hi ⟨a1, a2⟩)
      go_wp2_with fail
      go_round
      case rel => exact ⟨k + 1, by omega, by omega, by go_num, HX⟩
      case measure => simp [intOf]; omega
    · obtain rfl : k = 7 := by omega
      clear HD ha
      have HB0 := Lib.hid (Bl.refl w)
      go_wp2_with fail
      go_loopw [5, 6] (fun n i wr => ((i = .int .i64 1 ∧ n = .int .i64 0) ∨ (i = .int .i64 3 ∧ n = .int .i64 x) ∨ (i = .int .i64 5 ∧ n = .int .i64 (x * 60 + y)) ∨ (i = .int .i64 7 ∧ n = .int .i64 ((x * 60 + y) * 60 + z))) ∧ Hid (Bl w wr)) (fun _ i _ => (7 - intOf i).toNat)
      case atStart => exact ⟨Or.inl ⟨rfl, rfl⟩, HB0⟩
      case round =>
        obtain ⟨⟨rfl, rfl⟩ | ⟨rfl, rfl⟩ | ⟨rfl, rfl⟩ | ⟨rfl, rfl⟩, hb⟩ := hrel
        · go_upto_region 12 with fail
          refine wp_region_class (Bl w) (hb.out.call (Joins.below_draws _ _ 1)) (by kernel_rfl) (by kernel_rfl) ?_
          intro hne
          iterate 14 (go_big_quiet_step (fail))
          refine wpQuiet_nil ?_
          rintro _ ⟨zz, rfl⟩
          have hb2 := Lib.hid zz.ok
          rw [EX.out]
          go_wp2_with fail
          go_roundw
          case rel => exact ⟨Or.inr (Or.inl ⟨rfl, by first | rfl | simp⟩), hb2⟩
          case measure => simp [intOf]
        · go_upto_region 12 with fail
          refine wp_region_class (Bl w) (hb.out.call (Joins.below_draws _ _ 1)) (by kernel_rfl) (by kernel_rfl) ?_
          intro hne
          iterate 14 (go_big_quiet_step (fail))
          refine wpQuiet_nil ?_
          rintro _ ⟨zz, rfl⟩
          have hb2 := Lib.hid zz.ok
          rw [EY.out]
          go_wp2_with fail
          go_roundw
          case rel => exact ⟨Or.inr (Or.inr (Or.inl ⟨rfl, by first | rfl | simp⟩)), hb2⟩
          case measure => simp [intOf]
        · go_upto_region 12 with fail
          refine wp_region_class (Bl w) (hb.out.call (Joins.below_draws _ _ 1)) (by kernel_rfl) (by kernel_rfl) ?_
          intro hne
          iterate 14 (go_big_quiet_step (fail))
          refine wpQuiet_nil ?_
          rintro _ ⟨zz, rfl⟩
          have hb2 := Lib.hid zz.ok
          rw [EZ.out]
          go_wp2_with fail
          go_roundw
          case rel => exact ⟨Or.inr (Or.inr (Or.inr ⟨rfl, by first | rfl | simp⟩)), hb2⟩
          case measure => simp [intOf]
        · go_wp2_with fail
          go_ret2
          exact ⟨by first | rfl | simp, hb.out.below⟩
theorem rpo_7em (s : ByteArray) (x y z : Int) (hz : s.size = 7) (HD : Hid (DgTo s s.size)) (sg : ((s[0].toNat : Int) != 43) = true) (sg2 : ((s[0].toNat : Int) != 45) = false) (sg3 : ((s[0].toNat : Int) == 45) = true) 
    (ex : pr s[1] s[2] = x) (ey : pr s[3] s[4] = y) (ez : pr s[5] s[6] = z) (x0 : 0 ≤ x) (x9 : x ≤ 99) (y0 : 0 ≤ y) (y9 : y ≤ 99) (z0 : 0 ≤ z) (z9 : z ≤ 99) (c1 : x ≤ 23) (c2 : y ≤ 59) (c3 : z ≤ 59) (c4 : ((x * 60 + y) * 60 + z == 0) = false) (w : World) :
    Calls Tryd.prog 11 #[.string s] w fun r w' => r = .returned (.tuple #[.int .i64 (-((x * 60 + y) * 60 + z)), .int .i64 (0)]) ∧ Below w.heap.size w w' := by
  have EX := Lib.hid ex
  have EY := Lib.hid ey
  have EZ := Lib.hid ez
  clear ez
  clear ex ey
  unfold pr at EX EY EZ
  have hzI : (s.size : Int) = 7 := by omega
  go_enter Tryd.func11, Tryd.ntmps11
  go_wp2_with fail
  go_loop [4] (fun i => ∃ k : Nat, 1 ≤ k ∧ (k : Int) ≤ 7 ∧ i = .int .i64 k ∧ Hid (DgTo s k)) (fun i => (7 - intOf i).toNat)
  case atStart => exact ⟨1, by omega, by omega, rfl, Lib.hid (fun i hi h1 h2 => by omega)⟩
  case round =>
    obtain ⟨k, h1, hk, rfl, ha⟩ := hrel
    by_cases hlt : (k : Int) < 7
    · have hi : k < s.size := by omega
      obtain ⟨a1, a2⟩ := HD.out k hi h1 hi
      have HX := Lib.hid (ha.out.step hi ⟨a1, a2⟩)
      go_wp2_with fail
      go_round
      case rel => exact ⟨k + 1, by omega, by omega, by go_num, HX⟩
      case measure => simp [intOf]; omega
    · obtain rfl : k = 7 := by omega
      clear HD ha
      have HB0 := Lib.hid (Bl.refl w)
      go_wp2_with fail
      go_loopw [5, 6] (fun n i wr => ((i = .int .i64 1 ∧ n = .int .i64 0) ∨ (i = .int .i64 3 ∧ n = .int .i64 x) ∨ (i = .int .i64 5 ∧ n = .int .i64 (x * 60 + y)) ∨ (i = .int .i64 7 ∧ n = .int .i64 ((x * 60 + y) * 60 + z))) ∧ Hid (Bl w wr)) (fun _ i _ => (7 - intOf i).toNat)
      case atStart => exact ⟨Or.inl ⟨rfl, rfl⟩, HB0⟩
      case round =>
        obtain ⟨⟨rfl, rfl⟩ | ⟨rfl, rfl⟩ | ⟨rfl, rfl⟩ | ⟨rfl, rfl⟩, hb⟩ := hrel
        · go_upto_region 12 with fail
          refine wp_region_class (Bl w) (hb.out.call (Joins.below_draws _ _ 1)) (by kernel_rfl) (by kernel_rfl) ?_
          intro hne
          iterate 14 (go_big_quiet_step (fail))
          refine wpQuiet_nil ?_
          rintro _ ⟨zz, rfl⟩
          have hb2 := Lib.hid zz.ok
          rw [EX.out]
          go_wp2_with fail
          go_roundw
          case rel => exact ⟨Or.inr (Or.inl ⟨rfl, by first | rfl | simp⟩), hb2⟩
          case measure => simp [intOf]
        · go_upto_region 12 with fail
          refine wp_region_class (Bl w) (hb.out.call (Joins.below_draws _ _ 1)) (by kernel_rfl) (by kernel_rfl) ?_
          intro hne
          iterate 14 (go_big_quiet_step (fail))
          refine wpQuiet_nil ?_
          rintro _ ⟨zz, rfl⟩
          have hb2 := Lib.hid zz.ok
          rw [EY.out]
          go_wp2_with fail
          go_roundw
          case rel => exact ⟨Or.inr (Or.inr (Or.inl ⟨rfl, by first | rfl | simp⟩)), hb2⟩
          case measure => simp [intOf]
        · go_upto_region 12 with fail
          refine wp_region_class (Bl w) (hb.out.call (Joins.below_draws _ _ 1)) (by kernel_rfl) (by kernel_rfl) ?_
          intro hne
          iterate 14 (go_big_quiet_step (fail))
          refine wpQuiet_nil ?_
          rintro _ ⟨zz, rfl⟩
          have hb2 := Lib.hid zz.ok
          rw [EZ.out]
          go_wp2_with fail
          go_roundw
          case rel => exact ⟨Or.inr (Or.inr (Or.inr ⟨rfl, by first | rfl | simp⟩)), hb2⟩
          case measure => simp [intOf]
        · go_wp2_with fail
          go_ret2
          exact ⟨by first | rfl | simp, hb.out.below⟩
theorem rpo_7fp (s : ByteArray) (x y z : Int) (hz : s.size = 7) (HD : Hid (DgTo s s.size)) (sg : ((s[0].toNat : Int) != 43) = false) (sg3 : ((s[0].toNat : Int) == 45) = false) 
    (ex : pr s[1] s[2] = x) (ey : pr s[3] s[4] = y) (ez : pr s[5] s[6] = z) (x0 : 0 ≤ x) (x9 : x ≤ 99) (y0 : 0 ≤ y) (y9 : y ≤ 99) (z0 : 0 ≤ z) (z9 : z ≤ 99) (c1 : x ≤ 23) (c2 : y ≤ 59) (c3 : z ≤ 59) (w : World) :
    Calls Tryd.prog 11 #[.string s] w fun r w' => r = .returned (.tuple #[.int .i64 ((x * 60 + y) * 60 + z), .int .i64 (0)]) ∧ Below w.heap.size w w' := by
  have EX := Lib.hid ex
  have EY := Lib.hid ey
  have EZ := Lib.hid ez
  clear ez
  clear ex ey
  unfold pr at EX EY EZ
  have hzI : (s.size : Int) = 7 := by omega
  go_enter Tryd.func11, Tryd.ntmps11
  go_wp2_with fail
  go_loop [4] (fun i => ∃ k : Nat, 1 ≤ k ∧ (k : Int) ≤ 7 ∧ i = .int .i64 k ∧ Hid (DgTo s k)) (fun i => (7 - intOf i).toNat)
  case atStart => exact ⟨1, by omega, by omega, rfl, Lib.hid (fun i hi h1 h2 => by omega)⟩
  case round =>
    obtain ⟨k, h1, hk, rfl, ha⟩ := hrel
    by_cases hlt : (k : Int) < 7
    · have hi : k < s.size := by omega
      obtain ⟨a1, a2⟩ := HD.out k hi h1 hi
      have HX := Lib.hid (ha.out.step hi ⟨a1, a2⟩)
      go_wp2_with fail
      go_round
      case rel => exact ⟨k + 1, by omega, by omega, by go_num, HX⟩
      case measure => simp [intOf]; omega
    · obtain rfl : k = 7 := by omega
      clear HD ha
      have HB0 := Lib.hid (Bl.refl w)
      go_wp2_with fail
      go_loopw [5, 6] (fun n i wr => ((i = .int .i64 1 ∧ n = .int .i64 0) ∨ (i = .int .i64 3 ∧ n = .int .i64 x) ∨ (i = .int .i64 5 ∧ n = .int .i64 (x * 60 + y)) ∨ (i = .int .i64 7 ∧ n = .int .i64 ((x * 60 + y) * 60 + z))) ∧ Hid (Bl w wr)) (fun _ i _ => (7 - intOf i).toNat)
      case atStart => exact ⟨Or.inl ⟨rfl, rfl⟩, HB0⟩
      case round =>
        obtain ⟨⟨rfl, rfl⟩ | ⟨rfl, rfl⟩ | ⟨rfl, rfl⟩ | ⟨rfl, rfl⟩, hb⟩ := hrel
        · go_upto_region 12 with fail
          refine wp_region_class (Bl w) (hb.out.call (Joins.below_draws _ _ 1)) (by kernel_rfl) (by kernel_rfl) ?_
          intro hne
          iterate 14 (go_big_quiet_step (fail))
          refine wpQuiet_nil ?_
          rintro _ ⟨zz, rfl⟩
          have hb2 := Lib.hid zz.ok
          rw [EX.out]
          go_wp2_with fail
          go_roundw
          case rel => exact ⟨Or.inr (Or.inl ⟨rfl, by first | rfl | simp⟩), hb2⟩
          case measure => simp [intOf]
        · go_upto_region 12 with fail
          refine wp_region_class (Bl w) (hb.out.call (Joins.below_draws _ _ 1)) (by kernel_rfl) (by kernel_rfl) ?_
          intro hne
          iterate 14 (go_big_quiet_step (fail))
          refine wpQuiet_nil ?_
          rintro _ ⟨zz, rfl⟩
          have hb2 := Lib.hid zz.ok
          rw [EY.out]
          go_wp2_with fail
          go_roundw
          case rel => exact ⟨Or.inr (Or.inr (Or.inl ⟨rfl, by first | rfl | simp⟩)), hb2⟩
          case measure => simp [intOf]
        · go_upto_region 12 with fail
          refine wp_region_class (Bl w) (hb.out.call (Joins.below_draws _ _ 1)) (by kernel_rfl) (by kernel_rfl) ?_
          intro hne
          iterate 14 (go_big_quiet_step (fail))
          refine wpQuiet_nil ?_
          rintro _ ⟨zz, rfl⟩
          have hb2 := Lib.hid zz.ok
          rw [EZ.out]
          go_wp2_with fail
          go_roundw
          case rel => exact ⟨Or.inr (Or.inr (Or.inr ⟨rfl, by first | rfl | simp⟩)), hb2⟩
          case measure => simp [intOf]
        · go_wp2_with fail
          go_ret2
          exact ⟨by first | rfl | simp, hb.out.below⟩
end Go.Proofs.YtmbbjpfhdijmbaaDoor.Spn
