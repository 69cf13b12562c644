/- The walk of DiskTells. -/
import Derived.Test.YtgjhiekcdcicgaaOwn
import Derived.Test.YtgjhiekcdcicgaaLastW
namespace Go.Proofs.Ytgjhiekcdcicgaa
open Go.RowKit
set_option linter.unusedSimpArgs false

/-- Block b is an array of two devices. -/
structure Box6 (w : World) (b : Nat) (x0 x1 x2 x3 x4 x5 : Value) : Prop where
  c0 : w.cell? ⟨b, 0, none⟩ = some x0
  c1 : w.cell? ⟨b, 1, none⟩ = some x1
  c2 : w.cell? ⟨b, 2, none⟩ = some x2
  c3 : w.cell? ⟨b, 3, none⟩ = some x3
  c4 : w.cell? ⟨b, 4, none⟩ = some x4
  c5 : w.cell? ⟨b, 5, none⟩ = some x5
theorem Box6.lt {w : World} {b : Nat} {x0 x1 x2 x3 x4 x5 : Value} (h : Box6 w b x0 x1 x2 x3 x4 x5) : b < w.heap.size := cell_lt h.c0
theorem Box6.call {w w' : World} {b : Nat} {x0 x1 x2 x3 x4 x5 : Value} (h : Box6 w b x0 x1 x2 x3 x4 x5) (hb : Below w.heap.size w w') : Box6 w' b x0 x1 x2 x3 x4 x5 :=
  ⟨(hb.cell (p := ⟨b, 0, none⟩) h.lt).trans h.c0, (hb.cell (p := ⟨b, 1, none⟩) h.lt).trans h.c1, (hb.cell (p := ⟨b, 2, none⟩) h.lt).trans h.c2, (hb.cell (p := ⟨b, 3, none⟩) h.lt).trans h.c3, (hb.cell (p := ⟨b, 4, none⟩) h.lt).trans h.c4, (hb.cell (p := ⟨b, 5, none⟩) h.lt).trans h.c5⟩
theorem Box6.new (w : World) (x0 x1 x2 x3 x4 x5 : Value) (t : TypeId) : Box6 (w.alloc (.cells #[x0, x1, x2, x3, x4, x5] t)) w.heap.size x0 x1 x2 x3 x4 x5 := by
  constructor <;> simp [go_sem]

set_option maxRecDepth 100000 in
set_option maxHeartbeats 4000000 in
theorem tells_big1 (A : Option Addr) (n c : Nat) (A' : Option Addr) (m c' : Nat) (f : Int) (B : Option Addr) (p d : Nat) (B' : Option Addr) (q d' : Nat) (g : Int) (z : Int) (w : World) (h : (600 : Int) < n ∨ (1100 : Int) < m) :
    Calls Try.prog 4 #[.agg #[.slice A n c, .slice A' m c', .int .i64 f, .slice B p d, .slice B' q d', .int .i64 g], .int .i64 z] w fun e w' => e = .returned (.bool true) ∧ Below w.heap.size w w' := by
  have HS := Lib.hid (fun w => small_no A n c A' m c' f w h)
  clear h
  go_enter Try.func4, Try.ntmps4
  go_wp2_with fail
  refine (HS.out _).mono ?_
  rintro r w1 ⟨rfl, hb1⟩
  have HB := Lib.hid (Below.call ((Below.refl w.heap.size w).push (.cells #[.slice A n c, .slice A' m c', .int .i64 f, .slice B p d, .slice B' q d', .int .i64 g] 49)) hb1)
  clear hb1
  go_wp2_with (go_at_call 9; refine (awake_any _).mono ?_; rintro e w' ⟨rfl, hb⟩)
  go_ret
  exact ⟨rfl, HB.out.call hb⟩

set_option maxRecDepth 100000 in
set_option maxHeartbeats 4000000 in
theorem tells_big2 (A : Option Addr) (n c : Nat) (A' : Option Addr) (m c' : Nat) (f : Int) (B : Option Addr) (p d : Nat) (B' : Option Addr) (q d' : Nat) (g : Int) (z : Int) (w : World) (h1 : (n : Int) ≤ 600) (h2 : (m : Int) ≤ 1100) (h : (600 : Int) < p ∨ (1100 : Int) < q) :
    Calls Try.prog 4 #[.agg #[.slice A n c, .slice A' m c', .int .i64 f, .slice B p d, .slice B' q d', .int .i64 g], .int .i64 z] w fun e w' => e = .returned (.bool true) ∧ Below w.heap.size w w' := by
  have HS := Lib.hid (fun w => small_yes A n c A' m c' f w h1 h2)
  have HT := Lib.hid (fun w => small_no B p d B' q d' g w h)
  clear h h1 h2
  go_enter Try.func4, Try.ntmps4
  go_wp2_with fail
  refine (HS.out _).mono ?_
  rintro r w1 ⟨rfl, hb1⟩
  have HB := Lib.hid (Below.call ((Below.refl w.heap.size w).push (.cells #[.slice A n c, .slice A' m c', .int .i64 f, .slice B p d, .slice B' q d', .int .i64 g] 49)) hb1)
  obtain ⟨x0, x1, x2, x3, x4, x5⟩ := (Box6.new w (.slice A n c) (.slice A' m c') (.int .i64 f) (.slice B p d) (.slice B' q d') (.int .i64 g) 49).call hb1
  clear hb1
  go_wp2_with fail
  refine (HT.out _).mono ?_
  rintro r w2 ⟨rfl, hb2⟩
  have HB2 := Lib.hid (HB.out.call hb2)
  clear hb2
  go_wp2_with (go_at_call 9; refine (awake_any _).mono ?_; rintro e w' ⟨rfl, hb⟩)
  go_ret
  exact ⟨rfl, HB2.out.call hb⟩

set_option maxRecDepth 100000 in
set_option maxHeartbeats 4000000 in
theorem tells_go (A : Option Addr) (n c : Nat) (A' : Option Addr) (m c' : Nat) (f : Int) (S : List ByteArray) (W : List Wr) (B : Option Addr) (p d : Nat) (B' : Option Addr) (q d' : Nat) (g : Int) (T : List ByteArray) (V : List Wr) (z : Int) (w : World) (h1 : (n : Int) ≤ 600) (h2 : (m : Int) ≤ 1100) (h3 : (p : Int) ≤ 600) (h4 : (q : Int) ≤ 1100)
    (hD : Dev w A n c A' m c' f S W) (hE : Dev w B p d B' q d' g T V) :
    Calls Try.prog 4 #[.agg #[.slice A n c, .slice A' m c', .int .i64 f, .slice B p d, .slice B' q d', .int .i64 g], .int .i64 z] w fun e w' => e = .returned (.bool true) ∧ Below w.heap.size w w' := by
  have HS := Lib.hid (fun w => small_yes A n c A' m c' f w h1 h2)
  have HT := Lib.hid (fun w => small_yes B p d B' q d' g w h3 h4)
  clear h1 h2 h3 h4
  go_enter Try.func4, Try.ntmps4
  go_wp2_with fail
  refine (HS.out _).mono ?_
  rintro r w1 ⟨rfl, hb1⟩
  have HB := Lib.hid (Below.call ((Below.refl w.heap.size w).push (.cells #[.slice A n c, .slice A' m c', .int .i64 f, .slice B p d, .slice B' q d', .int .i64 g] 49)) hb1)
  have HX := Lib.hid ((Box6.new w (.slice A n c) (.slice A' m c') (.int .i64 f) (.slice B p d) (.slice B' q d') (.int .i64 g) 49).call hb1)
  obtain ⟨x0, x1, x2, x3, x4, x5⟩ := HX.out
  clear hb1
  go_wp2_with fail
  refine (HT.out _).mono ?_
  rintro r wa ⟨rfl, hb2⟩
  have HB2 := Lib.hid (HB.out.call hb2)
  have HX2 := Lib.hid (HX.out.call hb2)
  have HD := Lib.hid (hD.below HB2.out)
  have HE := Lib.hid (hE.below HB2.out)
  clear hb2 x0 x1 x2 x3 x4 x5 HX HB hD hE HS HT
  have HB2' := HB2.out
  generalize hb2 : w.heap.size = b2 at *
  have Hb2 := Lib.hid hb2
  clear hb2 HB2'
  go_upto_region 3 with fail
  go_cut [5, 6] (fun s5 s6 wx => ∃ b A1 n1 c1 A1' m1 c1' b' B1 p1 d1 B1' q1 d1', s5 = .pointer (some ⟨b, 0, none⟩) ∧ s6 = .pointer (some ⟨b', 0, none⟩) ∧ Hid (TwoD wa wx b A1 n1 c1 A1' m1 c1' f S W b' B1 p1 d1 B1' q1 d1' g T V))
  case first =>
    have HC1 : Hid (∀ W', Below wa.heap.size wa W' → Calls Try.prog 10 #[DV A n c A' m c' f] W' (RetD W' S W f)) := fun W' hb => own_any _ _ _ _ _ _ _ _ _ W' (HD.out.below hb)
    have HC2 : Hid (∀ W', Below wa.heap.size wa W' → Calls Try.prog 10 #[DV B p d B' q d' g] W' (RetD W' T V g)) := fun W' hb => own_any _ _ _ _ _ _ _ _ _ W' (HE.out.below hb)
    have hl2 := HX2.out.lt
    obtain ⟨x0, x1, x2, x3, x4, x5⟩ := HX2.out
    have ne1 : ¬ wa.heap.size = b2 := by omega
    have ne3 : ¬ wa.heap.size + 1 = b2 := by omega
    go_region_held3 (fun W => W.cell? ⟨b2, 0, none⟩ = some (.slice A n c) ∧ W.cell? ⟨b2, 1, none⟩ = some (.slice A' m c') ∧ W.cell? ⟨b2, 2, none⟩ = some (.int .i64 f) ∧ W.cell? ⟨b2, 3, none⟩ = some (.slice B p d) ∧ W.cell? ⟨b2, 4, none⟩ = some (.slice B' q d') ∧ W.cell? ⟨b2, 5, none⟩ = some (.int .i64 g)) (go_keep)
      (first
        | (go_at_call 10; ((with_reducible refine (HC1.out _ (by repeat (first | exact Below.refl _ _ | refine Below.push ?_ _ | refine Below.drew ?_))).mono ?_)); rintro r w5 ⟨A5, n5, k5, B5, m5, l5, rfl, hD5, hb5⟩; obtain ⟨hc, hf⟩ := bcell hb5; have hlt5 := blt hb5; have hbw : Below wa.heap.size wa w5 := (Below.call (by repeat (first | exact Below.refl _ _ | refine Below.push ?_ _ | refine Below.drew ?_)) hb5); have q0 : w5.cell? ⟨b2, 0, none⟩ = some (.slice A n c) := (by rw [hbw.cell (p := ⟨b2, 0, none⟩) hl2]; exact x0); have q1 : w5.cell? ⟨b2, 1, none⟩ = some (.slice A' m c') := (by rw [hbw.cell (p := ⟨b2, 1, none⟩) hl2]; exact x1); have q2 : w5.cell? ⟨b2, 2, none⟩ = some (.int .i64 f) := (by rw [hbw.cell (p := ⟨b2, 2, none⟩) hl2]; exact x2); have q3 : w5.cell? ⟨b2, 3, none⟩ = some (.slice B p d) := (by rw [hbw.cell (p := ⟨b2, 3, none⟩) hl2]; exact x3); have q4 : w5.cell? ⟨b2, 4, none⟩ = some (.slice B' q d') := (by rw [hbw.cell (p := ⟨b2, 4, none⟩) hl2]; exact x4); have q5 : w5.cell? ⟨b2, 5, none⟩ = some (.int .i64 g) := (by rw [hbw.cell (p := ⟨b2, 5, none⟩) hl2]; exact x5); have hz5 := hbw.size; have ne5 : ¬ w5.heap.size = b2 := (by omega); have ne6 : ¬ w5.heap.size = b2 := (by omega); have ne7 : ¬ w5.heap.size + 1 = b2 := (by omega); have hs5 := hb5.size; (try simp only [World.size_drew, World.size_alloc] at hs5); (try (have lt1 : wa.heap.size < w5.heap.size := (by omega))); (try (have lt2 : wa.heap.size + 1 < w5.heap.size := (by omega))); have ne8 : ¬ w5.heap.size + 1 = b2 := (by omega); have HD5 := Lib.hid hD5; clear hD5)
        | (go_at_call 10; ((with_reducible refine (HC2.out _ (by first | exact hbw | exact hbw.push _ | exact (hbw.push _).push _)).mono ?_)); rintro r w6 ⟨A6, n6, k6, B6, m6, l6, rfl, hD6, hb6⟩; obtain ⟨hc6, hf6⟩ := bcell hb6; have hlt6 := blt hb6; have hbw6 : Below wa.heap.size wa w6 := (Below.call (by first | exact hbw | exact hbw.push _ | exact (hbw.push _).push _) hb6); have r0 : w6.cell? ⟨b2, 0, none⟩ = some (.slice A n c) := (by rw [hbw6.cell (p := ⟨b2, 0, none⟩) hl2]; exact x0); have r1 : w6.cell? ⟨b2, 1, none⟩ = some (.slice A' m c') := (by rw [hbw6.cell (p := ⟨b2, 1, none⟩) hl2]; exact x1); have r2 : w6.cell? ⟨b2, 2, none⟩ = some (.int .i64 f) := (by rw [hbw6.cell (p := ⟨b2, 2, none⟩) hl2]; exact x2); have r3 : w6.cell? ⟨b2, 3, none⟩ = some (.slice B p d) := (by rw [hbw6.cell (p := ⟨b2, 3, none⟩) hl2]; exact x3); have r4 : w6.cell? ⟨b2, 4, none⟩ = some (.slice B' q d') := (by rw [hbw6.cell (p := ⟨b2, 4, none⟩) hl2]; exact x4); have r5 : w6.cell? ⟨b2, 5, none⟩ = some (.int .i64 g) := (by rw [hbw6.cell (p := ⟨b2, 5, none⟩) hl2]; exact x5); have hz6 := hbw6.size; have ne9 : ¬ w6.heap.size = b2 := (by omega); have ne10 : ¬ w6.heap.size = b2 := (by omega); have ne11 : ¬ w6.heap.size + 1 = b2 := (by omega); have hs6 := hb6.size; (try simp only [World.size_drew, World.size_alloc] at hs6); (try (have lt3 : wa.heap.size < w6.heap.size := (by omega))); (try (have lt4 : wa.heap.size + 1 < w6.heap.size := (by omega))); (try (have lt5 : w5.heap.size < w6.heap.size := (by omega))); (try (have lt6 : w5.heap.size + 1 < w6.heap.size := (by omega))); have ne12 : ¬ w6.heap.size + 1 = b2 := (by omega); have HD6 := Lib.hid hD6; clear hD6))
    · go_wp2_with fail
      go_meet
      have D5 := HD5.out.below hb6
      exact ⟨_, _, _, _, _, _, _, _, _, _, _, _, _, _, rfl, rfl, TwoD.ff hbw6 D5 HD6.out 33 33⟩
    · go_wp2_with fail
      go_meet
      have D5 := HD5.out.below hb6
      exact ⟨_, _, _, _, _, _, _, _, _, _, _, _, _, _, rfl, rfl, TwoD.ff' hbw6 D5 HD6.out 33 33⟩
    · go_wp2_with fail
      go_meet
      have D5 := HD5.out.below ((new1 _ _).call hb6)
      exact ⟨_, _, _, _, _, _, _, _, _, _, _, _, _, _, rfl, rfl, TwoD.sf hbw6 D5 HD6.out 33 ((St.new w5 none 0 0 none 0 0 0 33).call hb6) (by omega)⟩
    · go_wp2_with fail
      go_meet
      have D5 := HD5.out.below (((new1 _ _).push _).call hb6)
      exact ⟨_, _, _, _, _, _, _, _, _, _, _, _, _, _, rfl, rfl, TwoD.ss hbw6 D5 HD6.out (((St.new w5 none 0 0 none 0 0 0 33).alloc _).call hb6) ((St.at1 w5 _ none 0 0 none 0 0 0 33).call hb6) (by omega) (by omega) (by omega)⟩
    · go_wp2_with fail
      go_meet
      have D5 := HD5.out.below ((new1 _ _).call hb6)
      exact ⟨_, _, _, _, _, _, _, _, _, _, _, _, _, _, rfl, rfl, TwoD.fs hbw6 D5 HD6.out 33 ((St.new w5 none 0 0 none 0 0 0 33).call hb6) (by omega)⟩
    · go_wp2_with fail
      go_meet
      have D5 := HD5.out.below (((new1 _ _).push _).call hb6)
      exact ⟨_, _, _, _, _, _, _, _, _, _, _, _, _, _, rfl, rfl, TwoD.ss hbw6 D5 HD6.out ((St.at1 w5 _ none 0 0 none 0 0 0 33).call hb6) (((St.new w5 none 0 0 none 0 0 0 33).alloc _).call hb6) (by omega) (by omega) (by omega)⟩
    · go_wp2_with fail
      go_meet
      have D5 := HD5.out.below hb6
      exact ⟨_, _, _, _, _, _, _, _, _, _, _, _, _, _, rfl, rfl, TwoD.sf hbw6 D5 HD6.out 33 (((St.new wa none 0 0 none 0 0 0 33).call (undrew hb5)).call hb6) (by omega)⟩
    · go_wp2_with fail
      go_meet
      have D5 := HD5.out.below ((new1 _ _).call hb6)
      exact ⟨_, _, _, _, _, _, _, _, _, _, _, _, _, _, rfl, rfl, TwoD.ss hbw6 D5 HD6.out ((((St.new wa none 0 0 none 0 0 0 33).call (undrew hb5)).alloc _).call hb6) ((St.new w5 none 0 0 none 0 0 0 33).call hb6) (by omega) (by omega) (by omega)⟩
    · go_wp2_with fail
      go_meet
      have D5 := HD5.out.below hb6
      exact ⟨_, _, _, _, _, _, _, _, _, _, _, _, _, _, rfl, rfl, TwoD.ss hbw6 D5 HD6.out ((((St.new wa none 0 0 none 0 0 0 33).alloc _).call (undrew hb5)).call hb6) (((St.at1 wa _ none 0 0 none 0 0 0 33).call (undrew hb5)).call hb6) (by omega) (by omega) (by omega)⟩
    · go_wp2_with fail
      go_meet
      have D5 := HD5.out.below hb6
      exact ⟨_, _, _, _, _, _, _, _, _, _, _, _, _, _, rfl, rfl, TwoD.fs hbw6 D5 HD6.out 33 (((St.new wa none 0 0 none 0 0 0 33).call (undrew hb5)).call hb6) (by omega)⟩
    · go_wp2_with fail
      go_meet
      have D5 := HD5.out.below ((new1 _ _).call hb6)
      exact ⟨_, _, _, _, _, _, _, _, _, _, _, _, _, _, rfl, rfl, TwoD.ss hbw6 D5 HD6.out ((St.new w5 none 0 0 none 0 0 0 33).call hb6) ((((St.new wa none 0 0 none 0 0 0 33).call (undrew hb5)).alloc _).call hb6) (by omega) (by omega) (by omega)⟩
    · go_wp2_with fail
      go_meet
      have D5 := HD5.out.below hb6
      exact ⟨_, _, _, _, _, _, _, _, _, _, _, _, _, _, rfl, rfl, TwoD.ss hbw6 D5 HD6.out (((St.at1 wa _ none 0 0 none 0 0 0 33).call (undrew hb5)).call hb6) ((((St.new wa none 0 0 none 0 0 0 33).alloc _).call (undrew hb5)).call hb6) (by omega) (by omega) (by omega)⟩
  case rest =>
    obtain ⟨b5, A5, n5, k5, B5, m5, l5, b6, A6, n6, k6, B6, m6, l6, rfl, rfl, HTw⟩ := hcut
    obtain rfl := Hb2.out
    have HBc := Lib.hid (HB2.out.call HTw.out.bel)
    have HXc := Lib.hid (HX2.out.call HTw.out.bel)
    have HDc := Lib.hid (HD.out.below HTw.out.bel)
    have HEc := Lib.hid (HE.out.below HTw.out.bel)
    have HUc : Hid (Hold wc b5 A5 n5 k5 B5 m5 l5 f S W) := ⟨HTw.out.st1.box, HTw.out.dev1⟩
    have HVc : Hid (Hold wc b6 A6 n6 k6 B6 m6 l6 g T V) := ⟨HTw.out.st2.box, HTw.out.dev2⟩
    clear HTw HB2 HX2 HD HE
    have HN : Hid (∀ w, Calls Try.prog 23 #[.int .i64 z] w (RetDE w (if 16 ≤ z ∧ z ≤ 512 then newS z.toNat else []) [] (if 16 ≤ z ∧ z ≤ 512 then -1 else 0) (if 16 ≤ z ∧ z ≤ 512 then 0 else 8))) := fun w => new_any z w
    have HrN : Hid (∀ w, Calls Try.prog 24 #[.int .i64 z] w (RetDE w (if 16 ≤ z ∧ z ≤ 512 then newS z.toNat else []) [] (if 16 ≤ z ∧ z ≤ 512 then -1 else 0) (if 16 ≤ z ∧ z ≤ 512 then 0 else 8))) := fun w => rnew_any z w
    generalize (if 16 ≤ z ∧ z ≤ 512 then newS z.toNat else []) = SN at HN HrN
    generalize (if 16 ≤ z ∧ z ≤ 512 then (-1 : Int) else 0) = fN at HN HrN
    generalize (if 16 ≤ z ∧ z ≤ 512 then (0 : Int) else 8) = eN at HN HrN
    have HR : Hid (∀ (A : Option Addr) (n c : Nat) (A' : Option Addr) (m c' : Nat) (w : World), Dev w A n c A' m c' f S W → Calls Try.prog 21 #[DV A n c A' m c' f, .int .i64 z] w fun e w' => e = .returned (.tuple #[.string (rdS S W f z), .int .i64 (rdE S W f z)]) ∧ Below w.heap.size w w') := fun A n c A' m c' w h => read_any A n c A' m c' f S W z w h
    have HrR : Hid (∀ (A : Option Addr) (n c : Nat) (A' : Option Addr) (m c' : Nat) (w : World), Dev w A n c A' m c' f S W → Calls Try.prog 22 #[DV A n c A' m c' f, .int .i64 z] w fun e w' => e = .returned (.tuple #[.string (rdS S W f z), .int .i64 (rdE S W f z)]) ∧ Below w.heap.size w w') := fun A n c A' m c' w h => rread_any A n c A' m c' f S W z w h
    generalize rdS S W f z = sR at HR HrR
    generalize rdE S W f z = eR at HR HrR
    obtain ⟨y0, y1, y2, -, -, -⟩ := HUc.out.box
    go_wp2_with fail
    clear y0 y1 y2
    refine (HR.out _ _ _ _ _ _ _ HUc.out.dev).mono ?_
    rintro r wd ⟨rfl, hbd⟩
    have HXd := Lib.hid (HXc.out.call hbd)
    have HUd := Lib.hid (HUc.out.call hbd)
    have HVd := Lib.hid (HVc.out.call hbd)
    have HDd := Lib.hid (HDc.out.below hbd)
    have HEd := Lib.hid (HEc.out.below hbd)
    have HBd := Lib.hid (HBc.out.call hbd)
    clear HXc HUc HVc HDc HEc HBc
    clear hbd
    obtain ⟨y0, y1, y2, y3, y4, y5⟩ := HXd.out
    go_wp2_with fail
    clear y0 y1 y2 y3 y4 y5
    refine (HrR.out _ _ _ _ _ _ _ HDd.out).mono ?_
    rintro r we ⟨rfl, hbe⟩
    have HXe := Lib.hid (HXd.out.call hbe)
    have HUe := Lib.hid (HUd.out.call hbe)
    have HVe := Lib.hid (HVd.out.call hbe)
    have HDe := Lib.hid (HDd.out.below hbe)
    have HEe := Lib.hid (HEd.out.below hbe)
    have HBe := Lib.hid (HBd.out.call hbe)
    clear HXd HUd HVd HDd HEd HBd
    clear hbe
    go_wp2_with fail
    refine (HN.out _).mono ?_
    rintro r wf ⟨A7, n7, k7, B7, m7, l7, rfl, hDf, hbf⟩
    have HXf := Lib.hid ((HXe.out.call hbf).call (new1 _ (.cells #[.slice A7 n7 k7, .slice B7 m7 l7, .int .i64 fN] 33)))
    have HUf := Lib.hid ((HUe.out.call hbf).call (new1 _ (.cells #[.slice A7 n7 k7, .slice B7 m7 l7, .int .i64 fN] 33)))
    have HVf := Lib.hid ((HVe.out.call hbf).call (new1 _ (.cells #[.slice A7 n7 k7, .slice B7 m7 l7, .int .i64 fN] 33)))
    have HDf := Lib.hid ((HDe.out.below hbf).below (new1 _ (.cells #[.slice A7 n7 k7, .slice B7 m7 l7, .int .i64 fN] 33)))
    have HEf := Lib.hid ((HEe.out.below hbf).below (new1 _ (.cells #[.slice A7 n7 k7, .slice B7 m7 l7, .int .i64 fN] 33)))
    have HBf := Lib.hid ((HBe.out.call hbf).push (.cells #[.slice A7 n7 k7, .slice B7 m7 l7, .int .i64 fN] 33))
    clear HXe HUe HVe HDe HEe HBe
    have HYf : Hid (Hold (wf.alloc (.cells #[.slice A7 n7 k7, .slice B7 m7 l7, .int .i64 fN] 33)) wf.heap.size A7 n7 k7 B7 m7 l7 fN SN []) := ⟨Box.new _ _ _ _ _, hDf.new _⟩
    clear hbf hDf
    go_wp2_with fail
    refine (HrN.out _).mono ?_
    rintro r wg ⟨A8, n8, k8, B8, m8, l8, rfl, hDg, hbg⟩
    have HXg := Lib.hid ((HXf.out.call hbg).call (new1 _ (.cells #[.slice A8 n8 k8, .slice B8 m8 l8, .int .i64 fN] 25)))
    have HUg := Lib.hid ((HUf.out.call hbg).call (new1 _ (.cells #[.slice A8 n8 k8, .slice B8 m8 l8, .int .i64 fN] 25)))
    have HVg := Lib.hid ((HVf.out.call hbg).call (new1 _ (.cells #[.slice A8 n8 k8, .slice B8 m8 l8, .int .i64 fN] 25)))
    have HYg := Lib.hid ((HYf.out.call hbg).call (new1 _ (.cells #[.slice A8 n8 k8, .slice B8 m8 l8, .int .i64 fN] 25)))
    have HDg := Lib.hid ((HDf.out.below hbg).below (new1 _ (.cells #[.slice A8 n8 k8, .slice B8 m8 l8, .int .i64 fN] 25)))
    have HEg := Lib.hid ((HEf.out.below hbg).below (new1 _ (.cells #[.slice A8 n8 k8, .slice B8 m8 l8, .int .i64 fN] 25)))
    have HBg := Lib.hid ((HBf.out.call hbg).push (.cells #[.slice A8 n8 k8, .slice B8 m8 l8, .int .i64 fN] 25))
    clear HXf HUf HVf HYf HDf HEf HBf
    have HZg : Hid (Hold (wg.alloc (.cells #[.slice A8 n8 k8, .slice B8 m8 l8, .int .i64 fN] 25)) wg.heap.size A8 n8 k8 B8 m8 l8 fN SN []) := ⟨Box.new _ _ _ _ _, hDg.new _⟩
    clear hbg hDg
    go_upto_region 8 with fail
    generalize hb2 : w.heap.size = b2 at *
    have Hb2 := Lib.hid hb2
    clear hb2
    generalize wf.heap.size = b11 at *
    generalize wg.heap.size = b13 at *
    generalize wg.alloc (.cells #[.slice A8 n8 k8, .slice B8 m8 l8, .int .i64 fN] 25) = wr at *
    have HK : Hid (∀ (A : Option Addr) (n c : Nat) (A' : Option Addr) (m c' : Nat) (w : World), Dev w A n c A' m c' f S W → Calls Try.prog 25 #[DV A n c A' m c' f] w fun e w' => e = .returned (.int .i64 (chk S W f)) ∧ Below w.heap.size w w') := fun A n c A' m c' w h => check_any A n c A' m c' f S W w h
    have HrK : Hid (∀ (A : Option Addr) (n c : Nat) (A' : Option Addr) (m c' : Nat) (w : World), Dev w A n c A' m c' f S W → Calls Try.prog 26 #[DV A n c A' m c' f] w fun e w' => e = .returned (.int .i64 (chk S W f)) ∧ Below w.heap.size w w') := fun A n c A' m c' w h => rcheck_any A n c A' m c' f S W w h
    generalize chk S W f = eK at HK HrK
    have HM : Hid (∀ (A : Option Addr) (n c : Nat) (A' : Option Addr) (m c' : Nat) (B : Option Addr) (p d : Nat) (B' : Option Addr) (q d' : Nat) (w : World), Dev w A n c A' m c' f S W → Dev w B p d B' q d' g T V → Calls Try.prog 27 #[DV A n c A' m c' f, DV B p d B' q d' g] w fun e w' => e = .returned (.bool (sameD S W f T V g)) ∧ Below w.heap.size w w') := fun A n c A' m c' B p d B' q d' w h1 h2 => same_any A n c A' m c' f S W B p d B' q d' g T V w h1 h2
    have HrM : Hid (∀ (A : Option Addr) (n c : Nat) (A' : Option Addr) (m c' : Nat) (B : Option Addr) (p d : Nat) (B' : Option Addr) (q d' : Nat) (w : World), Dev w A n c A' m c' f S W → Dev w B p d B' q d' g T V → Calls Try.prog 15 #[DV A n c A' m c' f, DV B p d B' q d' g] w fun e w' => e = .returned (.bool (sameD S W f T V g)) ∧ Below w.heap.size w w') := fun A n c A' m c' B p d B' q d' w h1 h2 => rsame_any A n c A' m c' f S W B p d B' q d' g T V w h1 h2
    generalize sameD S W f T V g = eM at HM HrM
    have HSm : Hid (∀ (A : Option Addr) (n c : Nat) (A' : Option Addr) (m c' : Nat) (B : Option Addr) (p d : Nat) (B' : Option Addr) (q d' : Nat) (w : World), Dev w A n c A' m c' fN SN [] → Dev w B p d B' q d' fN SN [] → Calls Try.prog 15 #[DV A n c A' m c' fN, DV B p d B' q d' fN] w fun e w' => e = .returned (.bool true) ∧ Below w.heap.size w w') := fun A n c A' m c' B p d B' q d' w h1 h2 => by
      have := rsame_any A n c A' m c' fN SN [] B p d B' q d' fN SN [] w h1 h2
      rwa [show sameD SN [] fN SN [] fN = true by simp [sameD]] at this
    go_cut [4] (fun s1 wx => s1 = .bool true ∧ Hid (Below wr.heap.size wr wx))
    case first =>
      have hlX := HXg.out.lt
      obtain ⟨x0, x1, x2, x3, x4, x5⟩ := HXg.out
      obtain ⟨x6, x7, x8, -, -, -⟩ := HUg.out.box
      have hlHU := HUg.out.box.lt
      obtain ⟨x9, x10, x11, -, -, -⟩ := HVg.out.box
      have hlHV := HVg.out.box.lt
      obtain ⟨x12, x13, x14, -, -, -⟩ := HYg.out.box
      have hlHY := HYg.out.box.lt
      obtain ⟨x15, x16, x17, -, -, -⟩ := HZg.out.box
      have hlHZ := HZg.out.box.lt
      have hbw : Below wr.heap.size wr wr := Below.refl _ _
      have hE := Lib.hid HYg.out.dev
      go_region_held3 (fun W => W.cell? ⟨b2, 0, none⟩ = some (.slice A n c) ∧ W.cell? ⟨b2, 1, none⟩ = some (.slice A' m c') ∧ W.cell? ⟨b2, 2, none⟩ = some (.int .i64 f) ∧ W.cell? ⟨b2, 3, none⟩ = some (.slice B p d) ∧ W.cell? ⟨b2, 4, none⟩ = some (.slice B' q d') ∧ W.cell? ⟨b2, 5, none⟩ = some (.int .i64 g) ∧ W.cell? ⟨b5, 0, none⟩ = some (.slice A5 n5 k5) ∧ W.cell? ⟨b5, 1, none⟩ = some (.slice B5 m5 l5) ∧ W.cell? ⟨b5, 2, none⟩ = some (.int .i64 f) ∧ W.cell? ⟨b6, 0, none⟩ = some (.slice A6 n6 k6) ∧ W.cell? ⟨b6, 1, none⟩ = some (.slice B6 m6 l6) ∧ W.cell? ⟨b6, 2, none⟩ = some (.int .i64 g) ∧ W.cell? ⟨b11, 0, none⟩ = some (.slice A7 n7 k7) ∧ W.cell? ⟨b11, 1, none⟩ = some (.slice B7 m7 l7) ∧ W.cell? ⟨b11, 2, none⟩ = some (.int .i64 fN) ∧ W.cell? ⟨b13, 0, none⟩ = some (.slice A8 n8 k8) ∧ W.cell? ⟨b13, 1, none⟩ = some (.slice B8 m8 l8) ∧ W.cell? ⟨b13, 2, none⟩ = some (.int .i64 fN)) (first | exact ⟨q0, q1, q2, q3, q4, q5, q6, q7, q8, q9, q10, q11, q12, q13, q14, q15, q16, q17⟩ | exact ⟨x0, x1, x2, x3, x4, x5, x6, x7, x8, x9, x10, x11, x12, x13, x14, x15, x16, x17⟩ | go_keep)
        (first
          | (go_at_call 25; (with_reducible refine (HK.out _ _ _ _ _ _ _ (HUg.out.call (by repeat (first | exact hbw | refine Below.push ?_ _ | refine Below.drew ?_))).dev).mono ?_); rintro r wn ⟨rfl, hb9⟩; replace hE := Lib.hid (hE.out.below (Below.call (by repeat (first | exact Below.refl _ _ | refine Below.push ?_ _ | refine Below.drew ?_)) hb9)); replace hbw : Below wr.heap.size wr wn := Below.call (by repeat (first | exact hbw | refine Below.push ?_ _ | refine Below.drew ?_)) hb9; (try clear q0 q1 q2 q3 q4 q5 q6 q7 q8 q9 q10 q11 q12 q13 q14 q15 q16 q17); have q0 : wn.cell? ⟨b2, 0, none⟩ = some (.slice A n c) := (by rw [hbw.cell (p := ⟨b2, 0, none⟩) hlX]; exact x0); have q1 : wn.cell? ⟨b2, 1, none⟩ = some (.slice A' m c') := (by rw [hbw.cell (p := ⟨b2, 1, none⟩) hlX]; exact x1); have q2 : wn.cell? ⟨b2, 2, none⟩ = some (.int .i64 f) := (by rw [hbw.cell (p := ⟨b2, 2, none⟩) hlX]; exact x2); have q3 : wn.cell? ⟨b2, 3, none⟩ = some (.slice B p d) := (by rw [hbw.cell (p := ⟨b2, 3, none⟩) hlX]; exact x3); have q4 : wn.cell? ⟨b2, 4, none⟩ = some (.slice B' q d') := (by rw [hbw.cell (p := ⟨b2, 4, none⟩) hlX]; exact x4); have q5 : wn.cell? ⟨b2, 5, none⟩ = some (.int .i64 g) := (by rw [hbw.cell (p := ⟨b2, 5, none⟩) hlX]; exact x5); have q6 : wn.cell? ⟨b5, 0, none⟩ = some (.slice A5 n5 k5) := (by rw [hbw.cell (p := ⟨b5, 0, none⟩) hlHU]; exact x6); have q7 : wn.cell? ⟨b5, 1, none⟩ = some (.slice B5 m5 l5) := (by rw [hbw.cell (p := ⟨b5, 1, none⟩) hlHU]; exact x7); have q8 : wn.cell? ⟨b5, 2, none⟩ = some (.int .i64 f) := (by rw [hbw.cell (p := ⟨b5, 2, none⟩) hlHU]; exact x8); have q9 : wn.cell? ⟨b6, 0, none⟩ = some (.slice A6 n6 k6) := (by rw [hbw.cell (p := ⟨b6, 0, none⟩) hlHV]; exact x9); have q10 : wn.cell? ⟨b6, 1, none⟩ = some (.slice B6 m6 l6) := (by rw [hbw.cell (p := ⟨b6, 1, none⟩) hlHV]; exact x10); have q11 : wn.cell? ⟨b6, 2, none⟩ = some (.int .i64 g) := (by rw [hbw.cell (p := ⟨b6, 2, none⟩) hlHV]; exact x11); have q12 : wn.cell? ⟨b11, 0, none⟩ = some (.slice A7 n7 k7) := (by rw [hbw.cell (p := ⟨b11, 0, none⟩) hlHY]; exact x12); have q13 : wn.cell? ⟨b11, 1, none⟩ = some (.slice B7 m7 l7) := (by rw [hbw.cell (p := ⟨b11, 1, none⟩) hlHY]; exact x13); have q14 : wn.cell? ⟨b11, 2, none⟩ = some (.int .i64 fN) := (by rw [hbw.cell (p := ⟨b11, 2, none⟩) hlHY]; exact x14); have q15 : wn.cell? ⟨b13, 0, none⟩ = some (.slice A8 n8 k8) := (by rw [hbw.cell (p := ⟨b13, 0, none⟩) hlHZ]; exact x15); have q16 : wn.cell? ⟨b13, 1, none⟩ = some (.slice B8 m8 l8) := (by rw [hbw.cell (p := ⟨b13, 1, none⟩) hlHZ]; exact x16); have q17 : wn.cell? ⟨b13, 2, none⟩ = some (.int .i64 fN) := (by rw [hbw.cell (p := ⟨b13, 2, none⟩) hlHZ]; exact x17); clear hb9)
          | (go_at_call 26; (with_reducible refine (HrK.out _ _ _ _ _ _ _ (HDg.out.below (by repeat (first | exact hbw | refine Below.push ?_ _ | refine Below.drew ?_)))).mono ?_); rintro r wn ⟨rfl, hb9⟩; replace hE := Lib.hid (hE.out.below (Below.call (by repeat (first | exact Below.refl _ _ | refine Below.push ?_ _ | refine Below.drew ?_)) hb9)); replace hbw : Below wr.heap.size wr wn := Below.call (by repeat (first | exact hbw | refine Below.push ?_ _ | refine Below.drew ?_)) hb9; (try clear q0 q1 q2 q3 q4 q5 q6 q7 q8 q9 q10 q11 q12 q13 q14 q15 q16 q17); have q0 : wn.cell? ⟨b2, 0, none⟩ = some (.slice A n c) := (by rw [hbw.cell (p := ⟨b2, 0, none⟩) hlX]; exact x0); have q1 : wn.cell? ⟨b2, 1, none⟩ = some (.slice A' m c') := (by rw [hbw.cell (p := ⟨b2, 1, none⟩) hlX]; exact x1); have q2 : wn.cell? ⟨b2, 2, none⟩ = some (.int .i64 f) := (by rw [hbw.cell (p := ⟨b2, 2, none⟩) hlX]; exact x2); have q3 : wn.cell? ⟨b2, 3, none⟩ = some (.slice B p d) := (by rw [hbw.cell (p := ⟨b2, 3, none⟩) hlX]; exact x3); have q4 : wn.cell? ⟨b2, 4, none⟩ = some (.slice B' q d') := (by rw [hbw.cell (p := ⟨b2, 4, none⟩) hlX]; exact x4); have q5 : wn.cell? ⟨b2, 5, none⟩ = some (.int .i64 g) := (by rw [hbw.cell (p := ⟨b2, 5, none⟩) hlX]; exact x5); have q6 : wn.cell? ⟨b5, 0, none⟩ = some (.slice A5 n5 k5) := (by rw [hbw.cell (p := ⟨b5, 0, none⟩) hlHU]; exact x6); have q7 : wn.cell? ⟨b5, 1, none⟩ = some (.slice B5 m5 l5) := (by rw [hbw.cell (p := ⟨b5, 1, none⟩) hlHU]; exact x7); have q8 : wn.cell? ⟨b5, 2, none⟩ = some (.int .i64 f) := (by rw [hbw.cell (p := ⟨b5, 2, none⟩) hlHU]; exact x8); have q9 : wn.cell? ⟨b6, 0, none⟩ = some (.slice A6 n6 k6) := (by rw [hbw.cell (p := ⟨b6, 0, none⟩) hlHV]; exact x9); have q10 : wn.cell? ⟨b6, 1, none⟩ = some (.slice B6 m6 l6) := (by rw [hbw.cell (p := ⟨b6, 1, none⟩) hlHV]; exact x10); have q11 : wn.cell? ⟨b6, 2, none⟩ = some (.int .i64 g) := (by rw [hbw.cell (p := ⟨b6, 2, none⟩) hlHV]; exact x11); have q12 : wn.cell? ⟨b11, 0, none⟩ = some (.slice A7 n7 k7) := (by rw [hbw.cell (p := ⟨b11, 0, none⟩) hlHY]; exact x12); have q13 : wn.cell? ⟨b11, 1, none⟩ = some (.slice B7 m7 l7) := (by rw [hbw.cell (p := ⟨b11, 1, none⟩) hlHY]; exact x13); have q14 : wn.cell? ⟨b11, 2, none⟩ = some (.int .i64 fN) := (by rw [hbw.cell (p := ⟨b11, 2, none⟩) hlHY]; exact x14); have q15 : wn.cell? ⟨b13, 0, none⟩ = some (.slice A8 n8 k8) := (by rw [hbw.cell (p := ⟨b13, 0, none⟩) hlHZ]; exact x15); have q16 : wn.cell? ⟨b13, 1, none⟩ = some (.slice B8 m8 l8) := (by rw [hbw.cell (p := ⟨b13, 1, none⟩) hlHZ]; exact x16); have q17 : wn.cell? ⟨b13, 2, none⟩ = some (.int .i64 fN) := (by rw [hbw.cell (p := ⟨b13, 2, none⟩) hlHZ]; exact x17); clear hb9)
          | (go_at_call 27; (with_reducible refine (HM.out _ _ _ _ _ _ _ _ _ _ _ _ _ (HUg.out.call (by repeat (first | exact hbw | refine Below.push ?_ _ | refine Below.drew ?_))).dev (HVg.out.call (by repeat (first | exact hbw | refine Below.push ?_ _ | refine Below.drew ?_))).dev).mono ?_); rintro r wn ⟨rfl, hb9⟩; replace hE := Lib.hid (hE.out.below (Below.call (by repeat (first | exact Below.refl _ _ | refine Below.push ?_ _ | refine Below.drew ?_)) hb9)); replace hbw : Below wr.heap.size wr wn := Below.call (by repeat (first | exact hbw | refine Below.push ?_ _ | refine Below.drew ?_)) hb9; (try clear q0 q1 q2 q3 q4 q5 q6 q7 q8 q9 q10 q11 q12 q13 q14 q15 q16 q17); have q0 : wn.cell? ⟨b2, 0, none⟩ = some (.slice A n c) := (by rw [hbw.cell (p := ⟨b2, 0, none⟩) hlX]; exact x0); have q1 : wn.cell? ⟨b2, 1, none⟩ = some (.slice A' m c') := (by rw [hbw.cell (p := ⟨b2, 1, none⟩) hlX]; exact x1); have q2 : wn.cell? ⟨b2, 2, none⟩ = some (.int .i64 f) := (by rw [hbw.cell (p := ⟨b2, 2, none⟩) hlX]; exact x2); have q3 : wn.cell? ⟨b2, 3, none⟩ = some (.slice B p d) := (by rw [hbw.cell (p := ⟨b2, 3, none⟩) hlX]; exact x3); have q4 : wn.cell? ⟨b2, 4, none⟩ = some (.slice B' q d') := (by rw [hbw.cell (p := ⟨b2, 4, none⟩) hlX]; exact x4); have q5 : wn.cell? ⟨b2, 5, none⟩ = some (.int .i64 g) := (by rw [hbw.cell (p := ⟨b2, 5, none⟩) hlX]; exact x5); have q6 : wn.cell? ⟨b5, 0, none⟩ = some (.slice A5 n5 k5) := (by rw [hbw.cell (p := ⟨b5, 0, none⟩) hlHU]; exact x6); have q7 : wn.cell? ⟨b5, 1, none⟩ = some (.slice B5 m5 l5) := (by rw [hbw.cell (p := ⟨b5, 1, none⟩) hlHU]; exact x7); have q8 : wn.cell? ⟨b5, 2, none⟩ = some (.int .i64 f) := (by rw [hbw.cell (p := ⟨b5, 2, none⟩) hlHU]; exact x8); have q9 : wn.cell? ⟨b6, 0, none⟩ = some (.slice A6 n6 k6) := (by rw [hbw.cell (p := ⟨b6, 0, none⟩) hlHV]; exact x9); have q10 : wn.cell? ⟨b6, 1, none⟩ = some (.slice B6 m6 l6) := (by rw [hbw.cell (p := ⟨b6, 1, none⟩) hlHV]; exact x10); have q11 : wn.cell? ⟨b6, 2, none⟩ = some (.int .i64 g) := (by rw [hbw.cell (p := ⟨b6, 2, none⟩) hlHV]; exact x11); have q12 : wn.cell? ⟨b11, 0, none⟩ = some (.slice A7 n7 k7) := (by rw [hbw.cell (p := ⟨b11, 0, none⟩) hlHY]; exact x12); have q13 : wn.cell? ⟨b11, 1, none⟩ = some (.slice B7 m7 l7) := (by rw [hbw.cell (p := ⟨b11, 1, none⟩) hlHY]; exact x13); have q14 : wn.cell? ⟨b11, 2, none⟩ = some (.int .i64 fN) := (by rw [hbw.cell (p := ⟨b11, 2, none⟩) hlHY]; exact x14); have q15 : wn.cell? ⟨b13, 0, none⟩ = some (.slice A8 n8 k8) := (by rw [hbw.cell (p := ⟨b13, 0, none⟩) hlHZ]; exact x15); have q16 : wn.cell? ⟨b13, 1, none⟩ = some (.slice B8 m8 l8) := (by rw [hbw.cell (p := ⟨b13, 1, none⟩) hlHZ]; exact x16); have q17 : wn.cell? ⟨b13, 2, none⟩ = some (.int .i64 fN) := (by rw [hbw.cell (p := ⟨b13, 2, none⟩) hlHZ]; exact x17); clear hb9)
          | (go_at_call 15; (with_reducible refine (HrM.out _ _ _ _ _ _ _ _ _ _ _ _ _ (HDg.out.below (by repeat (first | exact hbw | refine Below.push ?_ _ | refine Below.drew ?_))) (HEg.out.below (by repeat (first | exact hbw | refine Below.push ?_ _ | refine Below.drew ?_)))).mono ?_); rintro r wn ⟨rfl, hb9⟩; replace hE := Lib.hid (hE.out.below (Below.call (by repeat (first | exact Below.refl _ _ | refine Below.push ?_ _ | refine Below.drew ?_)) hb9)); replace hbw : Below wr.heap.size wr wn := Below.call (by repeat (first | exact hbw | refine Below.push ?_ _ | refine Below.drew ?_)) hb9; (try clear q0 q1 q2 q3 q4 q5 q6 q7 q8 q9 q10 q11 q12 q13 q14 q15 q16 q17); have q0 : wn.cell? ⟨b2, 0, none⟩ = some (.slice A n c) := (by rw [hbw.cell (p := ⟨b2, 0, none⟩) hlX]; exact x0); have q1 : wn.cell? ⟨b2, 1, none⟩ = some (.slice A' m c') := (by rw [hbw.cell (p := ⟨b2, 1, none⟩) hlX]; exact x1); have q2 : wn.cell? ⟨b2, 2, none⟩ = some (.int .i64 f) := (by rw [hbw.cell (p := ⟨b2, 2, none⟩) hlX]; exact x2); have q3 : wn.cell? ⟨b2, 3, none⟩ = some (.slice B p d) := (by rw [hbw.cell (p := ⟨b2, 3, none⟩) hlX]; exact x3); have q4 : wn.cell? ⟨b2, 4, none⟩ = some (.slice B' q d') := (by rw [hbw.cell (p := ⟨b2, 4, none⟩) hlX]; exact x4); have q5 : wn.cell? ⟨b2, 5, none⟩ = some (.int .i64 g) := (by rw [hbw.cell (p := ⟨b2, 5, none⟩) hlX]; exact x5); have q6 : wn.cell? ⟨b5, 0, none⟩ = some (.slice A5 n5 k5) := (by rw [hbw.cell (p := ⟨b5, 0, none⟩) hlHU]; exact x6); have q7 : wn.cell? ⟨b5, 1, none⟩ = some (.slice B5 m5 l5) := (by rw [hbw.cell (p := ⟨b5, 1, none⟩) hlHU]; exact x7); have q8 : wn.cell? ⟨b5, 2, none⟩ = some (.int .i64 f) := (by rw [hbw.cell (p := ⟨b5, 2, none⟩) hlHU]; exact x8); have q9 : wn.cell? ⟨b6, 0, none⟩ = some (.slice A6 n6 k6) := (by rw [hbw.cell (p := ⟨b6, 0, none⟩) hlHV]; exact x9); have q10 : wn.cell? ⟨b6, 1, none⟩ = some (.slice B6 m6 l6) := (by rw [hbw.cell (p := ⟨b6, 1, none⟩) hlHV]; exact x10); have q11 : wn.cell? ⟨b6, 2, none⟩ = some (.int .i64 g) := (by rw [hbw.cell (p := ⟨b6, 2, none⟩) hlHV]; exact x11); have q12 : wn.cell? ⟨b11, 0, none⟩ = some (.slice A7 n7 k7) := (by rw [hbw.cell (p := ⟨b11, 0, none⟩) hlHY]; exact x12); have q13 : wn.cell? ⟨b11, 1, none⟩ = some (.slice B7 m7 l7) := (by rw [hbw.cell (p := ⟨b11, 1, none⟩) hlHY]; exact x13); have q14 : wn.cell? ⟨b11, 2, none⟩ = some (.int .i64 fN) := (by rw [hbw.cell (p := ⟨b11, 2, none⟩) hlHY]; exact x14); have q15 : wn.cell? ⟨b13, 0, none⟩ = some (.slice A8 n8 k8) := (by rw [hbw.cell (p := ⟨b13, 0, none⟩) hlHZ]; exact x15); have q16 : wn.cell? ⟨b13, 1, none⟩ = some (.slice B8 m8 l8) := (by rw [hbw.cell (p := ⟨b13, 1, none⟩) hlHZ]; exact x16); have q17 : wn.cell? ⟨b13, 2, none⟩ = some (.int .i64 fN) := (by rw [hbw.cell (p := ⟨b13, 2, none⟩) hlHZ]; exact x17); clear hb9)
          | (go_at_call 16; (with_reducible refine (back_any _ _ _ _ _ _ _ _ _ _ (HYg.out.call (by repeat (first | exact hbw | refine Below.push ?_ _ | refine Below.drew ?_))).dev).mono ?_); rintro r wn ⟨A9, n9, k9, B9, m9, l9, rfl, hD9, hb9⟩; replace hE := Lib.hid (hE.out.below (Below.call (by repeat (first | exact Below.refl _ _ | refine Below.push ?_ _ | refine Below.drew ?_)) hb9)); replace hbw : Below wr.heap.size wr wn := Below.call (by repeat (first | exact hbw | refine Below.push ?_ _ | refine Below.drew ?_)) hb9; (try clear q0 q1 q2 q3 q4 q5 q6 q7 q8 q9 q10 q11 q12 q13 q14 q15 q16 q17); have q0 : wn.cell? ⟨b2, 0, none⟩ = some (.slice A n c) := (by rw [hbw.cell (p := ⟨b2, 0, none⟩) hlX]; exact x0); have q1 : wn.cell? ⟨b2, 1, none⟩ = some (.slice A' m c') := (by rw [hbw.cell (p := ⟨b2, 1, none⟩) hlX]; exact x1); have q2 : wn.cell? ⟨b2, 2, none⟩ = some (.int .i64 f) := (by rw [hbw.cell (p := ⟨b2, 2, none⟩) hlX]; exact x2); have q3 : wn.cell? ⟨b2, 3, none⟩ = some (.slice B p d) := (by rw [hbw.cell (p := ⟨b2, 3, none⟩) hlX]; exact x3); have q4 : wn.cell? ⟨b2, 4, none⟩ = some (.slice B' q d') := (by rw [hbw.cell (p := ⟨b2, 4, none⟩) hlX]; exact x4); have q5 : wn.cell? ⟨b2, 5, none⟩ = some (.int .i64 g) := (by rw [hbw.cell (p := ⟨b2, 5, none⟩) hlX]; exact x5); have q6 : wn.cell? ⟨b5, 0, none⟩ = some (.slice A5 n5 k5) := (by rw [hbw.cell (p := ⟨b5, 0, none⟩) hlHU]; exact x6); have q7 : wn.cell? ⟨b5, 1, none⟩ = some (.slice B5 m5 l5) := (by rw [hbw.cell (p := ⟨b5, 1, none⟩) hlHU]; exact x7); have q8 : wn.cell? ⟨b5, 2, none⟩ = some (.int .i64 f) := (by rw [hbw.cell (p := ⟨b5, 2, none⟩) hlHU]; exact x8); have q9 : wn.cell? ⟨b6, 0, none⟩ = some (.slice A6 n6 k6) := (by rw [hbw.cell (p := ⟨b6, 0, none⟩) hlHV]; exact x9); have q10 : wn.cell? ⟨b6, 1, none⟩ = some (.slice B6 m6 l6) := (by rw [hbw.cell (p := ⟨b6, 1, none⟩) hlHV]; exact x10); have q11 : wn.cell? ⟨b6, 2, none⟩ = some (.int .i64 g) := (by rw [hbw.cell (p := ⟨b6, 2, none⟩) hlHV]; exact x11); have q12 : wn.cell? ⟨b11, 0, none⟩ = some (.slice A7 n7 k7) := (by rw [hbw.cell (p := ⟨b11, 0, none⟩) hlHY]; exact x12); have q13 : wn.cell? ⟨b11, 1, none⟩ = some (.slice B7 m7 l7) := (by rw [hbw.cell (p := ⟨b11, 1, none⟩) hlHY]; exact x13); have q14 : wn.cell? ⟨b11, 2, none⟩ = some (.int .i64 fN) := (by rw [hbw.cell (p := ⟨b11, 2, none⟩) hlHY]; exact x14); have q15 : wn.cell? ⟨b13, 0, none⟩ = some (.slice A8 n8 k8) := (by rw [hbw.cell (p := ⟨b13, 0, none⟩) hlHZ]; exact x15); have q16 : wn.cell? ⟨b13, 1, none⟩ = some (.slice B8 m8 l8) := (by rw [hbw.cell (p := ⟨b13, 1, none⟩) hlHZ]; exact x16); have q17 : wn.cell? ⟨b13, 2, none⟩ = some (.int .i64 fN) := (by rw [hbw.cell (p := ⟨b13, 2, none⟩) hlHZ]; exact x17); replace hE := Lib.hid hD9; clear hD9 hb9)
          | (go_at_call 15; (with_reducible refine (HSm.out _ _ _ _ _ _ _ _ _ _ _ _ _ (hE.out.below (by repeat (first | exact Below.refl _ _ | refine Below.push ?_ _ | refine Below.drew ?_))) (HZg.out.call (by repeat (first | exact hbw | refine Below.push ?_ _ | refine Below.drew ?_))).dev).mono ?_); rintro r wn ⟨rfl, hb9⟩; replace hE := Lib.hid (hE.out.below (Below.call (by repeat (first | exact Below.refl _ _ | refine Below.push ?_ _ | refine Below.drew ?_)) hb9)); replace hbw : Below wr.heap.size wr wn := Below.call (by repeat (first | exact hbw | refine Below.push ?_ _ | refine Below.drew ?_)) hb9; (try clear q0 q1 q2 q3 q4 q5 q6 q7 q8 q9 q10 q11 q12 q13 q14 q15 q16 q17); have q0 : wn.cell? ⟨b2, 0, none⟩ = some (.slice A n c) := (by rw [hbw.cell (p := ⟨b2, 0, none⟩) hlX]; exact x0); have q1 : wn.cell? ⟨b2, 1, none⟩ = some (.slice A' m c') := (by rw [hbw.cell (p := ⟨b2, 1, none⟩) hlX]; exact x1); have q2 : wn.cell? ⟨b2, 2, none⟩ = some (.int .i64 f) := (by rw [hbw.cell (p := ⟨b2, 2, none⟩) hlX]; exact x2); have q3 : wn.cell? ⟨b2, 3, none⟩ = some (.slice B p d) := (by rw [hbw.cell (p := ⟨b2, 3, none⟩) hlX]; exact x3); have q4 : wn.cell? ⟨b2, 4, none⟩ = some (.slice B' q d') := (by rw [hbw.cell (p := ⟨b2, 4, none⟩) hlX]; exact x4); have q5 : wn.cell? ⟨b2, 5, none⟩ = some (.int .i64 g) := (by rw [hbw.cell (p := ⟨b2, 5, none⟩) hlX]; exact x5); have q6 : wn.cell? ⟨b5, 0, none⟩ = some (.slice A5 n5 k5) := (by rw [hbw.cell (p := ⟨b5, 0, none⟩) hlHU]; exact x6); have q7 : wn.cell? ⟨b5, 1, none⟩ = some (.slice B5 m5 l5) := (by rw [hbw.cell (p := ⟨b5, 1, none⟩) hlHU]; exact x7); have q8 : wn.cell? ⟨b5, 2, none⟩ = some (.int .i64 f) := (by rw [hbw.cell (p := ⟨b5, 2, none⟩) hlHU]; exact x8); have q9 : wn.cell? ⟨b6, 0, none⟩ = some (.slice A6 n6 k6) := (by rw [hbw.cell (p := ⟨b6, 0, none⟩) hlHV]; exact x9); have q10 : wn.cell? ⟨b6, 1, none⟩ = some (.slice B6 m6 l6) := (by rw [hbw.cell (p := ⟨b6, 1, none⟩) hlHV]; exact x10); have q11 : wn.cell? ⟨b6, 2, none⟩ = some (.int .i64 g) := (by rw [hbw.cell (p := ⟨b6, 2, none⟩) hlHV]; exact x11); have q12 : wn.cell? ⟨b11, 0, none⟩ = some (.slice A7 n7 k7) := (by rw [hbw.cell (p := ⟨b11, 0, none⟩) hlHY]; exact x12); have q13 : wn.cell? ⟨b11, 1, none⟩ = some (.slice B7 m7 l7) := (by rw [hbw.cell (p := ⟨b11, 1, none⟩) hlHY]; exact x13); have q14 : wn.cell? ⟨b11, 2, none⟩ = some (.int .i64 fN) := (by rw [hbw.cell (p := ⟨b11, 2, none⟩) hlHY]; exact x14); have q15 : wn.cell? ⟨b13, 0, none⟩ = some (.slice A8 n8 k8) := (by rw [hbw.cell (p := ⟨b13, 0, none⟩) hlHZ]; exact x15); have q16 : wn.cell? ⟨b13, 1, none⟩ = some (.slice B8 m8 l8) := (by rw [hbw.cell (p := ⟨b13, 1, none⟩) hlHZ]; exact x16); have q17 : wn.cell? ⟨b13, 2, none⟩ = some (.int .i64 fN) := (by rw [hbw.cell (p := ⟨b13, 2, none⟩) hlHZ]; exact x17); clear hb9)
          | (go_at_call 9; (with_reducible refine (awake_any _).mono ?_); rintro r wn ⟨rfl, hb9⟩; replace hE := Lib.hid (hE.out.below (Below.call (by repeat (first | exact Below.refl _ _ | refine Below.push ?_ _ | refine Below.drew ?_)) hb9)); replace hbw : Below wr.heap.size wr wn := Below.call (by repeat (first | exact hbw | refine Below.push ?_ _ | refine Below.drew ?_)) hb9; (try clear q0 q1 q2 q3 q4 q5 q6 q7 q8 q9 q10 q11 q12 q13 q14 q15 q16 q17); have q0 : wn.cell? ⟨b2, 0, none⟩ = some (.slice A n c) := (by rw [hbw.cell (p := ⟨b2, 0, none⟩) hlX]; exact x0); have q1 : wn.cell? ⟨b2, 1, none⟩ = some (.slice A' m c') := (by rw [hbw.cell (p := ⟨b2, 1, none⟩) hlX]; exact x1); have q2 : wn.cell? ⟨b2, 2, none⟩ = some (.int .i64 f) := (by rw [hbw.cell (p := ⟨b2, 2, none⟩) hlX]; exact x2); have q3 : wn.cell? ⟨b2, 3, none⟩ = some (.slice B p d) := (by rw [hbw.cell (p := ⟨b2, 3, none⟩) hlX]; exact x3); have q4 : wn.cell? ⟨b2, 4, none⟩ = some (.slice B' q d') := (by rw [hbw.cell (p := ⟨b2, 4, none⟩) hlX]; exact x4); have q5 : wn.cell? ⟨b2, 5, none⟩ = some (.int .i64 g) := (by rw [hbw.cell (p := ⟨b2, 5, none⟩) hlX]; exact x5); have q6 : wn.cell? ⟨b5, 0, none⟩ = some (.slice A5 n5 k5) := (by rw [hbw.cell (p := ⟨b5, 0, none⟩) hlHU]; exact x6); have q7 : wn.cell? ⟨b5, 1, none⟩ = some (.slice B5 m5 l5) := (by rw [hbw.cell (p := ⟨b5, 1, none⟩) hlHU]; exact x7); have q8 : wn.cell? ⟨b5, 2, none⟩ = some (.int .i64 f) := (by rw [hbw.cell (p := ⟨b5, 2, none⟩) hlHU]; exact x8); have q9 : wn.cell? ⟨b6, 0, none⟩ = some (.slice A6 n6 k6) := (by rw [hbw.cell (p := ⟨b6, 0, none⟩) hlHV]; exact x9); have q10 : wn.cell? ⟨b6, 1, none⟩ = some (.slice B6 m6 l6) := (by rw [hbw.cell (p := ⟨b6, 1, none⟩) hlHV]; exact x10); have q11 : wn.cell? ⟨b6, 2, none⟩ = some (.int .i64 g) := (by rw [hbw.cell (p := ⟨b6, 2, none⟩) hlHV]; exact x11); have q12 : wn.cell? ⟨b11, 0, none⟩ = some (.slice A7 n7 k7) := (by rw [hbw.cell (p := ⟨b11, 0, none⟩) hlHY]; exact x12); have q13 : wn.cell? ⟨b11, 1, none⟩ = some (.slice B7 m7 l7) := (by rw [hbw.cell (p := ⟨b11, 1, none⟩) hlHY]; exact x13); have q14 : wn.cell? ⟨b11, 2, none⟩ = some (.int .i64 fN) := (by rw [hbw.cell (p := ⟨b11, 2, none⟩) hlHY]; exact x14); have q15 : wn.cell? ⟨b13, 0, none⟩ = some (.slice A8 n8 k8) := (by rw [hbw.cell (p := ⟨b13, 0, none⟩) hlHZ]; exact x15); have q16 : wn.cell? ⟨b13, 1, none⟩ = some (.slice B8 m8 l8) := (by rw [hbw.cell (p := ⟨b13, 1, none⟩) hlHZ]; exact x16); have q17 : wn.cell? ⟨b13, 2, none⟩ = some (.int .i64 fN) := (by rw [hbw.cell (p := ⟨b13, 2, none⟩) hlHZ]; exact x17); clear hb9)
        )
      all_goals go_wp2_with fail
      all_goals go_meet
      all_goals exact ⟨by simp, (by repeat (first | exact hbw | refine Below.push ?_ _ | refine Below.drew ?_))⟩
    case rest =>
      obtain ⟨rfl, hbc⟩ := hcut
      obtain rfl := Hb2.out
      have HBz := Lib.hid (HBg.out.call hbc.out)
      go_wp2_with fail
      go_ret
      exact ⟨rfl, HBz.out⟩
end Go.Proofs.Ytgjhiekcdcicgaa
