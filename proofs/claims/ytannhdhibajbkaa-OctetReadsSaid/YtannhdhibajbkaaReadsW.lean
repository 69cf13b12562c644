/- The walk of OctetReads. -/
import Derived.Test.YtannhdhibajbkaaRefTake
import Derived.Test.YtannhdhibajbkaaAwakeW
import Derived.Test.YtannhdhibajbkaaClass
import Derived.Deep.RegionHeld3
import Derived.Deep.DeepCutAuto
namespace Go.Proofs.Ytannhdhibajbkaa
open Go.RowKit Go.Deep Go.Lib

theorem blt {W w1 : World} (hb : Below W.heap.size W w1) : ∀ b, b < W.heap.size → b < w1.heap.size := fun _ h => Nat.lt_of_lt_of_le h hb.size

/-- Two cursors of the call's own that read alike. -/
def Pair (w : World) (b5 b6 : Nat) (s : ByteArray) (p e : Int) (W : World) : Prop :=
  Below w.heap.size w W ∧ Box W b5 (.string s) (.int .i64 p) (.int .i64 e) ∧ Box W b6 (.string s) (.int .i64 p) (.int .i64 e) ∧ b5 < W.heap.size ∧ b6 < W.heap.size ∧ w.heap.size ≤ b5 ∧ w.heap.size ≤ b6 ∧ b5 ≠ b6

theorem Pair.symm {w : World} {b5 b6 : Nat} {s : ByteArray} {p e : Int} {W : World} (h : Pair w b5 b6 s p e W) : Pair w b6 b5 s p e W :=
  ⟨h.1, h.2.2.1, h.2.1, h.2.2.2.2.1, h.2.2.2.1, h.2.2.2.2.2.2.1, h.2.2.2.2.2.1, h.2.2.2.2.2.2.2.symm⟩

/-- The block c is a cursor, and lies there. -/
def There (c : Nat) (s : ByteArray) (p e : Int) (W : World) : Prop := Box W c (.string s) (.int .i64 p) (.int .i64 e) ∧ c < W.heap.size

/-- The block behind a cursor's. -/
theorem box_next (w : World) (s : ByteArray) (p e : Int) (t : TypeId) : Box ((w.alloc (.cells #[.string s, .int .i64 p, .int .i64 e] 35)).alloc (.cells #[.string ⟨#[]⟩, .int .i64 0, .int .i64 0] t)) (w.heap.size + 1) (.string ⟨#[]⟩) (.int .i64 0) (.int .i64 0) := by
  have h := Box.new (w.alloc (.cells #[.string s, .int .i64 p, .int .i64 e] 35)) (.string ⟨#[]⟩) (.int .i64 0) (.int .i64 0) t
  rwa [World.size_alloc] at h
theorem box_last (w : World) (s : ByteArray) (p e : Int) (t t' : TypeId) : Box (((w.alloc (.cells #[.string s, .int .i64 p, .int .i64 e] 35)).alloc (.cells #[.string ⟨#[]⟩, .int .i64 0, .int .i64 0] t)).alloc (.cells #[.string ⟨#[]⟩, .int .i64 0, .int .i64 0] t')) (w.heap.size + 1 + 1) (.string ⟨#[]⟩) (.int .i64 0) (.int .i64 0) := by
  have h := Box.new ((w.alloc (.cells #[.string s, .int .i64 p, .int .i64 e] 35)).alloc (.cells #[.string ⟨#[]⟩, .int .i64 0, .int .i64 0] t)) (.string ⟨#[]⟩) (.int .i64 0) (.int .i64 0) t'
  rwa [World.size_alloc, World.size_alloc] at h

theorem meet_new {w w2 : World} {c : Nat} {s : ByteArray} {p e : Int} (hb : Below w.heap.size w w2) (h0 : There c s p e w2) (t t' : TypeId) :
    Pair w w2.heap.size (w2.heap.size + 1) s p e ((w2.alloc (.cells #[.string s, .int .i64 p, .int .i64 e] t)).alloc (.cells #[.string s, .int .i64 p, .int .i64 e] t')) ∧ There c s p e ((w2.alloc (.cells #[.string s, .int .i64 p, .int .i64 e] t)).alloc (.cells #[.string s, .int .i64 p, .int .i64 e] t')) := by
  have hz := hb.size
  have h2 := Box.new (w2.alloc (.cells #[.string s, .int .i64 p, .int .i64 e] t)) (.string s) (.int .i64 p) (.int .i64 e) t'
  rw [World.size_alloc] at h2
  refine ⟨⟨(hb.push _).push _, (Box.new w2 _ _ _ t).alloc (by simp) _, h2, ?_, ?_, hz, by omega, by omega⟩, (h0.1.alloc h0.2 _).alloc (by rw [World.size_alloc]; have := h0.2; omega) _, ?_⟩
  · rw [World.size_alloc, World.size_alloc]; omega
  · rw [World.size_alloc, World.size_alloc]; omega
  · rw [World.size_alloc, World.size_alloc]; have := h0.2; omega

theorem meet_one {w w2 : World} {c g : Nat} {s : ByteArray} {p e : Int} {x y z : Value} (hb : Below w.heap.size w w2) (h0 : There c s p e w2) (hg : Box w2 g x y z) (hgl : g < w2.heap.size) (hw : w.heap.size ≤ g) (hne : c ≠ g) (t : TypeId) :
    Pair w g w2.heap.size s p e ((((w2.setCell ⟨g, 0, none⟩ (.string s)).setCell ⟨g, 1, none⟩ (.int .i64 p)).setCell ⟨g, 2, none⟩ (.int .i64 e)).alloc (.cells #[.string s, .int .i64 p, .int .i64 e] t)) ∧
      There c s p e ((((w2.setCell ⟨g, 0, none⟩ (.string s)).setCell ⟨g, 1, none⟩ (.int .i64 p)).setCell ⟨g, 2, none⟩ (.int .i64 e)).alloc (.cells #[.string s, .int .i64 p, .int .i64 e] t)) := by
  obtain ⟨m1, m2, m3, m4⟩ := set3_keeps hb hg h0.1 hne hw (.string s) (.int .i64 p) (.int .i64 e)
  have hc := h0.2
  have h2 := Box.new (((w2.setCell ⟨g, 0, none⟩ (.string s)).setCell ⟨g, 1, none⟩ (.int .i64 p)).setCell ⟨g, 2, none⟩ (.int .i64 e)) (.string s) (.int .i64 p) (.int .i64 e) t
  rw [m4] at h2
  refine ⟨⟨m3.push _, m1.alloc (by omega) _, h2, ?_, ?_, hw, by omega, by omega⟩, m2.alloc (by omega) _, ?_⟩
  all_goals rw [World.size_alloc, m4]; omega

theorem meet_two {w w2 : World} {c g g' : Nat} {s : ByteArray} {p e : Int} {x y z x' y' z' : Value} (hb : Below w.heap.size w w2) (h0 : There c s p e w2) (hg : Box w2 g x y z) (hg' : Box w2 g' x' y' z') (hgl : g < w2.heap.size) (hgl' : g' < w2.heap.size)
    (hw : w.heap.size ≤ g) (hw' : w.heap.size ≤ g') (hne : c ≠ g) (hne' : c ≠ g') (hgg : g ≠ g') :
    Pair w g g' s p e ((((((w2.setCell ⟨g, 0, none⟩ (.string s)).setCell ⟨g, 1, none⟩ (.int .i64 p)).setCell ⟨g, 2, none⟩ (.int .i64 e)).setCell ⟨g', 0, none⟩ (.string s)).setCell ⟨g', 1, none⟩ (.int .i64 p)).setCell ⟨g', 2, none⟩ (.int .i64 e)) ∧
      There c s p e ((((((w2.setCell ⟨g, 0, none⟩ (.string s)).setCell ⟨g, 1, none⟩ (.int .i64 p)).setCell ⟨g, 2, none⟩ (.int .i64 e)).setCell ⟨g', 0, none⟩ (.string s)).setCell ⟨g', 1, none⟩ (.int .i64 p)).setCell ⟨g', 2, none⟩ (.int .i64 e)) := by
  obtain ⟨m1, m2, m3, m4⟩ := set3_keeps hb hg h0.1 hne hw (.string s) (.int .i64 p) (.int .i64 e)
  obtain ⟨-, m5, -, -⟩ := set3_keeps hb hg hg' hgg.symm hw (.string s) (.int .i64 p) (.int .i64 e)
  obtain ⟨l1, l2, l3, l4⟩ := set3_keeps m3 m5 m1 hgg hw' (.string s) (.int .i64 p) (.int .i64 e)
  obtain ⟨-, l5, -, -⟩ := set3_keeps m3 m5 m2 hne' hw' (.string s) (.int .i64 p) (.int .i64 e)
  have hc := h0.2
  exact ⟨⟨l3, l2, l1, by rw [l4, m4]; omega, by rw [l4, m4]; omega, hw, hw', hgg⟩, l5, by rw [l4, m4]; omega⟩

theorem Pair.kept {w : World} {b5 b6 : Nat} {s : ByteArray} {p e : Int} (W W' : World) (h : Pair w b5 b6 s p e W) (hb : Below W.heap.size W W') : Pair w b5 b6 s p e W' :=
  ⟨h.1.call hb, h.2.1.below hb h.2.2.2.1, h.2.2.1.below hb h.2.2.2.2.1, Nat.lt_of_lt_of_le h.2.2.2.1 hb.size, Nat.lt_of_lt_of_le h.2.2.2.2.1 hb.size, h.2.2.2.2.2⟩
theorem There.kept {c : Nat} {s : ByteArray} {p e : Int} {W W' : World} (h : There c s p e W) (hb : Below W.heap.size W W') : There c s p e W' :=
  ⟨h.1.below hb h.2, Nat.lt_of_lt_of_le h.2 hb.size⟩
theorem drawn_below (W : World) : Below W.heap.size W { W with drawn := W.drawn + 1 } := ⟨rfl, rfl, rfl, Nat.le_refl _, fun _ _ => rfl⟩

/-- Two cursors, and a third. -/
def Both (w : World) (b5 b6 c : Nat) (s : ByteArray) (p e : Int) (W : World) : Prop := Pair w b5 b6 s p e W ∧ There c s p e W
theorem Both.kept {w : World} {b5 b6 c : Nat} {s : ByteArray} {p e : Int} (W W' : World) (h : Both w b5 b6 c s p e W) (hb : Below W.heap.size W W') : Both w b5 b6 c s p e W' := ⟨h.1.kept _ _ hb, h.2.kept hb⟩

/-- Two cursors, and a new one of the call's own. -/
def Trio (w : World) (b5 b6 g : Nat) (s : ByteArray) (p e q f : Int) (W : World) : Prop := Pair w b5 b6 s p e W ∧ There g s q f W ∧ w.heap.size ≤ g ∧ g ≠ b5 ∧ g ≠ b6
theorem Trio.kept {w : World} {b5 b6 g : Nat} {s : ByteArray} {p e q f : Int} (W W' : World) (h : Trio w b5 b6 g s p e q f W) (hb : Below W.heap.size W W') : Trio w b5 b6 g s p e q f W' :=
  ⟨h.1.kept _ _ hb, h.2.1.kept hb, h.2.2⟩
theorem trio_new {w w2 : World} {b5 b6 : Nat} {s : ByteArray} {p e : Int} (h : Pair w b5 b6 s p e w2) (q f : Int) (t : TypeId) : Trio w b5 b6 w2.heap.size s p e q f (w2.alloc (.cells #[.string s, .int .i64 q, .int .i64 f] t)) :=
  ⟨h.kept _ _ ((Below.refl _ _).push _), ⟨Box.new w2 _ _ _ t, by simp⟩, h.1.size, fun x => Nat.lt_irrefl _ (x ▸ h.2.2.2.1), fun x => Nat.lt_irrefl _ (x ▸ h.2.2.2.2.1)⟩
theorem trio_set {w w2 : World} {b5 b6 g : Nat} {s : ByteArray} {p e : Int} {x y z : Value} (h : Pair w b5 b6 s p e w2) (hg : Box w2 g x y z) (hgl : g < w2.heap.size) (hw : w.heap.size ≤ g) (h5 : g ≠ b5) (h6 : g ≠ b6) (q f : Int) :
    Trio w b5 b6 g s p e q f (((w2.setCell ⟨g, 0, none⟩ (.string s)).setCell ⟨g, 1, none⟩ (.int .i64 q)).setCell ⟨g, 2, none⟩ (.int .i64 f)) := by
  obtain ⟨p1, p2, p3, p4, p5, p6, p7, p8⟩ := h
  obtain ⟨m1, m2, m3, m4⟩ := set3_keeps p1 hg p2 h5.symm hw (.string s) (.int .i64 q) (.int .i64 f)
  obtain ⟨-, m5, -, -⟩ := set3_keeps p1 hg p3 h6.symm hw (.string s) (.int .i64 q) (.int .i64 f)
  exact ⟨⟨m3, m2, m5, by rw [m4]; exact p4, by rw [m4]; exact p5, p6, p7, p8⟩, ⟨m1, by rw [m4]; exact hgl⟩, hw, h5, h6⟩

theorem pair_set {w w3 : World} {b5 b6 : Nat} {s : ByteArray} {p e : Int} (h : Pair w b5 b6 s p e w3) (q f : Int) :
    Pair w b5 b6 s q f ((((((w3.setCell ⟨b5, 0, none⟩ (.string s)).setCell ⟨b5, 1, none⟩ (.int .i64 q)).setCell ⟨b5, 2, none⟩ (.int .i64 f)).setCell ⟨b6, 0, none⟩ (.string s)).setCell ⟨b6, 1, none⟩ (.int .i64 q)).setCell ⟨b6, 2, none⟩ (.int .i64 f)) := by
  obtain ⟨p1, p2, p3, p4, p5, p6, p7, p8⟩ := h
  obtain ⟨m1, m2, m3, m4⟩ := set3_keeps p1 p2 p3 p8.symm p6 (.string s) (.int .i64 q) (.int .i64 f)
  obtain ⟨l1, l2, l3, l4⟩ := set3_keeps m3 m2 m1 p8 p7 (.string s) (.int .i64 q) (.int .i64 f)
  exact ⟨l3, l2, l1, by rw [l4, m4]; exact p4, by rw [l4, m4]; exact p5, p6, p7, p8⟩
theorem Pair.drew {w : World} {b5 b6 : Nat} {s : ByteArray} {p e : Int} {W : World} (h : Pair w b5 b6 s p e W) : Pair w b5 b6 s p e W.drew := h.kept _ _ (Below.refl _ W).drew
theorem Pair.push {w : World} {b5 b6 : Nat} {s : ByteArray} {p e : Int} {W : World} (h : Pair w b5 b6 s p e W) (o : Obj) : Pair w b5 b6 s p e (W.alloc o) := h.kept _ _ ((Below.refl _ _).push _)

/-- A new cursor, and another one. -/
def Quad (w : World) (b5 b6 g g' : Nat) (s : ByteArray) (p e q f : Int) (W : World) : Prop := Trio w b5 b6 g s p e q f W ∧ Trio w b5 b6 g' s p e q f W ∧ g ≠ g'
theorem quad_new {w w2 : World} {b5 b6 g : Nat} {s : ByteArray} {p e q f : Int} (h : Trio w b5 b6 g s p e q f w2) (t : TypeId) : Quad w b5 b6 g w2.heap.size s p e q f (w2.alloc (.cells #[.string s, .int .i64 q, .int .i64 f] t)) :=
  ⟨h.kept _ _ ((Below.refl _ _).push _), trio_new h.1 q f t, fun x => Nat.lt_irrefl _ (x ▸ h.2.1.2)⟩
theorem quad_set {w w2 : World} {b5 b6 g g' : Nat} {s : ByteArray} {p e q f : Int} {x y z : Value} (h : Trio w b5 b6 g s p e q f w2) (hg : Box w2 g' x y z) (hgl : g' < w2.heap.size) (hw : w.heap.size ≤ g') (h5 : g' ≠ b5) (h6 : g' ≠ b6) (hgg : g ≠ g') :
    Quad w b5 b6 g g' s p e q f (((w2.setCell ⟨g', 0, none⟩ (.string s)).setCell ⟨g', 1, none⟩ (.int .i64 q)).setCell ⟨g', 2, none⟩ (.int .i64 f)) := by
  have t := trio_set h.1 hg hgl hw h5 h6 q f
  obtain ⟨-, m2, -, m4⟩ := set3_keeps h.1.1 hg h.2.1.1 hgg hw (.string s) (.int .i64 q) (.int .i64 f)
  exact ⟨⟨t.1, ⟨m2, by rw [m4]; exact h.2.1.2⟩, h.2.2⟩, t, hgg⟩

set_option maxRecDepth 100000 in
set_option maxHeartbeats 4000000 in
theorem walk_reads (s : ByteArray) (p e : Int) (a : Option Addr) (len cap : Nat) (zs : List Int) (w : World) (hs : s.size ≤ maxLen) (hR : ReadsV w a len (zs.map (.int .i64))) (hm : len ≤ maxLen) :
    Calls Try.prog 4 #[CV s p e, .slice a len cap] w fun r w' => r = .returned (.bool true) ∧ Below w.heap.size w w' := by
  unfold maxLen at hm
  by_cases hg : ¬ ((s.size : Int) ≤ 300 ∧ (len : Int) ≤ 30)
  · by_cases h1 : (300 : Int) < s.size
    all_goals
      go_enter Try.func4, Try.ntmps4
      go_wp2_with (go_at_call 7; refine (awake_any _).mono ?_; rintro e w' ⟨rfl, hb⟩)
      go_ret
      exact ⟨rfl, ((Below.refl _ _).push _).call hb⟩
  obtain ⟨g1, g2⟩ := Decidable.not_not.1 hg
  clear hg
  have d1 : decide ((300 : Int) < s.size) = false := decide_eq_false (by omega)
  have d2 : decide ((30 : Int) < len) = false := decide_eq_false (by omega)
  have HR := Lib.hid hR
  have HC := Lib.hid (Box.new w (.string s) (.int .i64 p) (.int .i64 e) 35)
  clear hR
  go_enter Try.func4, Try.ntmps4
  go_upto_region 3 with fail
  go_cut [5, 6] (fun s5 s6 wx => ∃ b5 b6 : Nat, s5 = .pointer (some ⟨b5, 0, none⟩) ∧ s6 = .pointer (some ⟨b6, 0, none⟩) ∧ Pair w b5 b6 s p e wx ∧ There w.heap.size s p e wx)
  case first =>
    have n1 : ¬ w.heap.size + 1 = w.heap.size := by omega
    have n2 : ¬ w.heap.size + 1 + 1 = w.heap.size := by omega
    have i1 : w.heap.size < w.heap.size + 1 + 1 := by omega
    have i2 : w.heap.size < w.heap.size + 1 + 1 + 1 := by omega
    have i3 : w.heap.size + 1 < w.heap.size + 1 + 1 + 1 := by omega
    have n6 : ¬ w.heap.size + 1 + 1 = w.heap.size + 1 := by omega
    have n7 : ¬ w.heap.size + 1 = w.heap.size + 1 + 1 := by omega
    go_region_held3 (fun W => W.cell? ⟨w.heap.size, 0, none⟩ = some (.string s) ∧ W.cell? ⟨w.heap.size, 1, none⟩ = some (.int .i64 p) ∧ W.cell? ⟨w.heap.size, 2, none⟩ = some (.int .i64 e)) (go_keep)
      (first | (go_at_call 13; ((with_reducible refine (own_any s p e _).mono ?_)); rintro r w2 ⟨rfl, hb2⟩; obtain ⟨hc, hf⟩ := bcell hb2; have hlt := blt hb2; have hbw : Below w.heap.size w w2 := (Below.call (by repeat (first | exact Below.refl _ _ | refine Below.push ?_ _ | refine Below.drew ?_)) hb2); have q0 : w2.cell? ⟨w.heap.size, 0, none⟩ = some (.string s) := (by rw [hc _ _ (by simp <;> omega)]; simp [go_sem]); have q1 : w2.cell? ⟨w.heap.size, 1, none⟩ = some (.int .i64 p) := (by rw [hc _ _ (by simp <;> omega)]; simp [go_sem]); have q2 : w2.cell? ⟨w.heap.size, 2, none⟩ = some (.int .i64 e) := (by rw [hc _ _ (by simp <;> omega)]; simp [go_sem]); have hz2 : w.heap.size < w2.heap.size := (by have := hb2.size; simp at this; omega); have n3 : ¬ w2.heap.size = w.heap.size := (by omega); have n4 : ¬ w2.heap.size + 1 = w.heap.size := (by omega)))
    · go_wp2_with fail
      have h0 : There w.heap.size s p e w2 := ⟨HC.out.below (undrew hb2) (by simp), hz2⟩
      go_meet
      exact ⟨_, _, rfl, rfl, meet_new hbw h0 38 35⟩
    · go_wp2_with fail
      have h0 : There w.heap.size s p e w2 := ⟨HC.out.below (undrew hb2) (by simp), hz2⟩
      go_meet
      have m := meet_new hbw h0 35 38
      exact ⟨_, _, rfl, rfl, m.1.symm, m.2⟩
    · go_wp2_with fail
      have h0 : There w.heap.size s p e w2 := ⟨(HC.out.alloc (by simp) _).below (undrew hb2) (by simp; omega), hz2⟩
      have h1 := (box_next w s p e 38).below (undrew hb2) (by simp)
      have h2 : w.heap.size + 1 < w2.heap.size := by have := (undrew hb2).size; simp at this; omega
      go_meet
      exact ⟨_, _, rfl, rfl, meet_one hbw h0 h1 h2 (by omega) (by omega) 35⟩
    · go_wp2_with fail
      have h0 : There w.heap.size s p e w2 := ⟨((HC.out.alloc (by simp) _).alloc (by simp <;> omega) _).below (undrew hb2) (by simp <;> omega), hz2⟩
      have h1 := ((box_next w s p e 38).alloc (by simp) _).below (undrew hb2) (by simp <;> omega)
      have h3 := (box_last w s p e 38 35).below (undrew hb2) (by simp)
      have h2 : w.heap.size + 1 + 1 < w2.heap.size := by have := (undrew hb2).size; simp at this; omega
      go_meet
      exact ⟨_, _, rfl, rfl, meet_two hbw h0 h1 h3 (by omega) h2 (by omega) (by omega) (by omega) (by omega) (by omega)⟩
    · go_wp2_with fail
      have h0 : There w.heap.size s p e w2 := ⟨(HC.out.alloc (by simp) _).below (undrew hb2) (by simp; omega), hz2⟩
      have h1 := (box_next w s p e 35).below (undrew hb2) (by simp)
      have h2 : w.heap.size + 1 < w2.heap.size := by have := (undrew hb2).size; simp at this; omega
      go_meet
      have m := meet_one hbw h0 h1 h2 (by omega) (by omega) 38
      exact ⟨_, _, rfl, rfl, m.1.symm, m.2⟩
    · go_wp2_with fail
      have h0 : There w.heap.size s p e w2 := ⟨((HC.out.alloc (by simp) _).alloc (by simp <;> omega) _).below (undrew hb2) (by simp <;> omega), hz2⟩
      have h1 := ((box_next w s p e 35).alloc (by simp) _).below (undrew hb2) (by simp <;> omega)
      have h3 := (box_last w s p e 35 38).below (undrew hb2) (by simp)
      have h2 : w.heap.size + 1 + 1 < w2.heap.size := by have := (undrew hb2).size; simp at this; omega
      go_meet
      exact ⟨_, _, rfl, rfl, meet_two hbw h0 h3 h1 h2 (by omega) (by omega) (by omega) (by omega) (by omega) (by omega)⟩
  case rest =>
    obtain ⟨b5, b6, rfl, rfl, hP, hT⟩ := hcut
    clear HC
    go_upto_region 4 with fail
    go_cut [36] (fun c wx => c = .bool false ∧ Pair w b5 b6 s p e wx)
    case first =>
      refine wp_region_class (Both w b5 b6 w.heap.size s p e) (Both.kept _ _ ⟨hP, hT⟩ (drawn_below _)) (by kernel_rfl) (by kernel_rfl) ?_
      intro hne
      have r0 := fun x : Wd (Both w b5 b6 w.heap.size s p e) => x.ok.2.1.c0
      clear hP hT
      repeat (go_big_quiet_step ((first | exact wd_call Both.kept (new_any s _) | exact wd_call Both.kept (back_any s 0 0 _) | exact wd_call Both.kept (rnew_any s _))))
      refine wpQuiet_nil ?_
      rintro _ ⟨x, rfl⟩
      go_wp2_with fail
      go_meet
      exact ⟨rfl, x.ok.1⟩
    case rest =>
      obtain ⟨rfl, hP⟩ := hcut
      have HP := Lib.hid hP
      clear hP hT
      go_wp2_with fail
      go_loopw [7] (fun i wr => ∃ (k : Nat) (p e : Int), k ≤ len ∧ i = .int .i64 k ∧ Pair w b5 b6 s p e wr) (fun i _ => len - (intOf i).toNat)
      case atStart => exact ⟨0, p, e, by omega, rfl, HP.out⟩
      case round =>
        clear HP
        obtain ⟨k, p, e, hk, rfl, hP⟩ := hrel
        by_cases hlt : k < len
        · obtain ⟨b, off, rfl, hlb, hc⟩ := (HR.out.below hP.1).2 (by omega)
          have hkl : k < zs.length := by have := HR.out.1; simp at this; omega
          have hck0 := (HR.out.2 (by omega))
          obtain ⟨b', off', e1, hb0, hc0⟩ := hck0
          injection e1 with e1
          injection e1 with e1 e2
          subst e1 e2
          have hck := hc0 k (by simpa using hkl)
          rw [List.getElem_map] at hck
          generalize zs[k] = z at *
          have HK := Lib.hid hck
          clear hc hc0 hlb hck
          go_upto_region 9 with fail
          go_cut [54] (fun c wx => c = .bool false ∧ Pair w b5 b6 s p e wx)
          case first =>
            refine wp_region_class (Pair w b5 b6 s p e) (Pair.kept _ _ hP (drawn_below _)) (by kernel_rfl) (by kernel_rfl) ?_
            intro hne
            have r0 := fun x : Wd (Pair w b5 b6 s p e) => x.ok.2.1.c0
            have r1 := fun x : Wd (Pair w b5 b6 s p e) => x.ok.2.1.c1
            have r2 := fun x : Wd (Pair w b5 b6 s p e) => x.ok.2.1.c2
            have r3 := fun x : Wd (Pair w b5 b6 s p e) => x.ok.2.2.1.c0
            have r4 := fun x : Wd (Pair w b5 b6 s p e) => x.ok.2.2.1.c1
            have r5 := fun x : Wd (Pair w b5 b6 s p e) => x.ok.2.2.1.c2
            clear hP
            repeat (go_big_quiet_step ((first | exact wd_call Pair.kept (left_any s p e _ hs) | exact wd_call Pair.kept (rleft_any s p e _ hs) | exact wd_call Pair.kept (end_any s p e _ hs) | exact wd_call Pair.kept (rend_any s p e _ hs))))
            refine wpQuiet_nil ?_
            rintro _ ⟨x, rfl⟩
            go_wp2_with fail
            go_meet
            exact ⟨rfl, x.ok⟩
          case rest =>
            clear hP
            obtain ⟨rfl, hP⟩ := hcut
            have hckc := (hP.1.cell (p := ⟨b, off + k, none⟩) hb0).trans HK.out
            have HP := Lib.hid hP
            clear hP
            go_upto_if 59 with fail
            go_cut [] (fun wx => ∃ q f : Int, Pair w b5 b6 s q f wx)
            case first =>
              obtain ⟨p1, p2, p3, p4, p5, p6, p7, p8⟩ := HP.out
              obtain ⟨x0, x1, x2, y0, y1, y2⟩ := p2
              obtain ⟨x3, x4, x5, y3, y4, y5⟩ := p3
              by_cases hz : z = 0
              · subst hz
                have HT := Lib.hid (fun W => take_any s p e W hs)
                have HU := Lib.hid (fun W => rtake_any s p e W hs)
                generalize takeR s p e = t at *
                obtain ⟨q, f, u⟩ := t
                dsimp only at HT HU
                go_wp2_with fail
                refine (HT.out _).mono ?_
                rintro r w2 ⟨rfl, hb2⟩
                have HT2 := Lib.hid (trio_new (HP.out.kept _ _ hb2) q f 38)
                clear hb2 x0 x1 x2 y0 y1 y2 x3 x4 x5 y3 y4 y5 p1 p4 p5
                obtain ⟨x3, x4, x5, y3, y4, y5⟩ := HT2.out.1.2.2.1
                go_wp2_with fail
                refine (HU.out _).mono ?_
                rintro r w3 ⟨rfl, hb3⟩
                have HT3 := Lib.hid (HT2.out.kept _ _ hb3)
                clear hb3 x3 x4 x5 y3 y4 y5 HT2 HT HU HP
                obtain ⟨⟨p1, p2, p3, p4, p5, p6, p7, p8⟩, ⟨pg, p9⟩, p10, p11, p12⟩ := HT3.out
                obtain ⟨x0, x1, x2, y0, y1, y2⟩ := p2
                obtain ⟨x3, x4, x5, y3, y4, y5⟩ := p3
                obtain ⟨x6, x7, x8, y6, y7, y8⟩ := pg
                have n1 : ¬ b5 = b6 := p8
                have n2 : ¬ b6 = b5 := fun h => p8 h.symm
                have n3 : ¬ w2.heap.size = b5 := p11
                have n4 : ¬ w2.heap.size = b6 := p12
                have n5 : ¬ w3.heap.size = b5 := by omega
                have n6 : ¬ w3.heap.size = b6 := by omega
                have n7 : ¬ w3.heap.size = w2.heap.size := by omega
                have n8 : ¬ b5 = w2.heap.size := by omega
                have n9 : ¬ b6 = w2.heap.size := by omega
                have n10 : ¬ b5 = w3.heap.size := by omega
                have n11 : ¬ b6 = w3.heap.size := by omega
                clear p1 p8 p11 p12
                go_wp2_with fail
                go_region
                go_wp2_with fail
                go_meet
                exact ⟨q, f, ((pair_set HT3.out.1 q f).push _).drew⟩
              · have hzb : (z == 0) = false := by simpa using hz
                have HT := Lib.hid (fun W => num_any s p e z W hs)
                have HU := Lib.hid (fun W => rnum_any s p e z W hs)
                generalize numR s p e z = t at *
                obtain ⟨q, f, u⟩ := t
                dsimp only at HT HU
                have n1 : ¬ wc.heap.size = b5 := by omega
                have n2 : ¬ wc.heap.size = b := by have := p1.size; omega
                have hbc : b < wc.heap.size := by have := p1.size; omega
                go_upto_region 17 with fail
                go_cut [12, 13] (fun s12 s13 wx => ∃ g : Nat, s12 = .pointer (some ⟨g, 0, none⟩) ∧ s13 = .int .i64 u ∧ Trio w b5 b6 g s p e q f wx)
                case first =>
                  go_region_held3 (fun W => W.cell? ⟨b5, 0, none⟩ = some (.string s) ∧ W.cell? ⟨b5, 1, none⟩ = some (.int .i64 p) ∧ W.cell? ⟨b5, 2, none⟩ = some (.int .i64 e) ∧ W.cell? ⟨b, off + k, none⟩ = some (.int .i64 z)) (go_keep)
                    (first | (go_at_call 23; ((with_reducible refine (HT.out _).mono ?_)); rintro r w2 ⟨rfl, hb2⟩; obtain ⟨hc, hf⟩ := bcell hb2; have hlt2 := blt hb2; have q0 : w2.cell? ⟨b5, 0, none⟩ = some (.string s) := (by rw [hc _ _ (by simp <;> omega)]; simp [*]); have q1 : w2.cell? ⟨b5, 1, none⟩ = some (.int .i64 p) := (by rw [hc _ _ (by simp <;> omega)]; simp [*]); have q2 : w2.cell? ⟨b5, 2, none⟩ = some (.int .i64 e) := (by rw [hc _ _ (by simp <;> omega)]; simp [*]); have q3 : w2.cell? ⟨b, off + k, none⟩ = some (.int .i64 z) := (by rw [hc _ _ (by simp <;> omega)]; simp [*]); have hz2 : wc.heap.size ≤ w2.heap.size := (by have := hb2.size; simp at this; omega); have n3 : ¬ w2.heap.size = b5 := (by omega); have n4 : ¬ w2.heap.size = b := (by omega)))
                  · go_wp2_with fail
                    go_meet
                    exact ⟨_, rfl, rfl, trio_new (HP.out.kept _ _ (undrew hb2)) q f 38⟩
                  · go_wp2_with fail
                    go_meet
                    exact ⟨_, rfl, rfl, trio_set ((HP.out.push _).kept _ _ (undrew hb2)) ((Box.new wc _ _ _ 38).below (undrew hb2) (by simp)) (by have := (undrew hb2).size; simp at this; omega) p1.size (by omega) (by omega) q f⟩
                case rest =>
                  clear HP p1 p4 p5 x0 x1 x2 y0 y1 y2 x3 x4 x5 y3 y4 y5 n1 n2 hbc hckc HT
                  obtain ⟨g, rfl, rfl, hT⟩ := hcut
                  have HT := Lib.hid hT
                  have p1 := hT.1.1
                  have p4 := hT.1.2.2.2.1
                  have p5 := hT.1.2.2.2.2.1
                  have p9 := hT.2.1.2
                  have hckc := (p1.cell (p := ⟨b, off + k, none⟩) hb0).trans HK.out
                  obtain ⟨x3, x4, x5, y3, y4, y5⟩ := hT.1.2.2.1
                  have n1 : ¬ wc.heap.size = b6 := by omega
                  have n2 : ¬ wc.heap.size = b := by have := p1.size; omega
                  have hbc : b < wc.heap.size := by have := p1.size; omega
                  clear hT
                  go_upto_region 18 with fail
                  go_cut [14, 15] (fun s14 s15 wx => ∃ g' : Nat, s14 = .pointer (some ⟨g', 0, none⟩) ∧ s15 = .int .i64 u ∧ Quad w b5 b6 g g' s p e q f wx)
                  case first =>
                    go_region_held3 (fun W => W.cell? ⟨b6, 0, none⟩ = some (.string s) ∧ W.cell? ⟨b6, 1, none⟩ = some (.int .i64 p) ∧ W.cell? ⟨b6, 2, none⟩ = some (.int .i64 e) ∧ W.cell? ⟨b, off + k, none⟩ = some (.int .i64 z)) (go_keep)
                      (first | (go_at_call 24; ((with_reducible refine (HU.out _).mono ?_)); rintro r w2 ⟨rfl, hb2⟩; obtain ⟨hc, hf⟩ := bcell hb2; have hlt2 := blt hb2; have q0 : w2.cell? ⟨b6, 0, none⟩ = some (.string s) := (by rw [hc _ _ (by simp <;> omega)]; simp [*]); have q1 : w2.cell? ⟨b6, 1, none⟩ = some (.int .i64 p) := (by rw [hc _ _ (by simp <;> omega)]; simp [*]); have q2 : w2.cell? ⟨b6, 2, none⟩ = some (.int .i64 e) := (by rw [hc _ _ (by simp <;> omega)]; simp [*]); have q3 : w2.cell? ⟨b, off + k, none⟩ = some (.int .i64 z) := (by rw [hc _ _ (by simp <;> omega)]; simp [*]); have hz2 : wc.heap.size ≤ w2.heap.size := (by have := hb2.size; simp at this; omega); have n3 : ¬ w2.heap.size = b6 := (by omega); have n4 : ¬ w2.heap.size = b := (by omega)))
                    · go_wp2_with fail
                      go_meet
                      exact ⟨_, rfl, rfl, quad_new (HT.out.kept _ _ (undrew hb2)) 35⟩
                    · go_wp2_with fail
                      go_meet
                      exact ⟨_, rfl, rfl, quad_set ((HT.out.kept _ _ ((Below.refl _ _).push _)).kept _ _ (undrew hb2)) ((Box.new wc _ _ _ 35).below (undrew hb2) (by simp)) (by have := (undrew hb2).size; simp at this; omega) p1.size (by omega) (by omega) (by omega)⟩
                  case rest =>
                    clear HT p1 p4 p5 p9 x3 x4 x5 y3 y4 y5 n1 n2 hbc hckc HU
                    obtain ⟨g', rfl, rfl, hQ⟩ := hcut
                    have HQ := Lib.hid hQ
                    obtain ⟨⟨⟨p1, p2, p3, p4, p5, p6, p7, p8⟩, ⟨pg, p9⟩, p10, p11, p12⟩, ⟨-, ⟨ph, p13⟩, p14, p15, p16⟩, p17⟩ := hQ
                    obtain ⟨x0, x1, x2, y0, y1, y2⟩ := p2
                    obtain ⟨x3, x4, x5, y3, y4, y5⟩ := p3
                    obtain ⟨x6, x7, x8, y6, y7, y8⟩ := pg
                    obtain ⟨z6, z7, z8, v6, v7, v8⟩ := ph
                    have n1 : ¬ b5 = b6 := p8
                    have n2 : ¬ b6 = b5 := fun h => p8 h.symm
                    have n3 : ¬ g = b5 := p11
                    have n4 : ¬ g = b6 := p12
                    have n5 : ¬ g' = b5 := p15
                    have n6 : ¬ g' = b6 := p16
                    have n7 : ¬ b5 = g := by omega
                    have n8 : ¬ b6 = g := by omega
                    have n9 : ¬ b5 = g' := by omega
                    have n10 : ¬ b6 = g' := by omega
                    clear p1 p8 p11 p12 p15 p16 p17
                    go_wp2_with fail
                    go_region
                    go_wp2_with fail
                    go_meet
                    exact ⟨q, f, (pair_set HQ.out.1.1 q f).drew⟩
            case rest =>
              clear HP hckc
              obtain ⟨q, f, hP⟩ := hcut
              go_upto_region 22 with fail
              go_cut [101] (fun c wx => c = .bool false ∧ Pair w b5 b6 s q f wx)
              case first =>
                refine wp_region_class (Pair w b5 b6 s q f) (Pair.kept _ _ hP (drawn_below _)) (by kernel_rfl) (by kernel_rfl) ?_
                intro hne
                have r0 := fun x : Wd (Pair w b5 b6 s q f) => x.ok.2.1.c0
                have r1 := fun x : Wd (Pair w b5 b6 s q f) => x.ok.2.1.c1
                have r2 := fun x : Wd (Pair w b5 b6 s q f) => x.ok.2.1.c2
                have r3 := fun x : Wd (Pair w b5 b6 s q f) => x.ok.2.2.1.c0
                have r4 := fun x : Wd (Pair w b5 b6 s q f) => x.ok.2.2.1.c1
                have r5 := fun x : Wd (Pair w b5 b6 s q f) => x.ok.2.2.1.c2
                clear hP
                repeat (go_big_quiet_step ((exact wd_call Pair.kept (back_any s q f _))))
                refine wpQuiet_nil ?_
                rintro _ ⟨x, rfl⟩
                go_wp2_with fail
                go_meet
                exact ⟨rfl, x.ok⟩
              case rest =>
                clear hP
                obtain ⟨rfl, hP⟩ := hcut
                go_wp2_with fail
                go_roundw
                case rel => exact ⟨k + 1, q, f, by omega, by go_num, hP⟩
                case measure => simp [intOf]; omega
        · go_upto_region 24 with fail
          refine wp_region_class (Pair w b5 b6 s p e) (Pair.kept _ _ hP (drawn_below _)) (by kernel_rfl) (by kernel_rfl) ?_
          intro hne
          have r0 := fun x : Wd (Pair w b5 b6 s p e) => x.ok.2.1.c0
          have r1 := fun x : Wd (Pair w b5 b6 s p e) => x.ok.2.1.c1
          have r2 := fun x : Wd (Pair w b5 b6 s p e) => x.ok.2.1.c2
          have r3 := fun x : Wd (Pair w b5 b6 s p e) => x.ok.2.2.1.c0
          have r4 := fun x : Wd (Pair w b5 b6 s p e) => x.ok.2.2.1.c1
          have r5 := fun x : Wd (Pair w b5 b6 s p e) => x.ok.2.2.1.c2
          clear hP
          repeat (go_big_quiet_step ((first | exact wd_call Pair.kept (left_any s p e _ hs) | exact wd_call Pair.kept (rleft_any s p e _ hs) | exact wd_call Pair.kept (end_any s p e _ hs) | exact wd_call Pair.kept (rend_any s p e _ hs) | exact wd_call Pair.kept (awake_any _))))
          refine wpQuiet_nil ?_
          rintro _ ⟨x, rfl⟩
          go_wp2
          go_ret
          exact ⟨rfl, x.ok.1⟩

end Go.Proofs.Ytannhdhibajbkaa
