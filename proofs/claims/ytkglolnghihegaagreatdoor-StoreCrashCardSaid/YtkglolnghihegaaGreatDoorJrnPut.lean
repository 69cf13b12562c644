/- Contracts of Put of packages journal and errandref07. -/
import Derived.Test.YtkglolnghihegaaGreatDoorJrnC
import Derived.Test.YtkglolnghihegaaGreatDoorSlotsSave
import Derived.Test.YtkglolnghihegaaGreatDoorSltE
import Derived.Deep.RegionWith
namespace Go.Proofs.YtkglolnghihegaaGreatDoor.Jrn
open Go.RowKit Go.Proofs.YtkglolnghihegaaGreatDoor.Dsk Go.Proofs.YtkglolnghihegaaGreatDoor.Sht Go.Proofs.YtkglolnghihegaaGreatDoor.Shf Go.Proofs.YtkglolnghihegaaGreatDoor.Slt
open Go.Proofs.YtkglolnghihegaaGreatDoor.Crc (Tab)

section
variable (A : Option Addr) (n c : Nat) (A' : Option Addr) (m c' : Nat) (f : Int) (S : List ByteArray) (V : List Wr) (p g no st : Int) (t : ByteArray) (w : World) (hD : Dev w A n c A' m c' f S V)
include hD

set_option maxHeartbeats 1000000 in
theorem put_no (h : ¬ 2 * sizR S.length ≤ p) :
    Calls Tryz.prog 46 #[DV A n c A' m c' f, .int .i64 p, .int .i64 g, .int .i64 no, .int .i64 st, .string t] w (RetP w ⟨S, V, f, p, st, 2⟩) := by
  have hn := hD.sec.sec
  rw [hn] at h
  have HZ := Lib.hid (fun W => begin_any n W)
  have h1 := sizR_nonneg n
  have h2 := sizR_le n
  generalize sizR n = y at *
  have HD := Lib.hid hD
  clear hD hn
  go_enter Tryz.func46, Tryz.ntmps46
  go_wp2_with (go_at_call 30; with_reducible refine (HZ.out _).mono ?_; rintro r w1 ⟨rfl, rfl⟩)
  refine bodyPost_ret (v := .tuple #[DV A n c A' m c' f, .int .i64 p, .int .i64 st, .int .i64 2]) (by simp [results, Tryz.results46, go_sem]) rfl ?_
  exact ⟨_, _, _, _, _, _, rfl, (HD.out.new _).new _, (new1 _ _).push _⟩

set_option maxHeartbeats 2000000 in
theorem put_yes (hT : Tab w) (h : 2 * sizR S.length ≤ p) (S2 : List ByteArray) (V2 : List Wr) (F2 p2 st2 e2 : Int) (HPR : Hid (pourR S V f p S.length 2 g no st t = ⟨S2, V2, F2, p2, st2, e2⟩)) :
    Calls Tryz.prog 46 #[DV A n c A' m c' f, .int .i64 p, .int .i64 g, .int .i64 no, .int .i64 st, .string t] w (RetP w ⟨S2, V2, F2, p2, st2, e2⟩) := by
  have hn := hD.sec.sec
  have HZ := Lib.hid (fun W => begin_any n W)
  have HH := Lib.hid (fun W => jhead_any g no W)
  have HP := Lib.hid (fun W (hb : Below w.heap.size w W) => pour_any A n c A' m c' f S V p S.length 2 g no st t W (hD.below hb) (by decide) (Shf.tab_call hT hb))
  rw [HPR.out] at HP
  rw [hn] at HP h
  unfold RetP at HP
  dsimp only at HP
  have h1 := sizR_nonneg n
  have h2 := sizR_le n
  generalize sizR n = y at *
  have HD := Lib.hid hD
  clear hD hT HPR hn
  go_enter Tryz.func46, Tryz.ntmps46
  go_wp2_with (go_at_call 30; with_reducible refine (HZ.out _).mono ?_; rintro r w1 ⟨rfl, rfl⟩)
  have hb0 : Below w.heap.size w ((w.alloc (D33 A n c A' m c' f)).alloc (D33 none 0 0 none 0 0 0)) := (new1 _ _).push _
  have X0 : St ((w.alloc (D33 A n c A' m c' f)).alloc (D33 none 0 0 none 0 0 0)) w.heap.size A n c A' m c' f := (St.new w A n c A' m c' f 29).alloc _
  have X1 : St ((w.alloc (D33 A n c A' m c' f)).alloc (D33 none 0 0 none 0 0 0)) (w.heap.size + 1) none 0 0 none 0 0 0 := (by have := St.new (w.alloc (D33 A n c A' m c' f)) none 0 0 none 0 0 0 29; rw [World.size_alloc] at this; exact this)
  generalize ((w.alloc (D33 A n c A' m c' f)).alloc (D33 none 0 0 none 0 0 0)) = W0 at *
  have HB0 := Lib.hid hb0
  have HX0 := Lib.hid X0
  have HX1 := Lib.hid X1
  obtain ⟨c0, c1, c2, f0, f1, f2⟩ := X0.box
  have hl0 := X0.lt
  clear hb0 X0 X1 HZ
  go_region_with (first
    | (go_at_call 69; with_reducible refine (HH.out _).mono ?_; rintro r w2 ⟨rfl, hb2⟩; have HB2 := Lib.hid (undrew hb2); obtain ⟨c0, c1, c2, -, -, -⟩ := (HX0.out.call (undrew hb2)).box; clear hb2)
    | (go_at_call 78; with_reducible refine (HP.out _ (HB0.out.call HB2.out)).mono ?_; rintro r w3 ⟨A2, n2, c2', A2', m2, c2'', rfl, hd2, b2⟩; have HD2 := Lib.hid hd2; have HY1 := Lib.hid ((HX1.out.call HB2.out).call b2); have HB3 := Lib.hid ((HB0.out.call HB2.out).call b2); obtain ⟨r0, r1, r2, g0, g1, g2⟩ := HY1.out.box; have hl1 := HY1.out.lt; clear hd2 b2))
  all_goals (
    go_wp2_with fail
    obtain ⟨hbf, hdf, hxf⟩ := put_one HB3.out HY1.out HD2.out
    dsimp only [set3] at hbf hdf hxf
    generalize (((w3.setCell ⟨w.heap.size + 1, 0, none⟩ (.slice A2 n2 c2')).setCell ⟨w.heap.size + 1, 1, none⟩ (.slice A2' m2 c2'')).setCell ⟨w.heap.size + 1, 2, none⟩ (.int .i64 F2)) = wf at *
    obtain ⟨k0, k1, k2, -, -, -⟩ := hxf
    refine bodyPost_ret (v := .tuple #[DV A2 n2 c2' A2' m2 c2'' F2, .int .i64 p2, .int .i64 st2, .int .i64 e2]) (by simp [results, Tryz.results46, go_sem, k0, k1, k2]) rfl ?_
    exact ⟨_, _, _, _, _, _, rfl, hdf, hbf⟩)

theorem put_any (hT : Tab w) :
    Calls Tryz.prog 46 #[DV A n c A' m c' f, .int .i64 p, .int .i64 g, .int .i64 no, .int .i64 st, .string t] w (RetP w (putR S V f p g no st t)) := by
  unfold putR
  by_cases h : 2 * sizR S.length ≤ p
  · rw [if_pos h]
    exact put_yes A n c A' m c' f S V p g no st t w hD hT h _ _ _ _ _ _ (Lib.hid rfl)
  · rw [if_neg h]
    exact put_no A n c A' m c' f S V p g no st t w hD h

/-- What stands against a record ahead of all. -/
def putOk (S : List ByteArray) (V : List Wr) (f p : Int) : Prop := chk S V f = 0 ∧ 2 * sizR S.length ≤ p ∧ p ≤ S.length
omit hD in
theorem putR_no (h : ¬ putOk S V f p) : putR S V f p g no st t = ⟨S, V, f, p, st, 2⟩ := by
  unfold putR
  split
  · have hok : ¬ okS S V f p S.length = true := fun x => h (by
      obtain ⟨h1, h2, h3, h4⟩ := okS_yes x
      exact ⟨h1, by assumption, h3⟩)
    have e : pourE S V f p S.length 2 g no st t = 2 := by unfold pourE; rw [if_neg hok]
    unfold pourR
    rw [e, if_neg (by decide)]
  · rfl

set_option maxHeartbeats 2000000 in
theorem rput_no (h : ¬ putOk S V f p) :
    Calls Tryz.prog 47 #[DV A n c A' m c' f, .int .i64 p, .int .i64 g, .int .i64 no, .int .i64 st, .string t] w (RetP w ⟨S, V, f, p, st, 2⟩) := by
  have hn := hD.sec.sec
  have HZ := Lib.hid (fun W => rbegin_any n W)
  have HC := Lib.hid (rcheck_any A n c A' m c' f S V _ ((hD.new (D25 A n c A' m c' f)).new (D25 none 0 0 none 0 0 0)))
  unfold putOk at h
  rw [hn] at h
  have h1 := sizR_nonneg n
  have h2 := sizR_le n
  generalize sizR n = y at *
  have HB := Lib.hid ((new1 w (D25 A n c A' m c' f)).push (D25 none 0 0 none 0 0 0))
  have HD := Lib.hid hD
  have HX := Lib.hid ((St.new w A n c A' m c' f 25).alloc (D25 none 0 0 none 0 0 0))
  have HR := Lib.hid (by have := St.new (w.alloc (D25 A n c A' m c' f)) none 0 0 none 0 0 0 25; rwa [World.size_alloc] at this)
  by_cases hc : chk S V f = 0
  · rw [hc] at HC
    have h' : ¬ (2 * y ≤ p ∧ p ≤ (n : Int)) := fun x => h ⟨hc, x⟩
    clear hD hn h hc
    by_cases hp : 2 * y ≤ p
    · have hp2 : ¬ p ≤ (n : Int) := fun x => h' ⟨hp, x⟩
      clear h'
      go_enter Tryz.func47, Tryz.ntmps47
      go_wp2_with (first | (go_at_call 37; with_reducible refine HC.out.mono ?_; rintro r w1 ⟨rfl, b1⟩; have HB1 := Lib.hid (HB.out.call b1); have HD1 := Lib.hid (HD.out.below HB1.out); have HR1 := Lib.hid (HR.out.call b1); obtain ⟨c0, c1, c2, -, -, -⟩ := (HX.out.call b1).box; have hlx := (HX.out.call b1).lt; obtain ⟨r0, r1, r2, r3, r4, r5⟩ := HR1.out.box; have hlr := HR1.out.lt; clear b1) | (go_at_call 40; with_reducible refine (HZ.out _).mono ?_; rintro r w1 ⟨rfl, rfl⟩))
      obtain ⟨hbf, hdf, hxf⟩ := put_one HB1.out HR1.out HD1.out
      dsimp only [set3] at hbf hdf hxf
      generalize (((w1.setCell ⟨w.heap.size + 1, 0, none⟩ (.slice A n c)).setCell ⟨w.heap.size + 1, 1, none⟩ (.slice A' m c')).setCell ⟨w.heap.size + 1, 2, none⟩ (.int .i64 f)) = wf at *
      obtain ⟨k0, k1, k2, -, -, -⟩ := hxf
      refine bodyPost_ret (v := .tuple #[DV A n c A' m c' f, .int .i64 p, .int .i64 st, .int .i64 2]) (by simp [results, Tryz.results47, go_sem, k0, k1, k2]) rfl ?_
      exact ⟨_, _, _, _, _, _, rfl, hdf, hbf⟩
    · clear h'
      go_enter Tryz.func47, Tryz.ntmps47
      go_wp2_with (first | (go_at_call 37; with_reducible refine HC.out.mono ?_; rintro r w1 ⟨rfl, b1⟩; have HB1 := Lib.hid (HB.out.call b1); have HD1 := Lib.hid (HD.out.below HB1.out); have HR1 := Lib.hid (HR.out.call b1); obtain ⟨c0, c1, c2, -, -, -⟩ := (HX.out.call b1).box; have hlx := (HX.out.call b1).lt; obtain ⟨r0, r1, r2, r3, r4, r5⟩ := HR1.out.box; have hlr := HR1.out.lt; clear b1) | (go_at_call 40; with_reducible refine (HZ.out _).mono ?_; rintro r w1 ⟨rfl, rfl⟩))
      obtain ⟨hbf, hdf, hxf⟩ := put_one HB1.out HR1.out HD1.out
      dsimp only [set3] at hbf hdf hxf
      generalize (((w1.setCell ⟨w.heap.size + 1, 0, none⟩ (.slice A n c)).setCell ⟨w.heap.size + 1, 1, none⟩ (.slice A' m c')).setCell ⟨w.heap.size + 1, 2, none⟩ (.int .i64 f)) = wf at *
      obtain ⟨k0, k1, k2, -, -, -⟩ := hxf
      refine bodyPost_ret (v := .tuple #[DV A n c A' m c' f, .int .i64 p, .int .i64 st, .int .i64 2]) (by simp [results, Tryz.results47, go_sem, k0, k1, k2]) rfl ?_
      exact ⟨_, _, _, _, _, _, rfl, hdf, hbf⟩
  · have hne := neq0 hc
    generalize chk S V f = e0 at *
    clear hD hn h hc
    go_enter Tryz.func47, Tryz.ntmps47
    go_wp2_with (first | (go_at_call 37; with_reducible refine HC.out.mono ?_; rintro r w1 ⟨rfl, b1⟩; have HB1 := Lib.hid (HB.out.call b1); have HD1 := Lib.hid (HD.out.below HB1.out); have HR1 := Lib.hid (HR.out.call b1); obtain ⟨c0, c1, c2, -, -, -⟩ := (HX.out.call b1).box; have hlx := (HX.out.call b1).lt; obtain ⟨r0, r1, r2, r3, r4, r5⟩ := HR1.out.box; have hlr := HR1.out.lt; clear b1))
    obtain ⟨hbf, hdf, hxf⟩ := put_one HB1.out HR1.out HD1.out
    dsimp only [set3] at hbf hdf hxf
    generalize (((w1.setCell ⟨w.heap.size + 1, 0, none⟩ (.slice A n c)).setCell ⟨w.heap.size + 1, 1, none⟩ (.slice A' m c')).setCell ⟨w.heap.size + 1, 2, none⟩ (.int .i64 f)) = wf at *
    obtain ⟨k0, k1, k2, -, -, -⟩ := hxf
    refine bodyPost_ret (v := .tuple #[DV A n c A' m c' f, .int .i64 p, .int .i64 st, .int .i64 2]) (by simp [results, Tryz.results47, go_sem, k0, k1, k2]) rfl ?_
    exact ⟨_, _, _, _, _, _, rfl, hdf, hbf⟩

set_option maxHeartbeats 2000000 in
theorem rput_yes (h : putOk S V f p) (X : Poured) (hX : putR S V f p g no st t = X) :
    Calls Tryz.prog 47 #[DV A n c A' m c' f, .int .i64 p, .int .i64 g, .int .i64 no, .int .i64 st, .string t] w (RetP w X) := by
  obtain ⟨hc, hp1, hp2⟩ := h
  have hX' : pourR S V f p S.length 2 g no st t = X := by rw [← hX]; unfold putR; rw [if_pos hp1]
  have hn := hD.sec.sec
  have HZ := Lib.hid (fun W => rbegin_any n W)
  have hC := rcheck_any A n c A' m c' f S V _ ((hD.new (D25 A n c A' m c' f)).new (D25 none 0 0 none 0 0 0))
  rw [hc] at hC
  have HC := Lib.hid hC
  rw [hn] at hp1 hp2
  have HP := Lib.hid (fun W (hb : Below w.heap.size w W) => (by
    have := rpour_any A n c A' m c' f S V p S.length 2 g no st t W (hD.below hb) (by decide)
    rwa [hX', hn] at this : Calls Tryz.prog 80 #[DV A n c A' m c' f, .int .i64 p, .int .i64 n, .agg #[.int .u8 2, .int .i64 g, .int .i64 no], .int .i64 st, .string t] W (RetP W X)))
  unfold RetP at HP
  have h1 := sizR_nonneg n
  have h2 := sizR_le n
  generalize sizR n = y at *
  have HB := Lib.hid ((new1 w (D25 A n c A' m c' f)).push (D25 none 0 0 none 0 0 0))
  have HX := Lib.hid ((St.new w A n c A' m c' f 25).alloc (D25 none 0 0 none 0 0 0))
  have HR := Lib.hid (by have := St.new (w.alloc (D25 A n c A' m c' f)) none 0 0 none 0 0 0 25; rwa [World.size_alloc] at this)
  clear hX hX' hn hC hD hc
  go_enter Tryz.func47, Tryz.ntmps47
  go_wp2_with (first | (go_at_call 37; with_reducible refine HC.out.mono ?_; rintro r w1 ⟨rfl, b1⟩; have HB1 := Lib.hid (HB.out.call b1); have HR1 := Lib.hid (HR.out.call b1); obtain ⟨c0, c1, c2, -, -, -⟩ := (HX.out.call b1).box; have hlx := (HX.out.call b1).lt; clear b1) | (go_at_call 40; with_reducible refine (HZ.out _).mono ?_; rintro r w1 ⟨rfl, rfl⟩))
  with_reducible refine (HP.out _ HB1.out).mono ?_
  rintro r w2 ⟨A2, n2, d2, A2', m2, d2', rfl, hd2, b2⟩
  have HB2 := Lib.hid (HB1.out.call b2)
  have HR2 := Lib.hid (HR1.out.call b2)
  have HD2 := Lib.hid hd2
  obtain ⟨r0, r1, r2, r3, r4, r5⟩ := HR2.out.box
  have hl2 := HR2.out.lt
  clear b2 hd2 HP HZ HB HR
  go_wp2_with fail
  obtain ⟨hbf, hdf, hxf⟩ := put_one HB2.out HR2.out HD2.out
  dsimp only [set3] at hbf hdf hxf
  generalize (((w2.setCell ⟨w.heap.size + 1, 0, none⟩ (.slice A2 n2 d2)).setCell ⟨w.heap.size + 1, 1, none⟩ (.slice A2' m2 d2')).setCell ⟨w.heap.size + 1, 2, none⟩ (.int .i64 X.f)) = wf at *
  obtain ⟨k0, k1, k2, -, -, -⟩ := hxf
  refine bodyPost_ret (v := .tuple #[DV A2 n2 d2 A2' m2 d2' X.f, .int .i64 X.p, .int .i64 X.st, .int .i64 X.e]) (by simp [results, Tryz.results47, go_sem, k0, k1, k2]) rfl ?_
  exact ⟨_, _, _, _, _, _, rfl, hdf, hbf⟩

theorem rput_any : Calls Tryz.prog 47 #[DV A n c A' m c' f, .int .i64 p, .int .i64 g, .int .i64 no, .int .i64 st, .string t] w (RetP w (putR S V f p g no st t)) := by
  by_cases h : putOk S V f p
  · exact rput_yes A n c A' m c' f S V p g no st t w hD h _ rfl
  · rw [putR_no _ _ _ _ _ _ _ _ h]
    exact rput_no A n c A' m c' f S V p g no st t w hD h
end
end Go.Proofs.YtkglolnghihegaaGreatDoor.Jrn
