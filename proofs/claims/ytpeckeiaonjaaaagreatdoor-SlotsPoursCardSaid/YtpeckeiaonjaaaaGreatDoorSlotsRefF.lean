/- Contract of the document's Save of package slots. -/
import Derived.Test.YtpeckeiaonjaaaaGreatDoorSlotsRefE
namespace Go.Proofs.YtpeckeiaonjaaaaGreatDoor.Slt
open Go.RowKit Go.Proofs.YtpeckeiaonjaaaaGreatDoor.Dsk Go.Proofs.YtpeckeiaonjaaaaGreatDoor.Sht Go.Proofs.YtpeckeiaonjaaaaGreatDoor.Shf

theorem put_one {w wr : World} {B : Option Addr} {p d : Nat} {B' : Option Addr} {q d' : Nat} {f : Int} {S : List ByteArray} {W : List Wr} (hb : Below w.heap.size w wr) (hr : St wr (w.heap.size + 1) none 0 0 none 0 0 0) (hd : Dev wr B p d B' q d' f S W) :
    Below w.heap.size w (set3 wr (w.heap.size + 1) (.slice B p d) (.slice B' q d') (.int .i64 f)) ∧ Dev (set3 wr (w.heap.size + 1) (.slice B p d) (.slice B' q d') (.int .i64 f)) B p d B' q d' f S W ∧ Box (set3 wr (w.heap.size + 1) (.slice B p d) (.slice B' q d') (.int .i64 f)) (w.heap.size + 1) (.slice B p d) (.slice B' q d') (.int .i64 f) :=
  ⟨hb.grown (grown_set3 _ _ _ _ _) hb.size (by simp), hd.only hr.ns (grown_set3 _ _ _ _ _), (hr.set3 _ _ _ _ _ _ _).box⟩

section
variable (A : Option Addr) (n c : Nat) (A' : Option Addr) (m c' : Nat) (f : Int) (S : List ByteArray) (V : List Wr) (z g st : Int) (t : ByteArray) (w : World) (hD : Dev w A n c A' m c' f S V)
include hD

set_option maxHeartbeats 1000000 in
theorem rsave_no (h : isS z = false) : Calls Tryz.prog 13 #[DV A n c A' m c' f, .int .i64 z, .int .i64 g, .int .i64 st, .string t] w (RetS w ⟨S, V, f, 0, st, 2⟩) := by
  have hz0 : ¬ z = 0 := by intro e; subst e; simp [isS] at h
  have hz1 : ¬ z = 1 := by intro e; subst e; simp [isS] at h
  have hzb0 : (z == 0) = false := by simpa using hz0
  have hzb1 : (z == 1) = false := by simpa using hz1
  have hzn0 : (z != 0) = true := by simpa using hz0
  have hzn1 : (z != 1) = true := by simpa using hz1
  have HB := Lib.hid ((new1 w (D25 A n c A' m c' f)).push (D25 none 0 0 none 0 0 0))
  have HR := Lib.hid (by have := St.new (w.alloc (D25 A n c A' m c' f)) none 0 0 none 0 0 0 25; rwa [World.size_alloc] at this)
  have HD := Lib.hid hD
  clear hD h
  go_enter Tryz.func13, Tryz.ntmps13
  go_wp2_with fail
  exact bodyPost_ret (v := .tuple #[DV A n c A' m c' f, .int .i64 st, .int .i64 2]) (by simp [results, Tryz.results13, go_sem]) rfl ⟨_, _, _, _, _, _, rfl, (HD.out.new _).new _, (new1 w _).push _⟩

set_option maxHeartbeats 2000000 in
theorem rsave_yes (hz : z = 0 ∨ z = 1) (X : Poured) (hX : pourR S V f (z * sizR S.length) ((z + 1) * sizR S.length) 1 g 0 st t = X) : Calls Tryz.prog 13 #[DV A n c A' m c' f, .int .i64 z, .int .i64 g, .int .i64 st, .string t] w (RetS w X) := by
  have hn := hD.sec.sec
  rw [hn] at hX
  have HZ := Lib.hid (fun W => rsize_any n W)
  have HP := Lib.hid (fun W p q (hb : Below w.heap.size w W) (hp : p = z * sizR n) (hq : q = (z + 1) * sizR n) => (by
    subst hp hq
    have := rpour_any A n c A' m c' f S V (z * sizR n) ((z + 1) * sizR n) 1 g 0 st t W (hD.below hb) (by decide)
    rwa [hX] at this : Calls Tryz.prog 9 #[DV A n c A' m c' f, .int .i64 p, .int .i64 q, .agg #[.int .u8 1, .int .i64 g, .int .i64 0], .int .i64 st, .string t] W (RetP W X)))
  unfold RetP at HP
  have hy1 := sizR_nonneg n
  have hy2 := sizR_le n
  generalize sizR n = y at *
  have HB := Lib.hid ((new1 w (D25 A n c A' m c' f)).push (D25 none 0 0 none 0 0 0))
  have HR := Lib.hid (by have := St.new (w.alloc (D25 A n c A' m c' f)) none 0 0 none 0 0 0 25; rwa [World.size_alloc] at this)
  clear hX hn hD
  rcases hz with rfl | rfl
  all_goals (
    go_enter Tryz.func13, Tryz.ntmps13
    go_wp2_with (go_at_call 24; (with_reducible refine (HZ.out _).mono ?_); rintro r w2 ⟨rfl, rfl⟩)
    with_reducible refine (HP.out _ _ _ HB.out (by omega) (by omega)).mono ?_
    rintro r w2 ⟨A2, n2, d2, A2', m2, d2', rfl, hd2, b2⟩
    have HB2 := Lib.hid (HB.out.call b2)
    have HR2 := Lib.hid (HR.out.call b2)
    have HD2 := Lib.hid hd2
    obtain ⟨r0, r1, r2, r3, r4, r5⟩ := HR2.out.box
    have hl2 := HR2.out.lt
    clear b2 hd2 HP HZ HB HR
    go_wp2_with fail
    obtain ⟨hbf, hdf, hxf⟩ := put_one HB2.out HR2.out HD2.out
    obtain ⟨k0, k1, k2, -, -, -⟩ := hxf.call (new1 _ (D25 A2 n2 d2 A2' m2 d2' X.f))
    clear r0 r1 r2 r3 r4 r5
    refine bodyPost_ret (v := .tuple #[DV A2 n2 d2 A2' m2 d2' X.f, .int .i64 X.st, .int .i64 X.e]) (by simp [results, Tryz.results13, go_sem, k0, k1, k2]) rfl ?_
    exact ⟨_, _, _, _, _, _, rfl, hdf.new _, hbf.push _⟩)

theorem rsave_any : Calls Tryz.prog 13 #[DV A n c A' m c' f, .int .i64 z, .int .i64 g, .int .i64 st, .string t] w (RetS w (saveR S V f z g st t)) := by
  unfold saveR
  by_cases h : isS z = true
  · rw [if_pos h]
    exact rsave_yes A n c A' m c' f S V z g st t w hD (isS_yes h) _ rfl
  · rw [if_neg h]
    exact rsave_no A n c A' m c' f S V z g st t w hD (by simpa using h)
end
end Go.Proofs.YtpeckeiaonjaaaaGreatDoor.Slt
