/- Contract of Load of package slots. -/
import Derived.Test.YtpeckeiaonjaaaaGreatDoorSlotsDrain
import Derived.Test.YtpeckeiaonjaaaaGreatDoorSheafJoin
import Derived.Test.YtpeckeiaonjaaaaGreatDoorDskB
import Derived.Deep.RegionWith
namespace Go.Proofs.YtpeckeiaonjaaaaGreatDoor.Slt
open Go.RowKit Go.Proofs.YtpeckeiaonjaaaaGreatDoor.Dsk Go.Proofs.YtpeckeiaonjaaaaGreatDoor.Sht Go.Proofs.YtpeckeiaonjaaaaGreatDoor.Shf
open Go.Proofs.YtpeckeiaonjaaaaGreatDoor.Crc (Tab)

/-- What stands against bodies. -/
def loadE (B : List ByteArray) : Int :=
  match B with
  | [] => 6
  | s :: B' => if errR s = 0 then (if kA s = 1 ∧ nA s = 0 then errJ 1 (gA s) 0 (s :: B') else 11) else errR s
/-- The generation and the text of bodies. -/
def loadG (B : List ByteArray) : Int := if loadE B = 0 then (match B with | [] => 0 | s :: _ => gA s) else 0
def loadT' (B : List ByteArray) : ByteArray := if loadE B = 0 then textU (loadS B) else ⟨#[]⟩
/-- What is answered: a snapshot, and an error. -/
abbrev SNV (g : Int) (t : ByteArray) : Value := .agg #[.int .i64 g, .string t]
def RetN (w : World) (g : Int) (t : ByteArray) (e : Int) (r : Ending) (w' : World) : Prop := r = .returned (.tuple #[SNV g t, .int .i64 e]) ∧ Below w.heap.size w w'

/-- The bodies of a slot. -/
def slotB (S : List ByteArray) (W : List Wr) (f z : Int) : List ByteArray := drainD S W f (z * sizR S.length) ((z + 1) * sizR S.length)
def mayL (S : List ByteArray) (W : List Wr) (f z : Int) : Bool := decide (chk S W f = 0) && isS z
def loadDE (S : List ByteArray) (W : List Wr) (f z : Int) : Int := if mayL S W f z = true then loadE (slotB S W f z) else 2
def loadDG (S : List ByteArray) (W : List Wr) (f z : Int) : Int := if mayL S W f z = true then loadG (slotB S W f z) else 0
def loadDT (S : List ByteArray) (W : List Wr) (f z : Int) : ByteArray := if mayL S W f z = true then loadT' (slotB S W f z) else ⟨#[]⟩

/-- A block of two cells. -/
structure Bx2 (w : World) (b : Nat) (x y : Value) : Prop where
  c0 : w.cell? ⟨b, 0, none⟩ = some x
  c1 : w.cell? ⟨b, 1, none⟩ = some y
  f0 : w.frozen? ⟨b, 0, none⟩ = false
  f1 : w.frozen? ⟨b, 1, none⟩ = false
theorem Bx2.below {w w' : World} {B b : Nat} {x y : Value} (h : Bx2 w b x y) (hb : Below B w w') (hl : b < B) : Bx2 w' b x y :=
  ⟨(hb.cell (p := ⟨b, 0, none⟩) hl).trans h.c0, (hb.cell (p := ⟨b, 1, none⟩) hl).trans h.c1, (hb.frozen (p := ⟨b, 0, none⟩) hl).trans h.f0, (hb.frozen (p := ⟨b, 1, none⟩) hl).trans h.f1⟩
theorem Bx2.new (w : World) (x y : Value) (t : TypeId) : Bx2 (w.alloc (.cells #[x, y] t)) w.heap.size x y := by constructor <;> simp [go_sem]
theorem Bx2.lt {w : World} {b : Nat} {x y : Value} (h : Bx2 w b x y) : b < w.heap.size := cell_lt h.c0
theorem Bx2.alloc {w : World} {b : Nat} {x y : Value} (h : Bx2 w b x y) (o : Obj) : Bx2 (w.alloc o) b x y := h.below (new1 w o) h.lt
theorem Bx2.call {w w' : World} {b : Nat} {x y : Value} (h : Bx2 w b x y) (hb : Below w.heap.size w w') : Bx2 w' b x y := h.below hb h.lt
theorem Bx2.set2 {w : World} {b : Nat} {x y : Value} (h : Bx2 w b x y) (x' y' : Value) : Bx2 ((w.setCell ⟨b, 0, none⟩ x').setCell ⟨b, 1, none⟩ y') b x' y' := by
  obtain ⟨c0, c1, f0, f1⟩ := h
  constructor <;> simp [go_sem, *]
theorem set2_below {B g : Nat} {a w : World} (h : Below B a w) (hg : B ≤ g) (x0 x1 : Value) : Below B a ((w.setCell ⟨g, 0, none⟩ x0).setCell ⟨g, 1, none⟩ x1) := (h.setCell hg _).setCell hg _

theorem load_no (A : Option Addr) (n c : Nat) (A' : Option Addr) (m c' : Nat) (f : Int) (S : List ByteArray) (V : List Wr) (z : Int) (w : World) (hD : Dev w A n c A' m c' f S V) (h : mayL S V f z = false) :
    Calls Tryz.prog 14 #[DV A n c A' m c' f, .int .i64 z] w (RetN w 0 ⟨#[]⟩ 2) := by
  have HC := Lib.hid (check_any A n c A' m c' f S V _ ((hD.new (D33 A n c A' m c' f)).new (.cells #[.int .i64 0, .string ⟨#[]⟩] 50)))
  unfold mayL at h
  by_cases hc : chk S V f = 0
  · have hz : isS z = false := by simpa [hc] using h
    have HZ := Lib.hid (fun W => isSlot_any z W)
    rw [hz] at HZ
    rw [hc] at HC
    clear hD h hc hz
    go_enter Tryz.func14, Tryz.ntmps14
    go_wp2_with (first | (go_at_call 43; (with_reducible refine HC.out.mono ?_); rintro e w1 ⟨rfl, hb1⟩; have HB := Lib.hid (((new1 w (D33 A n c A' m c' f)).push _).call hb1); have X1 := (by have := (Bx2.new (w.alloc (D33 A n c A' m c' f)) (.int .i64 0) (.string ⟨#[]⟩) 50).call hb1; rwa [World.size_alloc] at this : Bx2 w1 (w.heap.size + 1) (.int .i64 0) (.string ⟨#[]⟩)); have HX := Lib.hid X1; obtain ⟨r0, r1, g0, g1⟩ := X1; clear hb1) | (go_at_call 40; with_reducible refine (HZ.out _).mono ?_; rintro r w2 ⟨rfl, rfl⟩))
    have hr4 := HX.out.set2 (.int .i64 0) (.string ⟨#[]⟩)
    have hb4 := set2_below HB.out (show w.heap.size ≤ w.heap.size + 1 by omega) (.int .i64 0) (.string ⟨#[]⟩)
    generalize ((w1.setCell ⟨w.heap.size + 1, 0, none⟩ (.int .i64 0)).setCell ⟨w.heap.size + 1, 1, none⟩ (.string ⟨#[]⟩)) = wf at *
    obtain ⟨k0, k1, -, -⟩ := hr4
    refine bodyPost_ret (v := .tuple #[SNV 0 ⟨#[]⟩, .int .i64 2]) (by simp [results, Tryz.results14, go_sem, k0, k1]) rfl ?_
    exact ⟨rfl, hb4⟩
  · have hne := neq0 hc
    generalize chk S V f = e0 at *
    clear hD h hc
    go_enter Tryz.func14, Tryz.ntmps14
    go_wp2_with (go_at_call 43; (with_reducible refine HC.out.mono ?_); rintro e w1 ⟨rfl, hb1⟩; have HB := Lib.hid (((new1 w (D33 A n c A' m c' f)).push _).call hb1); have X1 := (by have := (Bx2.new (w.alloc (D33 A n c A' m c' f)) (.int .i64 0) (.string ⟨#[]⟩) 50).call hb1; rwa [World.size_alloc] at this : Bx2 w1 (w.heap.size + 1) (.int .i64 0) (.string ⟨#[]⟩)); have HX := Lib.hid X1; obtain ⟨r0, r1, g0, g1⟩ := X1; clear hb1)
    have hr4 := HX.out.set2 (.int .i64 0) (.string ⟨#[]⟩)
    have hb4 := set2_below HB.out (show w.heap.size ≤ w.heap.size + 1 by omega) (.int .i64 0) (.string ⟨#[]⟩)
    generalize ((w1.setCell ⟨w.heap.size + 1, 0, none⟩ (.int .i64 0)).setCell ⟨w.heap.size + 1, 1, none⟩ (.string ⟨#[]⟩)) = wf at *
    obtain ⟨k0, k1, -, -⟩ := hr4
    refine bodyPost_ret (v := .tuple #[SNV 0 ⟨#[]⟩, .int .i64 2]) (by simp [results, Tryz.results14, go_sem, k0, k1]) rfl ?_
    exact ⟨rfl, hb4⟩

section
variable (A : Option Addr) (n c : Nat) (A' : Option Addr) (m c' : Nat) (f : Int) (S : List ByteArray) (V : List Wr) (z : Int) (w : World) (hD : Dev w A n c A' m c' f S V) (hT : Tab w) (h : mayL S V f z = true)
include hD hT h

theorem load_none (hB : slotB S V f z = []) :
    Calls Tryz.prog 14 #[DV A n c A' m c' f, .int .i64 z] w (RetN w 0 ⟨#[]⟩ 6) := by
  have HC := Lib.hid (check_any A n c A' m c' f S V _ ((hD.new (D33 A n c A' m c' f)).new (.cells #[.int .i64 0, .string ⟨#[]⟩] 50)))
  have hmay := h
  unfold mayL at hmay
  obtain ⟨hc, hz⟩ : chk S V f = 0 ∧ isS z = true := by simpa using hmay
  have HZ := Lib.hid (fun W => isSlot_any z W)
  rw [hz] at HZ
  rw [hc] at HC
  have HS := Lib.hid (fun W (hb : Below w.heap.size w W) => stretchOf_any A n c A' m c' f S V z W (hD.below hb) (isS_yes hz))
  have HD := Lib.hid (fun W (hb : Below w.heap.size w W) => drain_any A n c A' m c' f S V (z * sizR S.length) ((z + 1) * sizR S.length) W (hD.below hb))
  rw [show drainD S V f (z * sizR S.length) ((z + 1) * sizR S.length) = [] from hB] at HD
  generalize z * sizR S.length = p at *
  generalize (z + 1) * sizR S.length = q at *
  have HT := Lib.hid hT
  obtain ⟨N, hN⟩ : ∃ N, N = 0 := ⟨_, rfl⟩
  have HN : Hid (([] : List ByteArray).length = N) := Lib.hid hN.symm
  have hN0 : ((N : Int) == 0) = true := by subst hN; rfl
  clear hD h hc hz hmay hB hN
  go_enter Tryz.func14, Tryz.ntmps14
  go_wp2_with (first | (go_at_call 43; (with_reducible refine HC.out.mono ?_); rintro e w1 ⟨rfl, hb1⟩; have HB1 := Lib.hid (((new1 w (D33 A n c A' m c' f)).push _).call hb1); have X1 := (by have := (Bx2.new (w.alloc (D33 A n c A' m c' f)) (.int .i64 0) (.string ⟨#[]⟩) 50).call hb1; rwa [World.size_alloc] at this : Bx2 w1 (w.heap.size + 1) (.int .i64 0) (.string ⟨#[]⟩)); have HX := Lib.hid X1; clear X1; have HY := Lib.hid (((St.new w A n c A' m c' f 33).alloc _).call hb1); obtain ⟨c0, c1, c2, -, -, -⟩ := HY.out.box; have hly := HY.out.lt; clear hb1) | (go_at_call 40; with_reducible refine (HZ.out _).mono ?_; rintro r w2 ⟨rfl, rfl⟩))
  with_reducible refine (HS.out _ HB1.out).mono ?_
  rintro r w1' ⟨rfl, rfl⟩
  go_wp2_with fail
  with_reducible refine (HD.out _ (HB1.out.push _)).mono ?_
  rintro r w2 ⟨B1, m1, cc1, rfl, hr1, b2⟩
  have HB2 := Lib.hid ((HB1.out.push _).call b2)
  have HX2 := Lib.hid ((HX.out.alloc (D33 A n c A' m c' f)).call b2)
  obtain rfl : N = m1 := by rw [← HN.out]; exact hr1.sec
  have HR := Lib.hid hr1
  clear b2 hr1 HD HS HX HB1 HC HZ
  obtain ⟨r0, r1, g0, g1⟩ := HX2.out
  have hlx := HX2.out.lt
  go_wp2
  have hr4 := HX2.out.set2 (.int .i64 0) (.string ⟨#[]⟩)
  have hb4 := set2_below HB2.out (show w.heap.size ≤ w.heap.size + 1 by omega) (.int .i64 0) (.string ⟨#[]⟩)
  generalize ((w2.setCell ⟨w.heap.size + 1, 0, none⟩ (.int .i64 0)).setCell ⟨w.heap.size + 1, 1, none⟩ (.string ⟨#[]⟩)) = wf at *
  obtain ⟨k0, k1, -, -⟩ := hr4
  refine bodyPost_ret (v := .tuple #[SNV 0 ⟨#[]⟩, .int .i64 6]) (by simp [results, Tryz.results14, go_sem, k0, k1]) rfl ?_
  exact ⟨rfl, hb4⟩

set_option maxHeartbeats 1000000 in
theorem load_some (s : ByteArray) (B : List ByteArray) (hB : slotB S V f z = s :: B) (G : Int) (T : ByteArray) (E : Int)
    (hG : loadG (s :: B) = G) (hTx : loadT' (s :: B) = T) (hE : loadE (s :: B) = E) :
    Calls Tryz.prog 14 #[DV A n c A' m c' f, .int .i64 z] w (RetN w G T E) := by
  have HC := Lib.hid (check_any A n c A' m c' f S V _ ((hD.new (D33 A n c A' m c' f)).new (.cells #[.int .i64 0, .string ⟨#[]⟩] 50)))
  have hmay := h
  unfold mayL at hmay
  obtain ⟨hc, hz⟩ : chk S V f = 0 ∧ isS z = true := by simpa using hmay
  have HZ := Lib.hid (fun W => isSlot_any z W)
  rw [hz] at HZ
  rw [hc] at HC
  have HS := Lib.hid (fun W (hb : Below w.heap.size w W) => stretchOf_any A n c A' m c' f S V z W (hD.below hb) (isS_yes hz))
  have HD := Lib.hid (fun W (hb : Below w.heap.size w W) => drain_any A n c A' m c' f S V (z * sizR S.length) ((z + 1) * sizR S.length) W (hD.below hb))
  rw [show drainD S V f (z * sizR S.length) ((z + 1) * sizR S.length) = s :: B from hB] at HD
  generalize z * sizR S.length = p at *
  generalize (z + 1) * sizR S.length = q at *
  have HT := Lib.hid hT
  unfold loadG at hG
  unfold loadT' at hTx
  rw [hE] at hG hTx
  dsimp only at hG
  unfold loadE at hE
  obtain ⟨N, hN⟩ : ∃ N, (s :: B).length = N := ⟨_, rfl⟩
  have hN1 : 0 < N := by simp at hN; omega
  have hN0 : ((N : Int) == 0) = false := by simp; omega
  have HN := Lib.hid hN
  have HRd := Lib.hid (fun W => read_any s W)
  unfold partV at HRd
  have hget : ∀ w' A', RV w' A' N 1 (SV (s :: B)) → ∃ b off, A' = some ⟨b, off, none⟩ ∧ b < w'.heap.size ∧ w'.cell? ⟨b, off, none⟩ = some (.string s) := fun w' A' hr => by
    obtain ⟨b, off, h1, h2, h3⟩ := hr.secAt (k := 0) hN1 (by simp)
    exact ⟨b, off, h1, h2, h3⟩
  have HG := Lib.hid hget
  clear hD h hc hz hmay hB hN hT hget
  dsimp only at hE
  by_cases h1 : errR s = 0
  · rw [if_pos h1] at hE
    rw [if_pos h1, h1] at HRd
    have HJ := Lib.hid (fun W A' cc hr hT => join_any 1 (gA s) 0 A' N cc (s :: B) W hr hT)
    unfold RetJ at HJ
    have HH := Lib.hid (fun W => headOf_any (gA s) W)
    generalize errJ 1 (gA s) 0 (s :: B) = ej at *
    generalize kA s = ks at *
    generalize gA s = gs at *
    generalize nA s = ns at *
    generalize aA s = ap at *
    generalize oA s = os at *
    generalize dA s = ds at *
    by_cases hks : ks = 1
    · subst hks
      by_cases hns : ns = 0
      · subst hns
        rw [if_pos ⟨rfl, rfl⟩] at hE
        go_enter Tryz.func14, Tryz.ntmps14
        go_wp2_with (first | (go_at_call 43; (with_reducible refine HC.out.mono ?_); rintro e w1 ⟨rfl, hb1⟩; have HB1 := Lib.hid (((new1 w (D33 A n c A' m c' f)).push _).call hb1); have X1 := (by have := (Bx2.new (w.alloc (D33 A n c A' m c' f)) (.int .i64 0) (.string ⟨#[]⟩) 50).call hb1; rwa [World.size_alloc] at this : Bx2 w1 (w.heap.size + 1) (.int .i64 0) (.string ⟨#[]⟩)); have HX := Lib.hid X1; clear X1; have HY := Lib.hid (((St.new w A n c A' m c' f 33).alloc _).call hb1); obtain ⟨c0, c1, c2, -, -, -⟩ := HY.out.box; have hly := HY.out.lt; clear hb1) | (go_at_call 40; with_reducible refine (HZ.out _).mono ?_; rintro r w2 ⟨rfl, rfl⟩))
        with_reducible refine (HS.out _ HB1.out).mono ?_
        rintro r w1' ⟨rfl, rfl⟩
        go_wp2_with fail
        with_reducible refine (HD.out _ (HB1.out.push _)).mono ?_
        rintro r w2 ⟨B1, m1, cc1, rfl, hr1, b2⟩
        have HB2 := Lib.hid ((HB1.out.push _).call b2)
        have HX2 := Lib.hid ((HX.out.alloc (D33 A n c A' m c' f)).call b2)
        obtain rfl : N = m1 := by rw [← HN.out]; exact hr1.sec
        have HR := Lib.hid hr1
        clear b2 hr1 HD HS HX HB1 HC HZ
        obtain ⟨r0, r1, g0, g1⟩ := HX2.out
        have hlx := HX2.out.lt
        obtain ⟨b, off, rfl, hb, hcell⟩ := HG.out _ _ HR.out
        go_wp2_with fail
        go_wp2_with fail
        with_reducible refine (HRd.out _).mono ?_
        rintro r w3 ⟨rfl, b3⟩
        have HT3 := Lib.hid (Shf.tab_call HT.out ((HB2.out.call b3).push (.cells #[.int .u8 1, .int .i64 gs, .int .i64 0, .int .i64 ap, .int .i64 os, .string ds] 99)))
        have HB3 := Lib.hid ((HB2.out.call b3).push (.cells #[.int .u8 1, .int .i64 gs, .int .i64 0, .int .i64 ap, .int .i64 os, .string ds] 99))
        have HX3 := Lib.hid ((HX2.out.call b3).alloc (.cells #[.int .u8 1, .int .i64 gs, .int .i64 0, .int .i64 ap, .int .i64 os, .string ds] 99))
        have HR3 := Lib.hid ((HR.out.below b3).below (new1 _ (.cells #[.int .u8 1, .int .i64 gs, .int .i64 0, .int .i64 ap, .int .i64 os, .string ds] 99)))
        have HQ3 := Lib.hid (Box6.new w3 (.int .u8 1) (.int .i64 gs) (.int .i64 0) (.int .i64 ap) (.int .i64 os) (.string ds) 99)
        have hlq : w3.heap.size < (w3.alloc (.cells #[.int .u8 1, .int .i64 gs, .int .i64 0, .int .i64 ap, .int .i64 os, .string ds] 99)).heap.size := by simp
        have HLQ := Lib.hid hlq
        clear b3 HB2 HX2 HR HRd r0 r1 g0 g1 hlx
        go_wp2_with fail
        clear hlq
        generalize (w3.alloc (.cells #[.int .u8 1, .int .i64 gs, .int .i64 0, .int .i64 ap, .int .i64 os, .string ds] 99)) = W4 at *
        have hlq := HLQ.out
        obtain ⟨q0, q1, q2, q3, q4, q5⟩ := HQ3.out
        go_region_with (go_at_call 42; with_reducible refine (HH.out _).mono ?_; rintro r w5 ⟨rfl, hb5⟩; have HB5 := Lib.hid (undrew hb5); obtain ⟨q0, q1, q2, q3, q4, q5⟩ := HQ3.out.below (undrew hb5) hlq; clear hb5)
        all_goals (
          have HBw := Lib.hid (HB3.out.call HB5.out)
          have HXw := Lib.hid (HX3.out.call HB5.out)
          obtain ⟨r0, r1, g0, g1⟩ := HXw.out
          have hlw := HXw.out.lt
          go_wp2_with fail
          have HTw := Lib.hid (Shf.tab_call HT3.out HB5.out)
          have HRw := Lib.hid (HR3.out.below HB5.out)
          refine (HJ.out _ _ cc1 HRw.out HTw.out).mono ?_
          rintro r w6 ⟨rfl, hb6⟩
          have HB6 := Lib.hid (HBw.out.call hb6)
          have HX6 := Lib.hid (HXw.out.call hb6)
          obtain ⟨q0, q1, q2, q3, q4, q5⟩ := (HQ3.out.below HB5.out hlq).below hb6 (Nat.lt_of_lt_of_le hlq HB5.out.size)
          obtain ⟨r0, r1, g0, g1⟩ := HX6.out
          have hlw := HX6.out.lt
          clear hb6 HBw HXw
          by_cases hej : ej = 0
          · subst hej
            subst hE
            simp only [if_pos] at hG hTx ⊢
            subst hG hTx
            go_wp2_with fail
            have hr4 := HX6.out.set2 (.int .i64 gs) (.string (textU (loadS (s :: B))))
            have hb4 := set2_below HB6.out (show w.heap.size ≤ w.heap.size + 1 by omega) (.int .i64 gs) (.string (textU (loadS (s :: B))))
            generalize ((w6.setCell ⟨w.heap.size + 1, 0, none⟩ (.int .i64 gs)).setCell ⟨w.heap.size + 1, 1, none⟩ (.string (textU (loadS (s :: B))))) = wf at *
            obtain ⟨k0, k1, -, -⟩ := hr4
            refine bodyPost_ret (v := .tuple #[SNV gs (textU (loadS (s :: B))), .int .i64 0]) (by simp [results, Tryz.results14, go_sem, k0, k1]) rfl ?_
            exact ⟨rfl, hb4⟩
          · have hne := neq0 hej
            subst hE
            rw [if_neg hej] at hG hTx
            rw [if_neg hej, if_neg hej]
            subst hG hTx
            go_wp2_with fail
            have hr4 := HX6.out.set2 (.int .i64 0) (.string ⟨#[]⟩)
            have hb4 := set2_below HB6.out (show w.heap.size ≤ w.heap.size + 1 by omega) (.int .i64 0) (.string ⟨#[]⟩)
            generalize ((w6.setCell ⟨w.heap.size + 1, 0, none⟩ (.int .i64 0)).setCell ⟨w.heap.size + 1, 1, none⟩ (.string ⟨#[]⟩)) = wf at *
            obtain ⟨k0, k1, -, -⟩ := hr4
            refine bodyPost_ret (v := .tuple #[SNV 0 ⟨#[]⟩, .int .i64 ej]) (by simp [results, Tryz.results14, go_sem, k0, k1]) rfl ?_
            exact ⟨rfl, hb4⟩)
      · have hnb : (ns == 0) = false := by simpa using hns
        rw [if_neg (fun x => hns x.2)] at hE
        subst hE
        rw [if_neg (by decide)] at hG hTx
        subst hG hTx
        go_enter Tryz.func14, Tryz.ntmps14
        go_wp2_with (first | (go_at_call 43; (with_reducible refine HC.out.mono ?_); rintro e w1 ⟨rfl, hb1⟩; have HB1 := Lib.hid (((new1 w (D33 A n c A' m c' f)).push _).call hb1); have X1 := (by have := (Bx2.new (w.alloc (D33 A n c A' m c' f)) (.int .i64 0) (.string ⟨#[]⟩) 50).call hb1; rwa [World.size_alloc] at this : Bx2 w1 (w.heap.size + 1) (.int .i64 0) (.string ⟨#[]⟩)); have HX := Lib.hid X1; clear X1; have HY := Lib.hid (((St.new w A n c A' m c' f 33).alloc _).call hb1); obtain ⟨c0, c1, c2, -, -, -⟩ := HY.out.box; have hly := HY.out.lt; clear hb1) | (go_at_call 40; with_reducible refine (HZ.out _).mono ?_; rintro r w2 ⟨rfl, rfl⟩))
        with_reducible refine (HS.out _ HB1.out).mono ?_
        rintro r w1' ⟨rfl, rfl⟩
        go_wp2_with fail
        with_reducible refine (HD.out _ (HB1.out.push _)).mono ?_
        rintro r w2 ⟨B1, m1, cc1, rfl, hr1, b2⟩
        have HB2 := Lib.hid ((HB1.out.push _).call b2)
        have HX2 := Lib.hid ((HX.out.alloc (D33 A n c A' m c' f)).call b2)
        obtain rfl : N = m1 := by rw [← HN.out]; exact hr1.sec
        have HR := Lib.hid hr1
        clear b2 hr1 HD HS HX HB1 HC HZ
        obtain ⟨r0, r1, g0, g1⟩ := HX2.out
        have hlx := HX2.out.lt
        obtain ⟨b, off, rfl, hb, hcell⟩ := HG.out _ _ HR.out
        go_wp2_with fail
        go_wp2_with fail
        with_reducible refine (HRd.out _).mono ?_
        rintro r w3 ⟨rfl, b3⟩
        have HT3 := Lib.hid (Shf.tab_call HT.out ((HB2.out.call b3).push (.cells #[.int .u8 1, .int .i64 gs, .int .i64 ns, .int .i64 ap, .int .i64 os, .string ds] 99)))
        have HB3 := Lib.hid ((HB2.out.call b3).push (.cells #[.int .u8 1, .int .i64 gs, .int .i64 ns, .int .i64 ap, .int .i64 os, .string ds] 99))
        have HX3 := Lib.hid ((HX2.out.call b3).alloc (.cells #[.int .u8 1, .int .i64 gs, .int .i64 ns, .int .i64 ap, .int .i64 os, .string ds] 99))
        have HR3 := Lib.hid ((HR.out.below b3).below (new1 _ (.cells #[.int .u8 1, .int .i64 gs, .int .i64 ns, .int .i64 ap, .int .i64 os, .string ds] 99)))
        have HQ3 := Lib.hid (Box6.new w3 (.int .u8 1) (.int .i64 gs) (.int .i64 ns) (.int .i64 ap) (.int .i64 os) (.string ds) 99)
        have hlq : w3.heap.size < (w3.alloc (.cells #[.int .u8 1, .int .i64 gs, .int .i64 ns, .int .i64 ap, .int .i64 os, .string ds] 99)).heap.size := by simp
        have HLQ := Lib.hid hlq
        clear b3 HB2 HX2 HR HRd r0 r1 g0 g1 hlx
        go_wp2_with fail
        clear hlq
        generalize (w3.alloc (.cells #[.int .u8 1, .int .i64 gs, .int .i64 ns, .int .i64 ap, .int .i64 os, .string ds] 99)) = W4 at *
        have hlq := HLQ.out
        obtain ⟨q0, q1, q2, q3, q4, q5⟩ := HQ3.out
        go_region_with (go_at_call 42; with_reducible refine (HH.out _).mono ?_; rintro r w5 ⟨rfl, hb5⟩; have HB5 := Lib.hid (undrew hb5); obtain ⟨q0, q1, q2, q3, q4, q5⟩ := HQ3.out.below (undrew hb5) hlq; clear hb5)
        all_goals (
          have HBw := Lib.hid (HB3.out.call HB5.out)
          have HXw := Lib.hid (HX3.out.call HB5.out)
          obtain ⟨r0, r1, g0, g1⟩ := HXw.out
          have hlw := HXw.out.lt
          go_wp2_with fail
          have hr4 := HXw.out.set2 (.int .i64 0) (.string ⟨#[]⟩)
          have hb4 := set2_below HBw.out (show w.heap.size ≤ w.heap.size + 1 by omega) (.int .i64 0) (.string ⟨#[]⟩)
          generalize ((w5.setCell ⟨w.heap.size + 1, 0, none⟩ (.int .i64 0)).setCell ⟨w.heap.size + 1, 1, none⟩ (.string ⟨#[]⟩)) = wf at *
          obtain ⟨k0, k1, -, -⟩ := hr4
          refine bodyPost_ret (v := .tuple #[SNV 0 ⟨#[]⟩, .int .i64 11]) (by simp [results, Tryz.results14, go_sem, k0, k1]) rfl ?_
          exact ⟨rfl, hb4⟩)
    · have hkb : ((ks : Int) == 1) = false := by simp; omega
      rw [if_neg (fun x => hks x.1)] at hE
      subst hE
      rw [if_neg (by decide)] at hG hTx
      subst hG hTx
      go_enter Tryz.func14, Tryz.ntmps14
      go_wp2_with (first | (go_at_call 43; (with_reducible refine HC.out.mono ?_); rintro e w1 ⟨rfl, hb1⟩; have HB1 := Lib.hid (((new1 w (D33 A n c A' m c' f)).push _).call hb1); have X1 := (by have := (Bx2.new (w.alloc (D33 A n c A' m c' f)) (.int .i64 0) (.string ⟨#[]⟩) 50).call hb1; rwa [World.size_alloc] at this : Bx2 w1 (w.heap.size + 1) (.int .i64 0) (.string ⟨#[]⟩)); have HX := Lib.hid X1; clear X1; have HY := Lib.hid (((St.new w A n c A' m c' f 33).alloc _).call hb1); obtain ⟨c0, c1, c2, -, -, -⟩ := HY.out.box; have hly := HY.out.lt; clear hb1) | (go_at_call 40; with_reducible refine (HZ.out _).mono ?_; rintro r w2 ⟨rfl, rfl⟩))
      with_reducible refine (HS.out _ HB1.out).mono ?_
      rintro r w1' ⟨rfl, rfl⟩
      go_wp2_with fail
      with_reducible refine (HD.out _ (HB1.out.push _)).mono ?_
      rintro r w2 ⟨B1, m1, cc1, rfl, hr1, b2⟩
      have HB2 := Lib.hid ((HB1.out.push _).call b2)
      have HX2 := Lib.hid ((HX.out.alloc (D33 A n c A' m c' f)).call b2)
      obtain rfl : N = m1 := by rw [← HN.out]; exact hr1.sec
      have HR := Lib.hid hr1
      clear b2 hr1 HD HS HX HB1 HC HZ
      obtain ⟨r0, r1, g0, g1⟩ := HX2.out
      have hlx := HX2.out.lt
      obtain ⟨b, off, rfl, hb, hcell⟩ := HG.out _ _ HR.out
      go_wp2_with fail
      go_wp2_with fail
      with_reducible refine (HRd.out _).mono ?_
      rintro r w3 ⟨rfl, b3⟩
      have HT3 := Lib.hid (Shf.tab_call HT.out ((HB2.out.call b3).push (.cells #[.int .u8 ks, .int .i64 gs, .int .i64 ns, .int .i64 ap, .int .i64 os, .string ds] 99)))
      have HB3 := Lib.hid ((HB2.out.call b3).push (.cells #[.int .u8 ks, .int .i64 gs, .int .i64 ns, .int .i64 ap, .int .i64 os, .string ds] 99))
      have HX3 := Lib.hid ((HX2.out.call b3).alloc (.cells #[.int .u8 ks, .int .i64 gs, .int .i64 ns, .int .i64 ap, .int .i64 os, .string ds] 99))
      have HR3 := Lib.hid ((HR.out.below b3).below (new1 _ (.cells #[.int .u8 ks, .int .i64 gs, .int .i64 ns, .int .i64 ap, .int .i64 os, .string ds] 99)))
      have HQ3 := Lib.hid (Box6.new w3 (.int .u8 ks) (.int .i64 gs) (.int .i64 ns) (.int .i64 ap) (.int .i64 os) (.string ds) 99)
      have hlq : w3.heap.size < (w3.alloc (.cells #[.int .u8 ks, .int .i64 gs, .int .i64 ns, .int .i64 ap, .int .i64 os, .string ds] 99)).heap.size := by simp
      have HLQ := Lib.hid hlq
      clear b3 HB2 HX2 HR HRd r0 r1 g0 g1 hlx
      go_wp2_with fail
      clear hlq
      generalize (w3.alloc (.cells #[.int .u8 ks, .int .i64 gs, .int .i64 ns, .int .i64 ap, .int .i64 os, .string ds] 99)) = W4 at *
      have hlq := HLQ.out
      obtain ⟨q0, q1, q2, q3, q4, q5⟩ := HQ3.out
      go_region_with (go_at_call 42; with_reducible refine (HH.out _).mono ?_; rintro r w5 ⟨rfl, hb5⟩; have HB5 := Lib.hid (undrew hb5); obtain ⟨q0, q1, q2, q3, q4, q5⟩ := HQ3.out.below (undrew hb5) hlq; clear hb5)
      all_goals (
        have HBw := Lib.hid (HB3.out.call HB5.out)
        have HXw := Lib.hid (HX3.out.call HB5.out)
        obtain ⟨r0, r1, g0, g1⟩ := HXw.out
        have hlw := HXw.out.lt
        go_wp2_with fail
        have hr4 := HXw.out.set2 (.int .i64 0) (.string ⟨#[]⟩)
        have hb4 := set2_below HBw.out (show w.heap.size ≤ w.heap.size + 1 by omega) (.int .i64 0) (.string ⟨#[]⟩)
        generalize ((w5.setCell ⟨w.heap.size + 1, 0, none⟩ (.int .i64 0)).setCell ⟨w.heap.size + 1, 1, none⟩ (.string ⟨#[]⟩)) = wf at *
        obtain ⟨k0, k1, -, -⟩ := hr4
        refine bodyPost_ret (v := .tuple #[SNV 0 ⟨#[]⟩, .int .i64 11]) (by simp [results, Tryz.results14, go_sem, k0, k1]) rfl ?_
        exact ⟨rfl, hb4⟩)
  · rw [if_neg h1] at hE
    rw [if_neg h1] at HRd
    have hne := neq0 h1
    subst hE
    rw [if_neg h1] at hG hTx
    subst hG hTx
    clear h1
    go_enter Tryz.func14, Tryz.ntmps14
    go_wp2_with (first | (go_at_call 43; (with_reducible refine HC.out.mono ?_); rintro e w1 ⟨rfl, hb1⟩; have HB1 := Lib.hid (((new1 w (D33 A n c A' m c' f)).push _).call hb1); have X1 := (by have := (Bx2.new (w.alloc (D33 A n c A' m c' f)) (.int .i64 0) (.string ⟨#[]⟩) 50).call hb1; rwa [World.size_alloc] at this : Bx2 w1 (w.heap.size + 1) (.int .i64 0) (.string ⟨#[]⟩)); have HX := Lib.hid X1; clear X1; have HY := Lib.hid (((St.new w A n c A' m c' f 33).alloc _).call hb1); obtain ⟨c0, c1, c2, -, -, -⟩ := HY.out.box; have hly := HY.out.lt; clear hb1) | (go_at_call 40; with_reducible refine (HZ.out _).mono ?_; rintro r w2 ⟨rfl, rfl⟩))
    with_reducible refine (HS.out _ HB1.out).mono ?_
    rintro r w1' ⟨rfl, rfl⟩
    go_wp2_with fail
    with_reducible refine (HD.out _ (HB1.out.push _)).mono ?_
    rintro r w2 ⟨B1, m1, cc1, rfl, hr1, b2⟩
    have HB2 := Lib.hid ((HB1.out.push _).call b2)
    have HX2 := Lib.hid ((HX.out.alloc (D33 A n c A' m c' f)).call b2)
    obtain rfl : N = m1 := by rw [← HN.out]; exact hr1.sec
    have HR := Lib.hid hr1
    clear b2 hr1 HD HS HX HB1 HC HZ
    obtain ⟨r0, r1, g0, g1⟩ := HX2.out
    have hlx := HX2.out.lt
    obtain ⟨b, off, rfl, hb, hcell⟩ := HG.out _ _ HR.out
    go_wp2_with fail
    go_wp2_with fail
    with_reducible refine (HRd.out _).mono ?_
    rintro r w3 ⟨rfl, b3⟩
    have HB3 := Lib.hid (HB2.out.call b3)
    have HX3 := Lib.hid (HX2.out.call b3)
    obtain ⟨r0, r1, g0, g1⟩ := HX2.out.call b3
    have hlx3 := (HX2.out.call b3).lt
    clear b3 HB2 HX2 HR HRd
    go_wp2
    have hr4 := (HX3.out.set2 (.int .i64 0) (.string ⟨#[]⟩)).alloc (.cells #[.int .u8 0, .int .i64 0, .int .i64 0, .int .i64 0, .int .i64 0, .string ⟨#[]⟩] 99)
    have hb4 := (set2_below HB3.out (show w.heap.size ≤ w.heap.size + 1 by omega) (.int .i64 0) (.string ⟨#[]⟩)).push (.cells #[.int .u8 0, .int .i64 0, .int .i64 0, .int .i64 0, .int .i64 0, .string ⟨#[]⟩] 99)
    generalize (((w3.setCell ⟨w.heap.size + 1, 0, none⟩ (.int .i64 0)).setCell ⟨w.heap.size + 1, 1, none⟩ (.string ⟨#[]⟩)).alloc (.cells #[.int .u8 0, .int .i64 0, .int .i64 0, .int .i64 0, .int .i64 0, .string ⟨#[]⟩] 99)) = wf at *
    obtain ⟨k0, k1, -, -⟩ := hr4
    refine bodyPost_ret (v := .tuple #[SNV 0 ⟨#[]⟩, .int .i64 (errR s)]) (by simp [results, Tryz.results14, go_sem, k0, k1]) rfl ?_
    exact ⟨rfl, hb4⟩
end

theorem load_any (A : Option Addr) (n c : Nat) (A' : Option Addr) (m c' : Nat) (f : Int) (S : List ByteArray) (V : List Wr) (z : Int) (w : World) (hD : Dev w A n c A' m c' f S V) (hT : Tab w) :
    Calls Tryz.prog 14 #[DV A n c A' m c' f, .int .i64 z] w (RetN w (loadDG S V f z) (loadDT S V f z) (loadDE S V f z)) := by
  unfold loadDG loadDT loadDE
  by_cases h : mayL S V f z = true
  · rw [if_pos h, if_pos h, if_pos h]
    cases hB : slotB S V f z with
    | nil => exact load_none A n c A' m c' f S V z w hD hT h hB
    | cons s B => exact load_some A n c A' m c' f S V z w hD hT h s B hB _ _ _ rfl rfl rfl
  · rw [if_neg h, if_neg h, if_neg h]
    exact load_no A n c A' m c' f S V z w hD (by simpa using h)

end Go.Proofs.YtpeckeiaonjaaaaGreatDoor.Slt
