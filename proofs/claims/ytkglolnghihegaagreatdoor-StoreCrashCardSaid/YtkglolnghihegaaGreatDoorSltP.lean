import Derived.Test.YtkglolnghihegaaGreatDoorSlotsDrain
import Derived.Test.YtkglolnghihegaaGreatDoorSheafJoin
import Derived.Test.YtkglolnghihegaaGreatDoorDskB
import Derived.Deep.RegionWith
import Derived.Test.YtkglolnghihegaaGreatDoorSlotsSave
import Derived.Test.YtkglolnghihegaaGreatDoorShtP
import Derived.Test.YtkglolnghihegaaGreatDoorSheafBackP
import Derived.Test.YtkglolnghihegaaGreatDoorDiskPlain

/- Contract of Load of package slots. -/
namespace Go.Proofs.YtkglolnghihegaaGreatDoor.Slt
open Go.RowKit Go.Proofs.YtkglolnghihegaaGreatDoor.Dsk Go.Proofs.YtkglolnghihegaaGreatDoor.Sht Go.Proofs.YtkglolnghihegaaGreatDoor.Shf
open Go.Proofs.YtkglolnghihegaaGreatDoor.Crc (Tab)

/-- What stands against bodies. -/
def loadE (B : List ByteArray) : Int :=
  match B with
  | [] => 6
  | s :: B' => if errR s = 0 then (if kA s = 1 ∧ nA s = 0 then errJ 1 (gA s) 0 (s :: B') else 11) else errR s
/-- The generation and the text of bodies. -/
def loadG (B : List ByteArray) : Int := if loadE B = 0 then (match B with | [] => 0 | s :: _ => gA s) else 0
def loadT' (B : List ByteArray) : ByteArray := if loadE B = 0 then textU (loadS B) else ⟨#[]⟩
/-- What is answered: a snapshot, and an error. -/
abbrev SNV (g : Int) (t : ByteArray) : Value := .agg #[.int .i64 g, .string t]
def RetN (w : World) (g : Int) (t : ByteArray) (e : Int) (r : Ending) (w' : World) : Prop := r = .returned (.tuple #[SNV g t, .int .i64 e]) ∧ Below w.heap.size w w'

/-- The bodies of a slot. -/
def slotB (S : List ByteArray) (W : List Wr) (f z : Int) : List ByteArray := drainD S W f (z * sizR S.length) ((z + 1) * sizR S.length)
def mayL (S : List ByteArray) (W : List Wr) (f z : Int) : Bool := decide (chk S W f = 0) && isS z
def loadDE (S : List ByteArray) (W : List Wr) (f z : Int) : Int := if mayL S W f z = true then loadE (slotB S W f z) else 2
def loadDG (S : List ByteArray) (W : List Wr) (f z : Int) : Int := if mayL S W f z = true then loadG (slotB S W f z) else 0
def loadDT (S : List ByteArray) (W : List Wr) (f z : Int) : ByteArray := if mayL S W f z = true then loadT' (slotB S W f z) else ⟨#[]⟩

/-- A block of two cells. -/
structure Bx2 (w : World) (b : Nat) (x y : Value) : Prop where
  c0 : w.cell? ⟨b, 0, none⟩ = some x
  c1 : w.cell? ⟨b, 1, none⟩ = some y
  f0 : w.frozen? ⟨b, 0, none⟩ = false
  f1 : w.frozen? ⟨b, 1, none⟩ = false
theorem Bx2.below {w w' : World} {B b : Nat} {x y : Value} (h : Bx2 w b x y) (hb : Below B w w') (hl : b < B) : Bx2 w' b x y :=
  ⟨(hb.cell (p := ⟨b, 0, none⟩) hl).trans h.c0, (hb.cell (p := ⟨b, 1, none⟩) hl).trans h.c1, (hb.frozen (p := ⟨b, 0, none⟩) hl).trans h.f0, (hb.frozen (p := ⟨b, 1, none⟩) hl).trans h.f1⟩
theorem Bx2.new (w : World) (x y : Value) (t : TypeId) : Bx2 (w.alloc (.cells #[x, y] t)) w.heap.size x y := by constructor <;> simp [go_sem]
theorem Bx2.lt {w : World} {b : Nat} {x y : Value} (h : Bx2 w b x y) : b < w.heap.size := cell_lt h.c0
theorem Bx2.alloc {w : World} {b : Nat} {x y : Value} (h : Bx2 w b x y) (o : Obj) : Bx2 (w.alloc o) b x y := h.below (new1 w o) h.lt
theorem Bx2.call {w w' : World} {b : Nat} {x y : Value} (h : Bx2 w b x y) (hb : Below w.heap.size w w') : Bx2 w' b x y := h.below hb h.lt
theorem Bx2.set2 {w : World} {b : Nat} {x y : Value} (h : Bx2 w b x y) (x' y' : Value) : Bx2 ((w.setCell ⟨b, 0, none⟩ x').setCell ⟨b, 1, none⟩ y') b x' y' := by
  obtain ⟨c0, c1, f0, f1⟩ := h
  constructor <;> simp [go_sem, *]
theorem set2_below {B g : Nat} {a w : World} (h : Below B a w) (hg : B ≤ g) (x0 x1 : Value) : Below B a ((w.setCell ⟨g, 0, none⟩ x0).setCell ⟨g, 1, none⟩ x1) := (h.setCell hg _).setCell hg _

theorem load_no (A : Option Addr) (n c : Nat) (A' : Option Addr) (m c' : Nat) (f : Int) (S : List ByteArray) (V : List Wr) (z : Int) (w : World) (hD : Dev w A n c A' m c' f S V) (h : mayL S V f z = false) :
    Calls Tryz.prog 103 #[DV A n c A' m c' f, .int .i64 z] w (RetN w 0 ⟨#[]⟩ 2) := by
  have HC := Lib.hid (check_any A n c A' m c' f S V _ ((hD.new (D33 A n c A' m c' f)).new (.cells #[.int .i64 0, .string ⟨#[]⟩] 75)))
  unfold mayL at h
  by_cases hc : chk S V f = 0
  · have hz : isS z = false := by simpa [hc] using h
    have HZ := Lib.hid (fun W => isSlot_any z W)
    rw [hz] at HZ
    rw [hc] at HC
    clear hD h hc hz
    go_enter Tryz.func103, Tryz.ntmps103
    go_wp2_with (first | (go_at_call 31; (with_reducible refine HC.out.mono ?_); rintro e w1 ⟨rfl, hb1⟩; have HB := Lib.hid (((new1 w (D33 A n c A' m c' f)).push _).call hb1); have X1 := (by have := (Bx2.new (w.alloc (D33 A n c A' m c' f)) (.int .i64 0) (.string ⟨#[]⟩) 75).call hb1; rwa [World.size_alloc] at this : Bx2 w1 (w.heap.size + 1) (.int .i64 0) (.string ⟨#[]⟩)); have HX := Lib.hid X1; obtain ⟨r0, r1, g0, g1⟩ := X1; clear hb1) | (go_at_call 76; with_reducible refine (HZ.out _).mono ?_; rintro r w2 ⟨rfl, rfl⟩))
    have hr4 := HX.out.set2 (.int .i64 0) (.string ⟨#[]⟩)
    have hb4 := set2_below HB.out (show w.heap.size ≤ w.heap.size + 1 by omega) (.int .i64 0) (.string ⟨#[]⟩)
    generalize ((w1.setCell ⟨w.heap.size + 1, 0, none⟩ (.int .i64 0)).setCell ⟨w.heap.size + 1, 1, none⟩ (.string ⟨#[]⟩)) = wf at *
    obtain ⟨k0, k1, -, -⟩ := hr4
    refine bodyPost_ret (v := .tuple #[SNV 0 ⟨#[]⟩, .int .i64 2]) (by simp [results, Tryz.results103, go_sem, k0, k1]) rfl ?_
    exact ⟨rfl, hb4⟩
  · have hne := neq0 hc
    generalize chk S V f = e0 at *
    clear hD h hc
    go_enter Tryz.func103, Tryz.ntmps103
    go_wp2_with (go_at_call 31; (with_reducible refine HC.out.mono ?_); rintro e w1 ⟨rfl, hb1⟩; have HB := Lib.hid (((new1 w (D33 A n c A' m c' f)).push _).call hb1); have X1 := (by have := (Bx2.new (w.alloc (D33 A n c A' m c' f)) (.int .i64 0) (.string ⟨#[]⟩) 75).call hb1; rwa [World.size_alloc] at this : Bx2 w1 (w.heap.size + 1) (.int .i64 0) (.string ⟨#[]⟩)); have HX := Lib.hid X1; obtain ⟨r0, r1, g0, g1⟩ := X1; clear hb1)
    have hr4 := HX.out.set2 (.int .i64 0) (.string ⟨#[]⟩)
    have hb4 := set2_below HB.out (show w.heap.size ≤ w.heap.size + 1 by omega) (.int .i64 0) (.string ⟨#[]⟩)
    generalize ((w1.setCell ⟨w.heap.size + 1, 0, none⟩ (.int .i64 0)).setCell ⟨w.heap.size + 1, 1, none⟩ (.string ⟨#[]⟩)) = wf at *
    obtain ⟨k0, k1, -, -⟩ := hr4
    refine bodyPost_ret (v := .tuple #[SNV 0 ⟨#[]⟩, .int .i64 2]) (by simp [results, Tryz.results103, go_sem, k0, k1]) rfl ?_
    exact ⟨rfl, hb4⟩

section
variable (A : Option Addr) (n c : Nat) (A' : Option Addr) (m c' : Nat) (f : Int) (S : List ByteArray) (V : List Wr) (z : Int) (w : World) (hD : Dev w A n c A' m c' f S V) (hT : Tab w) (h : mayL S V f z = true)
include hD hT h

theorem load_none (hB : slotB S V f z = []) :
    Calls Tryz.prog 103 #[DV A n c A' m c' f, .int .i64 z] w (RetN w 0 ⟨#[]⟩ 6) := by
  have HC := Lib.hid (check_any A n c A' m c' f S V _ ((hD.new (D33 A n c A' m c' f)).new (.cells #[.int .i64 0, .string ⟨#[]⟩] 75)))
  have hmay := h
  unfold mayL at hmay
  obtain ⟨hc, hz⟩ : chk S V f = 0 ∧ isS z = true := by simpa using hmay
  have HZ := Lib.hid (fun W => isSlot_any z W)
  rw [hz] at HZ
  rw [hc] at HC
  have HS := Lib.hid (fun W (hb : Below w.heap.size w W) => stretchOf_any A n c A' m c' f S V z W (hD.below hb) (isS_yes hz))
  have HD := Lib.hid (fun W (hb : Below w.heap.size w W) => drain_any A n c A' m c' f S V (z * sizR S.length) ((z + 1) * sizR S.length) W (hD.below hb))
  rw [show drainD S V f (z * sizR S.length) ((z + 1) * sizR S.length) = [] from hB] at HD
  generalize z * sizR S.length = p at *
  generalize (z + 1) * sizR S.length = q at *
  have HT := Lib.hid hT
  obtain ⟨N, hN⟩ : ∃ N, N = 0 := ⟨_, rfl⟩
  have HN : Hid (([] : List ByteArray).length = N) := Lib.hid hN.symm
  have hN0 : ((N : Int) == 0) = true := by subst hN; rfl
  clear hD h hc hz hmay hB hN
  go_enter Tryz.func103, Tryz.ntmps103
  go_wp2_with (first | (go_at_call 31; (with_reducible refine HC.out.mono ?_); rintro e w1 ⟨rfl, hb1⟩; have HB1 := Lib.hid (((new1 w (D33 A n c A' m c' f)).push _).call hb1); have X1 := (by have := (Bx2.new (w.alloc (D33 A n c A' m c' f)) (.int .i64 0) (.string ⟨#[]⟩) 75).call hb1; rwa [World.size_alloc] at this : Bx2 w1 (w.heap.size + 1) (.int .i64 0) (.string ⟨#[]⟩)); have HX := Lib.hid X1; clear X1; have HY := Lib.hid (((St.new w A n c A' m c' f 29).alloc _).call hb1); obtain ⟨c0, c1, c2, -, -, -⟩ := HY.out.box; have hly := HY.out.lt; clear hb1) | (go_at_call 76; with_reducible refine (HZ.out _).mono ?_; rintro r w2 ⟨rfl, rfl⟩))
  with_reducible refine (HS.out _ HB1.out).mono ?_
  rintro r w1' ⟨rfl, rfl⟩
  go_wp2_with fail
  with_reducible refine (HD.out _ (HB1.out.push _)).mono ?_
  rintro r w2 ⟨B1, m1, cc1, rfl, hr1, b2⟩
  have HB2 := Lib.hid ((HB1.out.push _).call b2)
  have HX2 := Lib.hid ((HX.out.alloc (D33 A n c A' m c' f)).call b2)
  obtain rfl : N = m1 := by rw [← HN.out]; exact hr1.sec
  have HR := Lib.hid hr1
  clear b2 hr1 HD HS HX HB1 HC HZ
  obtain ⟨r0, r1, g0, g1⟩ := HX2.out
  have hlx := HX2.out.lt
  go_wp2
  have hr4 := HX2.out.set2 (.int .i64 0) (.string ⟨#[]⟩)
  have hb4 := set2_below HB2.out (show w.heap.size ≤ w.heap.size + 1 by omega) (.int .i64 0) (.string ⟨#[]⟩)
  generalize ((w2.setCell ⟨w.heap.size + 1, 0, none⟩ (.int .i64 0)).setCell ⟨w.heap.size + 1, 1, none⟩ (.string ⟨#[]⟩)) = wf at *
  obtain ⟨k0, k1, -, -⟩ := hr4
  refine bodyPost_ret (v := .tuple #[SNV 0 ⟨#[]⟩, .int .i64 6]) (by simp [results, Tryz.results103, go_sem, k0, k1]) rfl ?_
  exact ⟨rfl, hb4⟩

set_option maxHeartbeats 1000000 in
theorem load_some (s : ByteArray) (B : List ByteArray) (hB : slotB S V f z = s :: B) (G : Int) (T : ByteArray) (E : Int)
    (hG : loadG (s :: B) = G) (hTx : loadT' (s :: B) = T) (hE : loadE (s :: B) = E) :
    Calls Tryz.prog 103 #[DV A n c A' m c' f, .int .i64 z] w (RetN w G T E) := by
  have HC := Lib.hid (check_any A n c A' m c' f S V _ ((hD.new (D33 A n c A' m c' f)).new (.cells #[.int .i64 0, .string ⟨#[]⟩] 75)))
  have hmay := h
  unfold mayL at hmay
  obtain ⟨hc, hz⟩ : chk S V f = 0 ∧ isS z = true := by simpa using hmay
  have HZ := Lib.hid (fun W => isSlot_any z W)
  rw [hz] at HZ
  rw [hc] at HC
  have HS := Lib.hid (fun W (hb : Below w.heap.size w W) => stretchOf_any A n c A' m c' f S V z W (hD.below hb) (isS_yes hz))
  have HD := Lib.hid (fun W (hb : Below w.heap.size w W) => drain_any A n c A' m c' f S V (z * sizR S.length) ((z + 1) * sizR S.length) W (hD.below hb))
  rw [show drainD S V f (z * sizR S.length) ((z + 1) * sizR S.length) = s :: B from hB] at HD
  generalize z * sizR S.length = p at *
  generalize (z + 1) * sizR S.length = q at *
  have HT := Lib.hid hT
  unfold loadG at hG
  unfold loadT' at hTx
  rw [hE] at hG hTx
  dsimp only at hG
  unfold loadE at hE
  obtain ⟨N, hN⟩ : ∃ N, (s :: B).length = N := ⟨_, rfl⟩
  have hN1 : 0 < N := by simp at hN; omega
  have hN0 : ((N : Int) == 0) = false := by simp; omega
  have HN := Lib.hid hN
  have HRd := Lib.hid (fun W => read_any s W)
  unfold partV at HRd
  have hget : ∀ w' A', RV w' A' N 1 (SV (s :: B)) → ∃ b off, A' = some ⟨b, off, none⟩ ∧ b < w'.heap.size ∧ w'.cell? ⟨b, off, none⟩ = some (.string s) := fun w' A' hr => by
    obtain ⟨b, off, h1, h2, h3⟩ := hr.secAt (k := 0) hN1 (by simp)
    exact ⟨b, off, h1, h2, h3⟩
  have HG := Lib.hid hget
  clear hD h hc hz hmay hB hN hT hget
  dsimp only at hE
  by_cases h1 : errR s = 0
  · rw [if_pos h1] at hE
    rw [if_pos h1, h1] at HRd
    have HJ := Lib.hid (fun W A' cc hr hT => join_any 1 (gA s) 0 A' N cc (s :: B) W hr hT)
    unfold RetJ at HJ
    have HH := Lib.hid (fun W => headOf_any (gA s) W)
    generalize errJ 1 (gA s) 0 (s :: B) = ej at *
    generalize kA s = ks at *
    generalize gA s = gs at *
    generalize nA s = ns at *
    generalize aA s = ap at *
    generalize oA s = os at *
    generalize dA s = ds at *
    by_cases hks : ks = 1
    · subst hks
      by_cases hns : ns = 0
      · subst hns
        rw [if_pos ⟨rfl, rfl⟩] at hE
        go_enter Tryz.func103, Tryz.ntmps103
        go_wp2_with (first | (go_at_call 31; (with_reducible refine HC.out.mono ?_); rintro e w1 ⟨rfl, hb1⟩; have HB1 := Lib.hid (((new1 w (D33 A n c A' m c' f)).push _).call hb1); have X1 := (by have := (Bx2.new (w.alloc (D33 A n c A' m c' f)) (.int .i64 0) (.string ⟨#[]⟩) 75).call hb1; rwa [World.size_alloc] at this : Bx2 w1 (w.heap.size + 1) (.int .i64 0) (.string ⟨#[]⟩)); have HX := Lib.hid X1; clear X1; have HY := Lib.hid (((St.new w A n c A' m c' f 29).alloc _).call hb1); obtain ⟨c0, c1, c2, -, -, -⟩ := HY.out.box; have hly := HY.out.lt; clear hb1) | (go_at_call 76; with_reducible refine (HZ.out _).mono ?_; rintro r w2 ⟨rfl, rfl⟩))
        with_reducible refine (HS.out _ HB1.out).mono ?_
        rintro r w1' ⟨rfl, rfl⟩
        go_wp2_with fail
        with_reducible refine (HD.out _ (HB1.out.push _)).mono ?_
        rintro r w2 ⟨B1, m1, cc1, rfl, hr1, b2⟩
        have HB2 := Lib.hid ((HB1.out.push _).call b2)
        have HX2 := Lib.hid ((HX.out.alloc (D33 A n c A' m c' f)).call b2)
        obtain rfl : N = m1 := by rw [← HN.out]; exact hr1.sec
        have HR := Lib.hid hr1
        clear b2 hr1 HD HS HX HB1 HC HZ
        obtain ⟨r0, r1, g0, g1⟩ := HX2.out
        have hlx := HX2.out.lt
        obtain ⟨b, off, rfl, hb, hcell⟩ := HG.out _ _ HR.out
        go_wp2_with fail
        go_wp2_with fail
        with_reducible refine (HRd.out _).mono ?_
        rintro r w3 ⟨rfl, b3⟩
        have HT3 := Lib.hid (Shf.tab_call HT.out ((HB2.out.call b3).push (.cells #[.int .u8 1, .int .i64 gs, .int .i64 0, .int .i64 ap, .int .i64 os, .string ds] 209)))
        have HB3 := Lib.hid ((HB2.out.call b3).push (.cells #[.int .u8 1, .int .i64 gs, .int .i64 0, .int .i64 ap, .int .i64 os, .string ds] 209))
        have HX3 := Lib.hid ((HX2.out.call b3).alloc (.cells #[.int .u8 1, .int .i64 gs, .int .i64 0, .int .i64 ap, .int .i64 os, .string ds] 209))
        have HR3 := Lib.hid ((HR.out.below b3).below (new1 _ (.cells #[.int .u8 1, .int .i64 gs, .int .i64 0, .int .i64 ap, .int .i64 os, .string ds] 209)))
        have HQ3 := Lib.hid (Box6.new w3 (.int .u8 1) (.int .i64 gs) (.int .i64 0) (.int .i64 ap) (.int .i64 os) (.string ds) 209)
        have hlq : w3.heap.size < (w3.alloc (.cells #[.int .u8 1, .int .i64 gs, .int .i64 0, .int .i64 ap, .int .i64 os, .string ds] 209)).heap.size := by simp
        have HLQ := Lib.hid hlq
        clear b3 HB2 HX2 HR HRd r0 r1 g0 g1 hlx
        go_wp2_with fail
        clear hlq
        generalize (w3.alloc (.cells #[.int .u8 1, .int .i64 gs, .int .i64 0, .int .i64 ap, .int .i64 os, .string ds] 209)) = W4 at *
        have hlq := HLQ.out
        obtain ⟨q0, q1, q2, q3, q4, q5⟩ := HQ3.out
        go_region_with (go_at_call 79; with_reducible refine (HH.out _).mono ?_; rintro r w5 ⟨rfl, hb5⟩; have HB5 := Lib.hid (undrew hb5); obtain ⟨q0, q1, q2, q3, q4, q5⟩ := HQ3.out.below (undrew hb5) hlq; clear hb5)
        all_goals (
          have HBw := Lib.hid (HB3.out.call HB5.out)
          have HXw := Lib.hid (HX3.out.call HB5.out)
          obtain ⟨r0, r1, g0, g1⟩ := HXw.out
          have hlw := HXw.out.lt
          go_wp2_with fail
          have HTw := Lib.hid (Shf.tab_call HT3.out HB5.out)
          have HRw := Lib.hid (HR3.out.below HB5.out)
          refine (HJ.out _ _ cc1 HRw.out HTw.out).mono ?_
          rintro r w6 ⟨rfl, hb6⟩
          have HB6 := Lib.hid (HBw.out.call hb6)
          have HX6 := Lib.hid (HXw.out.call hb6)
          obtain ⟨q0, q1, q2, q3, q4, q5⟩ := (HQ3.out.below HB5.out hlq).below hb6 (Nat.lt_of_lt_of_le hlq HB5.out.size)
          obtain ⟨r0, r1, g0, g1⟩ := HX6.out
          have hlw := HX6.out.lt
          clear hb6 HBw HXw
          by_cases hej : ej = 0
          · subst hej
            subst hE
            simp only [if_pos] at hG hTx ⊢
            subst hG hTx
            go_wp2_with fail
            have hr4 := HX6.out.set2 (.int .i64 gs) (.string (textU (loadS (s :: B))))
            have hb4 := set2_below HB6.out (show w.heap.size ≤ w.heap.size + 1 by omega) (.int .i64 gs) (.string (textU (loadS (s :: B))))
            generalize ((w6.setCell ⟨w.heap.size + 1, 0, none⟩ (.int .i64 gs)).setCell ⟨w.heap.size + 1, 1, none⟩ (.string (textU (loadS (s :: B))))) = wf at *
            obtain ⟨k0, k1, -, -⟩ := hr4
            refine bodyPost_ret (v := .tuple #[SNV gs (textU (loadS (s :: B))), .int .i64 0]) (by simp [results, Tryz.results103, go_sem, k0, k1]) rfl ?_
            exact ⟨rfl, hb4⟩
          · have hne := neq0 hej
            subst hE
            rw [if_neg hej] at hG hTx
            rw [if_neg hej, if_neg hej]
            subst hG hTx
            go_wp2_with fail
            have hr4 := HX6.out.set2 (.int .i64 0) (.string ⟨#[]⟩)
            have hb4 := set2_below HB6.out (show w.heap.size ≤ w.heap.size + 1 by omega) (.int .i64 0) (.string ⟨#[]⟩)
            generalize ((w6.setCell ⟨w.heap.size + 1, 0, none⟩ (.int .i64 0)).setCell ⟨w.heap.size + 1, 1, none⟩ (.string ⟨#[]⟩)) = wf at *
            obtain ⟨k0, k1, -, -⟩ := hr4
            refine bodyPost_ret (v := .tuple #[SNV 0 ⟨#[]⟩, .int .i64 ej]) (by simp [results, Tryz.results103, go_sem, k0, k1]) rfl ?_
            exact ⟨rfl, hb4⟩)
      · have hnb : (ns == 0) = false := by simpa using hns
        rw [if_neg (fun x => hns x.2)] at hE
        subst hE
        rw [if_neg (by decide)] at hG hTx
        subst hG hTx
        go_enter Tryz.func103, Tryz.ntmps103
        go_wp2_with (first | (go_at_call 31; (with_reducible refine HC.out.mono ?_); rintro e w1 ⟨rfl, hb1⟩; have HB1 := Lib.hid (((new1 w (D33 A n c A' m c' f)).push _).call hb1); have X1 := (by have := (Bx2.new (w.alloc (D33 A n c A' m c' f)) (.int .i64 0) (.string ⟨#[]⟩) 75).call hb1; rwa [World.size_alloc] at this : Bx2 w1 (w.heap.size + 1) (.int .i64 0) (.string ⟨#[]⟩)); have HX := Lib.hid X1; clear X1; have HY := Lib.hid (((St.new w A n c A' m c' f 29).alloc _).call hb1); obtain ⟨c0, c1, c2, -, -, -⟩ := HY.out.box; have hly := HY.out.lt; clear hb1) | (go_at_call 76; with_reducible refine (HZ.out _).mono ?_; rintro r w2 ⟨rfl, rfl⟩))
        with_reducible refine (HS.out _ HB1.out).mono ?_
        rintro r w1' ⟨rfl, rfl⟩
        go_wp2_with fail
        with_reducible refine (HD.out _ (HB1.out.push _)).mono ?_
        rintro r w2 ⟨B1, m1, cc1, rfl, hr1, b2⟩
        have HB2 := Lib.hid ((HB1.out.push _).call b2)
        have HX2 := Lib.hid ((HX.out.alloc (D33 A n c A' m c' f)).call b2)
        obtain rfl : N = m1 := by rw [← HN.out]; exact hr1.sec
        have HR := Lib.hid hr1
        clear b2 hr1 HD HS HX HB1 HC HZ
        obtain ⟨r0, r1, g0, g1⟩ := HX2.out
        have hlx := HX2.out.lt
        obtain ⟨b, off, rfl, hb, hcell⟩ := HG.out _ _ HR.out
        go_wp2_with fail
        go_wp2_with fail
        with_reducible refine (HRd.out _).mono ?_
        rintro r w3 ⟨rfl, b3⟩
        have HT3 := Lib.hid (Shf.tab_call HT.out ((HB2.out.call b3).push (.cells #[.int .u8 1, .int .i64 gs, .int .i64 ns, .int .i64 ap, .int .i64 os, .string ds] 209)))
        have HB3 := Lib.hid ((HB2.out.call b3).push (.cells #[.int .u8 1, .int .i64 gs, .int .i64 ns, .int .i64 ap, .int .i64 os, .string ds] 209))
        have HX3 := Lib.hid ((HX2.out.call b3).alloc (.cells #[.int .u8 1, .int .i64 gs, .int .i64 ns, .int .i64 ap, .int .i64 os, .string ds] 209))
        have HR3 := Lib.hid ((HR.out.below b3).below (new1 _ (.cells #[.int .u8 1, .int .i64 gs, .int .i64 ns, .int .i64 ap, .int .i64 os, .string ds] 209)))
        have HQ3 := Lib.hid (Box6.new w3 (.int .u8 1) (.int .i64 gs) (.int .i64 ns) (.int .i64 ap) (.int .i64 os) (.string ds) 209)
        have hlq : w3.heap.size < (w3.alloc (.cells #[.int .u8 1, .int .i64 gs, .int .i64 ns, .int .i64 ap, .int .i64 os, .string ds] 209)).heap.size := by simp
        have HLQ := Lib.hid hlq
        clear b3 HB2 HX2 HR HRd r0 r1 g0 g1 hlx
        go_wp2_with fail
        clear hlq
        generalize (w3.alloc (.cells #[.int .u8 1, .int .i64 gs, .int .i64 ns, .int .i64 ap, .int .i64 os, .string ds] 209)) = W4 at *
        have hlq := HLQ.out
        obtain ⟨q0, q1, q2, q3, q4, q5⟩ := HQ3.out
        go_region_with (go_at_call 79; with_reducible refine (HH.out _).mono ?_; rintro r w5 ⟨rfl, hb5⟩; have HB5 := Lib.hid (undrew hb5); obtain ⟨q0, q1, q2, q3, q4, q5⟩ := HQ3.out.below (undrew hb5) hlq; clear hb5)
        all_goals (
          have HBw := Lib.hid (HB3.out.call HB5.out)
          have HXw := Lib.hid (HX3.out.call HB5.out)
          obtain ⟨r0, r1, g0, g1⟩ := HXw.out
          have hlw := HXw.out.lt
          go_wp2_with fail
          have hr4 := HXw.out.set2 (.int .i64 0) (.string ⟨#[]⟩)
          have hb4 := set2_below HBw.out (show w.heap.size ≤ w.heap.size + 1 by omega) (.int .i64 0) (.string ⟨#[]⟩)
          generalize ((w5.setCell ⟨w.heap.size + 1, 0, none⟩ (.int .i64 0)).setCell ⟨w.heap.size + 1, 1, none⟩ (.string ⟨#[]⟩)) = wf at *
          obtain ⟨k0, k1, -, -⟩ := hr4
          refine bodyPost_ret (v := .tuple #[SNV 0 ⟨#[]⟩, .int .i64 11]) (by simp [results, Tryz.results103, go_sem, k0, k1]) rfl ?_
          exact ⟨rfl, hb4⟩)
    · have hkb : ((ks : Int) == 1) = false := by simp; omega
      rw [if_neg (fun x => hks x.1)] at hE
      subst hE
      rw [if_neg (by decide)] at hG hTx
      subst hG hTx
      go_enter Tryz.func103, Tryz.ntmps103
      go_wp2_with (first | (go_at_call 31; (with_reducible refine HC.out.mono ?_); rintro e w1 ⟨rfl, hb1⟩; have HB1 := Lib.hid (((new1 w (D33 A n c A' m c' f)).push _).call hb1); have X1 := (by have := (Bx2.new (w.alloc (D33 A n c A' m c' f)) (.int .i64 0) (.string ⟨#[]⟩) 75).call hb1; rwa [World.size_alloc] at this : Bx2 w1 (w.heap.size + 1) (.int .i64 0) (.string ⟨#[]⟩)); have HX := Lib.hid X1; clear X1; have HY := Lib.hid (((St.new w A n c A' m c' f 29).alloc _).call hb1); obtain ⟨c0, c1, c2, -, -, -⟩ := HY.out.box; have hly := HY.out.lt; clear hb1) | (go_at_call 76; with_reducible refine (HZ.out _).mono ?_; rintro r w2 ⟨rfl, rfl⟩))
      with_reducible refine (HS.out _ HB1.out).mono ?_
      rintro r w1' ⟨rfl, rfl⟩
      go_wp2_with fail
      with_reducible refine (HD.out _ (HB1.out.push _)).mono ?_
      rintro r w2 ⟨B1, m1, cc1, rfl, hr1, b2⟩
      have HB2 := Lib.hid ((HB1.out.push _).call b2)
      have HX2 := Lib.hid ((HX.out.alloc (D33 A n c A' m c' f)).call b2)
      obtain rfl : N = m1 := by rw [← HN.out]; exact hr1.sec
      have HR := Lib.hid hr1
      clear b2 hr1 HD HS HX HB1 HC HZ
      obtain ⟨r0, r1, g0, g1⟩ := HX2.out
      have hlx := HX2.out.lt
      obtain ⟨b, off, rfl, hb, hcell⟩ := HG.out _ _ HR.out
      go_wp2_with fail
      go_wp2_with fail
      with_reducible refine (HRd.out _).mono ?_
      rintro r w3 ⟨rfl, b3⟩
      have HT3 := Lib.hid (Shf.tab_call HT.out ((HB2.out.call b3).push (.cells #[.int .u8 ks, .int .i64 gs, .int .i64 ns, .int .i64 ap, .int .i64 os, .string ds] 209)))
      have HB3 := Lib.hid ((HB2.out.call b3).push (.cells #[.int .u8 ks, .int .i64 gs, .int .i64 ns, .int .i64 ap, .int .i64 os, .string ds] 209))
      have HX3 := Lib.hid ((HX2.out.call b3).alloc (.cells #[.int .u8 ks, .int .i64 gs, .int .i64 ns, .int .i64 ap, .int .i64 os, .string ds] 209))
      have HR3 := Lib.hid ((HR.out.below b3).below (new1 _ (.cells #[.int .u8 ks, .int .i64 gs, .int .i64 ns, .int .i64 ap, .int .i64 os, .string ds] 209)))
      have HQ3 := Lib.hid (Box6.new w3 (.int .u8 ks) (.int .i64 gs) (.int .i64 ns) (.int .i64 ap) (.int .i64 os) (.string ds) 209)
      have hlq : w3.heap.size < (w3.alloc (.cells #[.int .u8 ks, .int .i64 gs, .int .i64 ns, .int .i64 ap, .int .i64 os, .string ds] 209)).heap.size := by simp
      have HLQ := Lib.hid hlq
      clear b3 HB2 HX2 HR HRd r0 r1 g0 g1 hlx
      go_wp2_with fail
      clear hlq
      generalize (w3.alloc (.cells #[.int .u8 ks, .int .i64 gs, .int .i64 ns, .int .i64 ap, .int .i64 os, .string ds] 209)) = W4 at *
      have hlq := HLQ.out
      obtain ⟨q0, q1, q2, q3, q4, q5⟩ := HQ3.out
      go_region_with (go_at_call 79; with_reducible refine (HH.out _).mono ?_; rintro r w5 ⟨rfl, hb5⟩; have HB5 := Lib.hid (undrew hb5); obtain ⟨q0, q1, q2, q3, q4, q5⟩ := HQ3.out.below (undrew hb5) hlq; clear hb5)
      all_goals (
        have HBw := Lib.hid (HB3.out.call HB5.out)
        have HXw := Lib.hid (HX3.out.call HB5.out)
        obtain ⟨r0, r1, g0, g1⟩ := HXw.out
        have hlw := HXw.out.lt
        go_wp2_with fail
        have hr4 := HXw.out.set2 (.int .i64 0) (.string ⟨#[]⟩)
        have hb4 := set2_below HBw.out (show w.heap.size ≤ w.heap.size + 1 by omega) (.int .i64 0) (.string ⟨#[]⟩)
        generalize ((w5.setCell ⟨w.heap.size + 1, 0, none⟩ (.int .i64 0)).setCell ⟨w.heap.size + 1, 1, none⟩ (.string ⟨#[]⟩)) = wf at *
        obtain ⟨k0, k1, -, -⟩ := hr4
        refine bodyPost_ret (v := .tuple #[SNV 0 ⟨#[]⟩, .int .i64 11]) (by simp [results, Tryz.results103, go_sem, k0, k1]) rfl ?_
        exact ⟨rfl, hb4⟩)
  · rw [if_neg h1] at hE
    rw [if_neg h1] at HRd
    have hne := neq0 h1
    subst hE
    rw [if_neg h1] at hG hTx
    subst hG hTx
    clear h1
    go_enter Tryz.func103, Tryz.ntmps103
    go_wp2_with (first | (go_at_call 31; (with_reducible refine HC.out.mono ?_); rintro e w1 ⟨rfl, hb1⟩; have HB1 := Lib.hid (((new1 w (D33 A n c A' m c' f)).push _).call hb1); have X1 := (by have := (Bx2.new (w.alloc (D33 A n c A' m c' f)) (.int .i64 0) (.string ⟨#[]⟩) 75).call hb1; rwa [World.size_alloc] at this : Bx2 w1 (w.heap.size + 1) (.int .i64 0) (.string ⟨#[]⟩)); have HX := Lib.hid X1; clear X1; have HY := Lib.hid (((St.new w A n c A' m c' f 29).alloc _).call hb1); obtain ⟨c0, c1, c2, -, -, -⟩ := HY.out.box; have hly := HY.out.lt; clear hb1) | (go_at_call 76; with_reducible refine (HZ.out _).mono ?_; rintro r w2 ⟨rfl, rfl⟩))
    with_reducible refine (HS.out _ HB1.out).mono ?_
    rintro r w1' ⟨rfl, rfl⟩
    go_wp2_with fail
    with_reducible refine (HD.out _ (HB1.out.push _)).mono ?_
    rintro r w2 ⟨B1, m1, cc1, rfl, hr1, b2⟩
    have HB2 := Lib.hid ((HB1.out.push _).call b2)
    have HX2 := Lib.hid ((HX.out.alloc (D33 A n c A' m c' f)).call b2)
    obtain rfl : N = m1 := by rw [← HN.out]; exact hr1.sec
    have HR := Lib.hid hr1
    clear b2 hr1 HD HS HX HB1 HC HZ
    obtain ⟨r0, r1, g0, g1⟩ := HX2.out
    have hlx := HX2.out.lt
    obtain ⟨b, off, rfl, hb, hcell⟩ := HG.out _ _ HR.out
    go_wp2_with fail
    go_wp2_with fail
    with_reducible refine (HRd.out _).mono ?_
    rintro r w3 ⟨rfl, b3⟩
    have HB3 := Lib.hid (HB2.out.call b3)
    have HX3 := Lib.hid (HX2.out.call b3)
    obtain ⟨r0, r1, g0, g1⟩ := HX2.out.call b3
    have hlx3 := (HX2.out.call b3).lt
    clear b3 HB2 HX2 HR HRd
    go_wp2
    have hr4 := (HX3.out.set2 (.int .i64 0) (.string ⟨#[]⟩)).alloc (.cells #[.int .u8 0, .int .i64 0, .int .i64 0, .int .i64 0, .int .i64 0, .string ⟨#[]⟩] 209)
    have hb4 := (set2_below HB3.out (show w.heap.size ≤ w.heap.size + 1 by omega) (.int .i64 0) (.string ⟨#[]⟩)).push (.cells #[.int .u8 0, .int .i64 0, .int .i64 0, .int .i64 0, .int .i64 0, .string ⟨#[]⟩] 209)
    generalize (((w3.setCell ⟨w.heap.size + 1, 0, none⟩ (.int .i64 0)).setCell ⟨w.heap.size + 1, 1, none⟩ (.string ⟨#[]⟩)).alloc (.cells #[.int .u8 0, .int .i64 0, .int .i64 0, .int .i64 0, .int .i64 0, .string ⟨#[]⟩] 209)) = wf at *
    obtain ⟨k0, k1, -, -⟩ := hr4
    refine bodyPost_ret (v := .tuple #[SNV 0 ⟨#[]⟩, .int .i64 (errR s)]) (by simp [results, Tryz.results103, go_sem, k0, k1]) rfl ?_
    exact ⟨rfl, hb4⟩
end

theorem load_any (A : Option Addr) (n c : Nat) (A' : Option Addr) (m c' : Nat) (f : Int) (S : List ByteArray) (V : List Wr) (z : Int) (w : World) (hD : Dev w A n c A' m c' f S V) (hT : Tab w) :
    Calls Tryz.prog 103 #[DV A n c A' m c' f, .int .i64 z] w (RetN w (loadDG S V f z) (loadDT S V f z) (loadDE S V f z)) := by
  unfold loadDG loadDT loadDE
  by_cases h : mayL S V f z = true
  · rw [if_pos h, if_pos h, if_pos h]
    cases hB : slotB S V f z with
    | nil => exact load_none A n c A' m c' f S V z w hD hT h hB
    | cons s B => exact load_some A n c A' m c' f S V z w hD hT h s B hB _ _ _ rfl rfl rfl
  · rw [if_neg h, if_neg h, if_neg h]
    exact load_no A n c A' m c' f S V z w hD (by simpa using h)

end Go.Proofs.YtkglolnghihegaaGreatDoor.Slt

/- Contract of Best of package slots. -/
namespace Go.Proofs.YtkglolnghihegaaGreatDoor.Slt
open Go.RowKit Go.Proofs.YtkglolnghihegaaGreatDoor.Dsk Go.Proofs.YtkglolnghihegaaGreatDoor.Sht Go.Proofs.YtkglolnghihegaaGreatDoor.Shf
open Go.Proofs.YtkglolnghihegaaGreatDoor.Crc (Tab)

/-- The newer slot so far: its number, its generation and text, the error. -/
structure Bst where
  z : Int
  g : Int
  t : ByteArray
  e : Int
def bstep (S : List ByteArray) (W : List Wr) (f : Int) (b : Bst) (z : Int) : Bst := if loadDE S W f z = 0 ∧ b.g < loadDG S W f z then ⟨z, loadDG S W f z, loadDT S W f z, 0⟩ else b
def bst (S : List ByteArray) (W : List Wr) (f : Int) : Nat → Bst
  | 0 => ⟨0, 0, ⟨#[]⟩, 6⟩
  | j + 1 => bstep S W f (bst S W f j) j
def bestR (S : List ByteArray) (W : List Wr) (f : Int) : Bst := if chk S W f = 0 then bst S W f 2 else ⟨0, 0, ⟨#[]⟩, 2⟩
def RetB (w : World) (b : Bst) (r : Ending) (w' : World) : Prop := r = .returned (.tuple #[.int .i64 b.z, SNV b.g b.t, .int .i64 b.e]) ∧ Below w.heap.size w w'

theorem best_no (A : Option Addr) (n c : Nat) (A' : Option Addr) (m c' : Nat) (f : Int) (S : List ByteArray) (V : List Wr) (w : World) (hD : Dev w A n c A' m c' f S V) (h : ¬ chk S V f = 0) :
    Calls Tryz.prog 66 #[DV A n c A' m c' f] w (RetB w ⟨0, 0, ⟨#[]⟩, 2⟩) := by
  have HC := Lib.hid (check_any A n c A' m c' f S V _ ((hD.new (D33 A n c A' m c' f)).new (.cells #[.int .i64 0, .string ⟨#[]⟩] 75)))
  have hne := neq0 h
  generalize chk S V f = e0 at *
  clear hD h
  go_enter Tryz.func66, Tryz.ntmps66
  go_wp2_with (go_at_call 31; (with_reducible refine HC.out.mono ?_); rintro e w1 ⟨rfl, hb1⟩; have HB := Lib.hid (((new1 w (D33 A n c A' m c' f)).push _).call hb1); have X1 := (by have := (Bx2.new (w.alloc (D33 A n c A' m c' f)) (.int .i64 0) (.string ⟨#[]⟩) 75).call hb1; rwa [World.size_alloc] at this : Bx2 w1 (w.heap.size + 1) (.int .i64 0) (.string ⟨#[]⟩)); have HX := Lib.hid X1; obtain ⟨r0, r1, g0, g1⟩ := X1; clear hb1)
  have hr4 := HX.out.set2 (.int .i64 0) (.string ⟨#[]⟩)
  have hb4 := set2_below HB.out (show w.heap.size ≤ w.heap.size + 1 by omega) (.int .i64 0) (.string ⟨#[]⟩)
  generalize ((w1.setCell ⟨w.heap.size + 1, 0, none⟩ (.int .i64 0)).setCell ⟨w.heap.size + 1, 1, none⟩ (.string ⟨#[]⟩)) = wf at *
  obtain ⟨k0, k1, -, -⟩ := hr4
  refine bodyPost_ret (v := .tuple #[.int .i64 0, SNV 0 ⟨#[]⟩, .int .i64 2]) (by simp [results, Tryz.results66, go_sem, k0, k1]) rfl ?_
  exact ⟨rfl, hb4⟩

/-- What is kept in the loop. -/
structure BInv (w wr : World) (nb : Nat) (A : Option Addr) (n c : Nat) (A' : Option Addr) (m c' : Nat) (f g : Int) (t : ByteArray) : Prop where
  bel : Below w.heap.size w wr
  box : St wr w.heap.size A n c A' m c' f
  res : Bx2 wr (w.heap.size + 1) (.int .i64 0) (.string ⟨#[]⟩)
  new_ : Bx2 wr nb (.int .i64 g) (.string t)
  lt : w.heap.size + 1 < nb
theorem BInv.call {w wr w' : World} {nb : Nat} {A : Option Addr} {n c : Nat} {A' : Option Addr} {m c' : Nat} {f g : Int} {t : ByteArray} (h : BInv w wr nb A n c A' m c' f g t) (hb : Below wr.heap.size wr w') : BInv w w' nb A n c A' m c' f g t :=
  ⟨h.bel.call hb, h.box.call hb, h.res.call hb, h.new_.call hb, h.lt⟩

theorem blk_set2 (w : World) (b k : Nat) (x y : Value) (hk : k ≠ b) : ((w.setCell ⟨b, 0, none⟩ x).setCell ⟨b, 1, none⟩ y).heap[k]? = w.heap[k]? :=
  (Below.heap_setCell _ _ _ _ (by simpa using hk)).trans (Below.heap_setCell _ _ _ _ (by simpa using hk))
theorem Bx2.of_block {w w' : World} {b : Nat} {x y : Value} (h : Bx2 w b x y) (e : w'.heap[b]? = w.heap[b]?) : Bx2 w' b x y :=
  ⟨(World.cell?_of_block (a := ⟨b, 0, none⟩) e).trans h.c0, (World.cell?_of_block (a := ⟨b, 1, none⟩) e).trans h.c1, (World.frozen?_of_block (a := ⟨b, 0, none⟩) e).trans h.f0, (World.frozen?_of_block (a := ⟨b, 1, none⟩) e).trans h.f1⟩
theorem BInv.set {w wr : World} {nb : Nat} {A : Option Addr} {n c : Nat} {A' : Option Addr} {m c' : Nat} {f g : Int} {t : ByteArray} (h : BInv w wr nb A n c A' m c' f g t) (g' : Int) (t' : ByteArray) :
    BInv w ((wr.setCell ⟨nb, 0, none⟩ (.int .i64 g')).setCell ⟨nb, 1, none⟩ (.string t')) nb A n c A' m c' f g' t' :=
  ⟨set2_below h.bel (by have := h.lt; omega) _ _, h.box.of_block (blk_set2 _ _ _ _ _ (by have := h.lt; omega)), h.res.of_block (blk_set2 _ _ _ _ _ (by have := h.lt; omega)), h.new_.set2 _ _, h.lt⟩
theorem BInv.drew {w wr : World} {nb : Nat} {A : Option Addr} {n c : Nat} {A' : Option Addr} {m c' : Nat} {f g : Int} {t : ByteArray} (h : BInv w wr nb A n c A' m c' f g t) : BInv w wr.drew nb A n c A' m c' f g t :=
  ⟨h.bel.drew, h.box.drew, ⟨h.res.c0, h.res.c1, h.res.f0, h.res.f1⟩, ⟨h.new_.c0, h.new_.c1, h.new_.f0, h.new_.f1⟩, h.lt⟩
set_option maxHeartbeats 1000000 in
theorem best_yes (A : Option Addr) (n c : Nat) (A' : Option Addr) (m c' : Nat) (f : Int) (S : List ByteArray) (V : List Wr) (w : World) (hD : Dev w A n c A' m c' f S V) (hT : Tab w) (h : chk S V f = 0) :
    Calls Tryz.prog 66 #[DV A n c A' m c' f] w (RetB w (bst S V f 2)) := by
  have hc := check_any A n c A' m c' f S V _ ((hD.new (D33 A n c A' m c' f)).new (.cells #[.int .i64 0, .string ⟨#[]⟩] 75))
  rw [h] at hc
  have HC := Lib.hid hc
  have HL := Lib.hid (fun (j : Nat) W (hb : Below w.heap.size w W) => load_any A n c A' m c' f S V j W (hD.below hb) (Shf.tab_call hT hb))
  clear hD hT h hc
  go_enter Tryz.func66, Tryz.ntmps66
  go_wp2_with (go_at_call 31; (with_reducible refine HC.out.mono ?_); rintro e w1 ⟨rfl, hb1⟩; have HB := Lib.hid (((new1 w (D33 A n c A' m c' f)).push _).call hb1); have X1 := (by have := (Bx2.new (w.alloc (D33 A n c A' m c' f)) (.int .i64 0) (.string ⟨#[]⟩) 75).call hb1; rwa [World.size_alloc] at this : Bx2 w1 (w.heap.size + 1) (.int .i64 0) (.string ⟨#[]⟩)); have HX := Lib.hid X1; have HY := Lib.hid (((St.new w A n c A' m c' f 29).alloc _).call hb1); clear hb1 X1)
  have H0 : Hid (BInv w (w1.alloc (.cells #[.int .i64 0, .string ⟨#[]⟩] 75)) w1.heap.size A n c A' m c' f 0 ⟨#[]⟩) := Lib.hid ⟨HB.out.push _, HY.out.alloc _, HX.out.alloc _, Bx2.new _ _ _ _, HX.out.lt⟩
  have HL2 : Hid (bst S V f 0 = ⟨0, 0, ⟨#[]⟩, 6⟩) := Lib.hid rfl
  clear HX HY HC
  go_loopw [5, 7, 16] (fun s5 s7 s16 wr => ∃ j : Nat, j ≤ 2 ∧ s16 = .int .i64 j ∧ ∃ bz bg be bt, s5 = .int .i64 bz ∧ s7 = .int .i64 be ∧ Hid (bst S V f j = ⟨bz, bg, bt, be⟩) ∧ Hid (BInv w wr w1.heap.size A n c A' m c' f bg bt)) (fun _ _ s16 _ => 2 - (intOf s16).toNat)
  case atStart => exact ⟨0, by omega, rfl, 0, 0, 6, ⟨#[]⟩, rfl, rfl, HL2, H0⟩
  case round =>
    obtain ⟨j, hj, rfl, bz, bg, be, bt, rfl, rfl, HS, HI⟩ := hrel
    obtain ⟨c0, c1, c2, -, -, -⟩ := HI.out.box.box
    have hl0 := HI.out.box.lt
    have hln := HI.out.new_.lt
    obtain ⟨n0, n1, m0, m1⟩ := HI.out.new_
    by_cases hlt : j < 2
    · have HLj := Lib.hid (HL.out j wr HI.out.bel)
      have HN := Lib.hid (show bst S V f (j + 1) = bstep S V f (bst S V f j) j from rfl)
      rw [HS.out] at HN
      unfold bstep at HN
      dsimp only at HN
      unfold RetN at HLj
      generalize loadDG S V f j = lg at *
      generalize loadDT S V f j = lt at *
      generalize loadDE S V f j = le at *
      go_wp2_with fail
      with_reducible refine HLj.out.mono ?_
      rintro r w2 ⟨rfl, b2⟩
      have HI2 := Lib.hid ((HI.out.call b2).call (new1 _ (.cells #[.int .i64 lg, .string lt] 75)))
      have HI1 := Lib.hid (HI.out.call b2)
      have HM := Lib.hid (Bx2.new w2 (.int .i64 lg) (.string lt) 75)
      obtain ⟨n0, n1, m0, m1⟩ := (HI.out.call b2).new_
      have hln2 := (HI.out.call b2).new_.lt
      clear b2 HI HLj
      by_cases he : le = 0
      · subst he
        by_cases hg : bg < lg
        · rw [if_pos ⟨rfl, hg⟩] at HN
          obtain ⟨n0, n1, m0, m1⟩ := HI2.out.new_
          obtain ⟨l0, l1, -, -⟩ := HM.out
          go_wp2_with fail
          go_region
          all_goals (
            go_wp2_with fail
            have HI5 := Lib.hid (((HI1.out.set lg lt).call (new1 _ (.cells #[.int .i64 lg, .string lt] 75))).drew)
            exact ⟨⟨j + 1, by omega, by go_num, j, lg, 0, lt, rfl, rfl, HN, HI5⟩, by simp [intOf]; omega⟩)
        · rw [if_neg (fun x => hg x.2)] at HN
          have hg' : lg ≤ bg := by omega
          go_wp2_with fail
          go_roundw
          case rel => exact ⟨j + 1, by omega, by go_num, bz, bg, be, bt, rfl, rfl, HN, HI2⟩
          case measure => simp [intOf]; omega
      · rw [if_neg (fun x => he x.1)] at HN
        have hne : (le == 0) = false := by simpa using he
        go_wp2_with fail
        go_roundw
        case rel => exact ⟨j + 1, by omega, by go_num, bz, bg, be, bt, rfl, rfl, HN, HI2⟩
        case measure => simp [intOf]; omega
    · obtain rfl : j = 2 := by omega
      obtain ⟨r0, r1, g0, g1⟩ := HI.out.res
      have hlr := HI.out.res.lt
      go_wp2_with fail
      go_region
      all_goals (
        go_wp2_with fail
        have hr4 := HI.out.res.set2 (.int .i64 bg) (.string bt)
        have hb4 := (set2_below HI.out.bel (show w.heap.size ≤ w.heap.size + 1 by omega) (.int .i64 bg) (.string bt)).drew
        have k0 : ((wr.setCell ⟨w.heap.size + 1, 0, none⟩ (.int .i64 bg)).setCell ⟨w.heap.size + 1, 1, none⟩ (.string bt)).drew.cell? ⟨w.heap.size + 1, 0, none⟩ = some (.int .i64 bg) := hr4.c0
        have k1 : ((wr.setCell ⟨w.heap.size + 1, 0, none⟩ (.int .i64 bg)).setCell ⟨w.heap.size + 1, 1, none⟩ (.string bt)).drew.cell? ⟨w.heap.size + 1, 1, none⟩ = some (.string bt) := hr4.c1
        generalize ((wr.setCell ⟨w.heap.size + 1, 0, none⟩ (.int .i64 bg)).setCell ⟨w.heap.size + 1, 1, none⟩ (.string bt)).drew = wf at *
        refine bodyPost_ret (v := .tuple #[.int .i64 bz, SNV bg bt, .int .i64 be]) (by simp [results, Tryz.results66, go_sem, k0, k1]) rfl ?_
        exact ⟨by rw [HS.out], hb4⟩)

theorem best_any (A : Option Addr) (n c : Nat) (A' : Option Addr) (m c' : Nat) (f : Int) (S : List ByteArray) (V : List Wr) (w : World) (hD : Dev w A n c A' m c' f S V) (hT : Tab w) :
    Calls Tryz.prog 66 #[DV A n c A' m c' f] w (RetB w (bestR S V f)) := by
  unfold bestR
  by_cases h : chk S V f = 0
  · rw [if_pos h]; exact best_yes A n c A' m c' f S V w hD hT h
  · rw [if_neg h]; exact best_no A n c A' m c' f S V w hD h

end Go.Proofs.YtkglolnghihegaaGreatDoor.Slt

/- Plain facts on saves: what is put, how far it comes, and what each sector has then. -/
namespace Go.Proofs.YtkglolnghihegaaGreatDoor.Slt
open Go.RowKit Go.Proofs.YtkglolnghihegaaGreatDoor.Dsk Go.Proofs.YtkglolnghihegaaGreatDoor.Sht Go.Proofs.YtkglolnghihegaaGreatDoor.Shf Go.Proofs.YtkglolnghihegaaGreatDoor.Oct

/-- The writes of bodies, one behind the other. -/
def wrs : List ByteArray → Nat → Nat → List Wr
  | [], _, _ => []
  | b :: bs, st, p => ((p : Int), sheetB st b) :: wrs bs (st + 1) (p + 1)
theorem wrs_length (bs : List ByteArray) : ∀ st p, (wrs bs st p).length = bs.length := by
  induction bs with
  | nil => intro _ _; rfl
  | cons b bs ih => intro st p; show (wrs bs (st + 1) (p + 1)).length + 1 = _; rw [ih]; rfl
theorem wrs_get (bs : List ByteArray) : ∀ st p k, (h : k < bs.length) → (wrs bs st p)[k]'(by rw [wrs_length]; exact h) = (((p + k : Nat) : Int), sheetB (st + k) bs[k]) := by
  induction bs with
  | nil => intro _ _ k h; simp at h
  | cons b bs ih =>
    intro st p k h
    cases k with
    | zero => rfl
    | succ k =>
      have := ih (st + 1) (p + 1) k (by simpa using h)
      show (wrs bs (st + 1) (p + 1))[k]'_ = _
      rw [this]
      simp only [List.getElem_cons_succ]
      rw [show p + 1 + k = p + (k + 1) by omega, show st + 1 + k = st + (k + 1) by omega]
theorem wrs_take (bs : List ByteArray) : ∀ st p k, wrs (bs.take k) st p = (wrs bs st p).take k := by
  induction bs with
  | nil => intro _ _ k; simp [wrs]
  | cons b bs ih =>
    intro st p k
    cases k with
    | zero => rfl
    | succ k => show _ :: wrs (bs.take k) (st + 1) (p + 1) = _ :: (wrs bs (st + 1) (p + 1)).take k; rw [ih]

theorem seal_sheet {n : Nat} {b : ByteArray} (h1 : 1 ≤ n) (h2 : n ≤ 1099511627776) (h : b.size ≤ 52) : (sealR n b).1 = sheetB n b := by
  unfold sealR
  rw [if_pos (by omega), if_pos h]
  rfl

theorem chk_more {S : List ByteArray} {W : List Wr} {f : Int} (h : chk S W f = 0) {p : Nat} (hp : p < S.length) {s : ByteArray} (hs : s.size = 64) (hw : W.length < 1024) : chk S (W ++ [((p : Int), s)]) (burnt f) = 0 := by
  obtain ⟨⟨h1, h2, h3⟩, h4, h5, h6⟩ := chk_ok h
  refine chk0 ⟨h1, h2, burnt_ge h3⟩ h4 (by simp; omega) ?_
  rw [List.all_append, h6]
  simp only [List.all_cons, List.all_nil, Bool.and_true, Bool.true_and]
  rw [wrOk_iff]
  exact ⟨by omega, by omega, hs⟩
theorem putE_in {S : List ByteArray} {W : List Wr} {f : Int} (h : chk S W f = 0) {p : Nat} (hp : p < S.length) {s : ByteArray} (hs : s.size = 64) (hw : W.length < 1024) : putE S W f p s = if f = 0 then 21 else 0 := by
  unfold putE
  rw [if_pos h, if_pos (by omega), if_pos hs]
  split
  · rfl
  · rw [if_neg (by omega)]

/-- How far bodies come. -/
theorem lays_form (S : List ByteArray) : ∀ (bs : List ByteArray) (st p : Nat) (W : List Wr) (f : Int), chk S W f = 0 → p + bs.length ≤ S.length → W.length + bs.length ≤ 1024 → 1 ≤ st → st + bs.length ≤ 1099511627777 → (∀ b ∈ bs, b.size ≤ 52) →
    ∃ k f' e, k ≤ bs.length ∧ lays S bs st p W f = (W ++ wrs (bs.take k) st p, f', e) ∧ chk S (W ++ wrs (bs.take k) st p) f' = 0 ∧ (e = 0 ∧ k = bs.length ∨ e = 21) ∧ (f = -1 → e = 0 ∧ f' = -1) := by
  intro bs
  induction bs with
  | nil =>
    intro st p W f hc _ _ _ _ _
    exact ⟨0, f, 0, Nat.le_refl _, by simp [lays, wrs], by simpa [wrs] using hc, .inl ⟨rfl, rfl⟩, fun h => ⟨rfl, h⟩⟩
  | cons b bs ih =>
    intro st p W f hc hp hw h1 h2 hb
    simp only [List.length_cons] at hp hw h2
    have hbs : b.size ≤ 52 := hb b (by simp)
    have hs : (sheetB st b).size = 64 := sheetB_size st b hbs
    have hpe := putE_in (s := sheetB st b) hc (show p < S.length by omega) hs (show W.length < 1024 by omega)
    unfold lays
    rw [seal_sheet h1 (by omega) hbs, hpe]
    by_cases hf : f = 0
    · rw [if_pos hf, if_neg (by decide)]
      exact ⟨0, f, 21, Nat.zero_le _, by simp [wrs], by simpa [wrs] using hc, .inr rfl, fun h => by omega⟩
    · rw [if_neg hf, if_pos rfl]
      obtain ⟨k, f', e, hk, he, hc', h4, h5⟩ := ih (st + 1) (p + 1) (W ++ [((p : Int), sheetB st b)]) (burnt f) (chk_more hc (by omega) hs (by omega)) (by omega) (by simp; omega) (by omega) (by omega) (fun x hx => hb x (by simp [hx]))
      have ew : W ++ wrs ((b :: bs).take (k + 1)) st p = W ++ [((p : Int), sheetB st b)] ++ wrs (bs.take k) (st + 1) (p + 1) := by
        simp [wrs]
      refine ⟨k + 1, f', e, by simp; omega, ?_, by rw [ew]; exact hc', ?_, ?_⟩
      · rw [ew, ← he]; push_cast; rfl
      · rcases h4 with ⟨h4, h6⟩ | h4
        · exact .inl ⟨h4, by simp [h6]⟩
        · exact .inr h4
      · intro h
        subst h
        exact h5 (by unfold burnt; rfl)

set_option linter.unusedVariables false in
/-- One sector, behind writes that go. -/
theorem sec_after {S : List ByteArray} (hS : secOk S = true) {bs : List ByteArray} {st p : Nat} (hp : p + bs.length ≤ S.length) (c : Nat → Nat) (q : Nat) (hq : q < S.length) :
    ∀ k, k ≤ bs.length → secAt (goAll S ((wrs bs st p).take k) c) q = if h : p ≤ q ∧ q < p + k then torn (sheetB (st + (q - p)) (bs.getD (q - p) ⟨#[]⟩)) (secAt S q) (c (q - p)) else secAt S q := by
  intro k
  induction k with
  | zero => intro _; rw [dif_neg (by omega)]; rfl
  | succ k ih =>
    intro hk
    have hl : k < (wrs bs st p).length := by rw [wrs_length]; omega
    have hlen : (goAll S ((wrs bs st p).take k) c).length = S.length := by
      have : ∀ (V : List Wr), (goAll S V c).length = S.length := by
        intro V
        unfold goAll
        suffices H : ∀ (L : List (Wr × Nat)) (T : List ByteArray), (L.foldl (fun S p => goOne S p.1 (c p.2)) T).length = T.length from H _ _
        intro L
        induction L with
        | nil => intro T; rfl
        | cons x L ih => intro T; rw [List.foldl_cons, ih, goOne_length]
      exact this _
    rw [goAll_take S _ k hl, goOne_at _ _ _ _ (by rw [wrs_get bs st p k (by omega)]; simp only; omega) (by omega), wrs_get bs st p k (by omega), ih (by omega)]
    dsimp only
    by_cases hqk : q = p + k
    · subst hqk
      rw [if_pos rfl, dif_neg (by omega), dif_pos (by omega)]
      unfold torn
      have e : p + k - p = k := by omega
      rw [e]
      congr 2
      simp only [List.getD, List.getElem?_eq_getElem (show k < bs.length by omega)]
      rfl
    · rw [if_neg (by omega)]
      by_cases h2 : p ≤ q ∧ q < p + k
      · rw [dif_pos h2, dif_pos (by omega)]
      · rw [dif_neg h2, dif_neg (by omega)]

end Go.Proofs.YtkglolnghihegaaGreatDoor.Slt

/- Plain facts on sectors with small stamps: whole ones, and ones that were broken off, again and again. -/
namespace Go.Proofs.YtkglolnghihegaaGreatDoor.Slt
open Go.RowKit Go.Proofs.YtkglolnghihegaaGreatDoor.Dsk Go.Proofs.YtkglolnghihegaaGreatDoor.Sht Go.Proofs.YtkglolnghihegaaGreatDoor.Shf Go.Proofs.YtkglolnghihegaaGreatDoor.Oct

/-- A small stamp. -/
def st6 (a : Nat) : List UInt8 := [0, 0, 0, 0, 0, UInt8.ofNat a]
theorem beB_small {a : Nat} (h : a < 256) : beB 6 a = st6 a := by
  have e : ∀ k, 0 < k → a / 256 ^ k = 0 := fun k hk => Nat.div_eq_of_lt (Nat.lt_of_lt_of_le h (by
    calc 256 = 256 ^ 1 := by rfl
    _ ≤ 256 ^ k := Nat.pow_le_pow_right (by omega) hk))
  unfold st6
  simp only [beB, e 5 (by omega), e 4 (by omega), e 3 (by omega), e 2 (by omega), e 1 (by omega), Nat.pow_zero, Nat.div_one, Nat.mod_eq_of_lt h]
  rfl
theorem natBE_small {a : Nat} (h : a < 256) : natBE (st6 a) = a := by rw [← beB_small h, Sht.natBE_beB, Nat.mod_eq_of_lt (by omega)]
theorem st6_inj {a b : Nat} (ha : a < 256) (hb : b < 256) (h : st6 a = st6 b) : a = b := by rw [← natBE_small ha, ← natBE_small hb, h]
theorem st6_take (a b m : Nat) (h : m ≤ 5) : (st6 a).take m = (st6 b).take m := by
  unfold st6
  match m, h with
  | 0, _ | 1, _ | 2, _ | 3, _ | 4, _ | 5, _ => rfl
theorem st6_mix (a b j : Nat) (h : j ≤ 5) : (st6 a).take j ++ (st6 b).drop j = st6 b := by rw [st6_take a b j h, List.take_append_drop]

/-- A sector that begins with the stamp a, and ends with the stamp b, that is not greater. -/
structure Sec (s : ByteArray) (a b : Nat) : Prop where
  size : s.size = 64
  fst : s.data.toList.take 6 = st6 a
  lst : s.data.toList.drop 58 = st6 b
  ba : b ≤ a
  lt : a < 256

theorem Sec.top {s : ByteArray} {a b : Nat} (h : Sec s a b) : topR s = a := by
  have hb := h.ba; have ha := h.lt
  rw [topR, if_pos h.size, drop_take6 h.size, h.fst, h.lst, natBE_small ha, natBE_small (by omega), if_neg (by omega)]
theorem Sec.whole {s : ByteArray} {a b : Nat} (h : Sec s a b) : wholeB s = true ↔ (a = b ∧ 1 ≤ a) := by
  have hb := h.ba; have ha := h.lt
  unfold wholeB openR
  rw [if_pos h.size, drop_take6 h.size, h.fst, h.lst]
  by_cases e : a = b
  · subst e
    rw [if_pos rfl, natBE_small ha]
    by_cases h1 : 1 ≤ a
    · rw [if_pos (by omega)]; simp [h1]
    · rw [if_neg (by omega)]; simp [h1]
  · rw [if_neg (fun x => e (st6_inj ha (by omega) x))]
    simp [e]
theorem Sec.sheet {t : Nat} {bd : ByteArray} (ht : t < 256) (h : bd.size ≤ 52) : Sec (sheetB t bd) t t := by
  have e := Ends.sheet t bd h
  exact ⟨e.size, by rw [e.first, beB_small ht], by rw [e.last, beB_small ht], Nat.le_refl _, ht⟩
theorem Sec.zero : Sec (fillS 0) 0 0 := ⟨fillS_size 0, by decide +kernel, by decide +kernel, Nat.le_refl _, by omega⟩

theorem torn_sec {O : ByteArray} {a b t : Nat} {bd : ByteArray} (hO : Sec O a b) (hat : a < t) (ht : t < 256) (hbd : bd.size ≤ 52) (m : Nat) (hm : m ≤ 64) :
    (torn (sheetB t bd) O m = O ∨ torn (sheetB t bd) O m = sheetB t bd ∨ Sec (torn (sheetB t bd) O m) t b) ∧ (m = 64 → torn (sheetB t bd) O m = sheetB t bd) := by
  have hT := Sec.sheet ht hbd
  have hba := hO.ba
  generalize sheetB t bd = T at *
  have lo : O.data.toList.length = 64 := hO.size
  have lt : T.data.toList.length = 64 := hT.size
  have hl := torn_list T O m
  have h64 : m = 64 → torn T O m = T := fun h => by
    apply list_ext
    rw [hl, h, List.take_of_length_le (by omega), List.drop_of_length_le (by omega), List.append_nil]
  refine ⟨?_, h64⟩
  have hs : (torn T O m).size = 64 := by
    rw [← size_list, hl, List.length_append, List.length_take, List.length_drop]; omega
  by_cases h1 : m < 6
  · left
    apply list_ext
    rw [hl]
    have e3 : T.data.toList.take m = O.data.toList.take m := by
      have e1 : T.data.toList.take m = (T.data.toList.take 6).take m := by rw [List.take_take, Nat.min_eq_left (by omega)]
      have e2 : O.data.toList.take m = (O.data.toList.take 6).take m := by rw [List.take_take, Nat.min_eq_left (by omega)]
      rw [e1, e2, hT.fst, hO.fst]
      exact st6_take _ _ _ (by omega)
    rw [e3, List.take_append_drop]
  · by_cases h3 : m = 64
    · exact .inr (.inl (h64 h3))
    · right; right
      refine ⟨hs, ?_, ?_, by omega, ht⟩
      · rw [hl, List.take_append_of_le_length (by rw [List.length_take]; omega), List.take_take, Nat.min_eq_left (by omega), hT.fst]
      · rw [hl]
        by_cases h2 : m ≤ 58
        · rw [List.drop_append, List.drop_of_length_le (by rw [List.length_take]; omega), List.nil_append, List.length_take, List.drop_drop, ← hO.lst]
          congr 1; omega
        · rw [List.drop_append_of_le_length (by rw [List.length_take]; omega), List.drop_take]
          have e2 : O.data.toList.drop m = (O.data.toList.drop 58).drop (m - 58) := by rw [List.drop_drop]; congr 1; omega
          rw [e2, hT.lst, hO.lst]
          exact st6_mix _ _ _ (by omega)

/-- What bodies a list of sheets has. -/
theorem drainL_app {A R : List ByteArray} (h : ∀ s ∈ A, wholeB s = true) : drainL (A ++ R) = (A.map fun s => (openR s).2.1) ++ drainL R := by
  induction A with
  | nil => rfl
  | cons a A ih =>
    have := ih fun s hs => h s (by simp [hs])
    unfold drainL at this ⊢
    rw [List.cons_append, List.takeWhile_cons_of_pos (h a (by simp)), List.map_cons, this]
    rfl
theorem drainL_get {L : List ByteArray} {j : Nat} {x : ByteArray} (h : (drainL L)[j]? = some x) : ∃ (hj : j < L.length), wholeB L[j] = true ∧ x = (openR L[j]).2.1 := by
  induction L generalizing j with
  | nil => simp [drainL] at h
  | cons a L ih =>
    by_cases ha : wholeB a = true
    · have e : drainL (a :: L) = (openR a).2.1 :: drainL L := by unfold drainL; rw [List.takeWhile_cons_of_pos ha]; rfl
      rw [e] at h
      cases j with
      | zero => simp at h; exact ⟨by simp, ha, h.symm⟩
      | succ j =>
        obtain ⟨hj, h1, h2⟩ := ih (by simpa using h)
        exact ⟨by simp; omega, by simpa using h1, by simpa using h2⟩
    · have e : drainL (a :: L) = [] := by unfold drainL; rw [List.takeWhile_cons_of_neg ha]; rfl
      rw [e] at h
      simp at h
theorem drainL_no {L : List ByteArray} (h : ∀ s, L[0]? = some s → wholeB s = false) : drainL L = [] := by
  cases L with
  | nil => rfl
  | cons a L =>
    unfold drainL
    rw [List.takeWhile_cons_of_neg (by rw [h a rfl]; decide)]
    rfl

theorem bodyB_self {b : ByteArray} (h : b.size = 52) : Sht.bodyB b = b := by
  unfold Sht.bodyB
  rw [h]
  simp
theorem open_body {n : Nat} {b : ByteArray} (h1 : 1 ≤ n) (h2 : n ≤ 1099511627776) (h : b.size = 52) : openR (sheetB n b) = ((n : Int), b, 0) := by
  rw [open_sheet n b h1 h2 (by omega), bodyB_self h]

theorem topL_ge {L : List ByteArray} {s : ByteArray} (h : s ∈ L) : topR s ≤ topL L := by
  unfold topL
  suffices H : ∀ (L : List ByteArray) (z : Int), z ≤ L.foldl (fun t s => max t (topR s)) z ∧ ∀ s ∈ L, topR s ≤ L.foldl (fun t s => max t (topR s)) z from (H L 0).2 s h
  intro L
  induction L with
  | nil => intro z; exact ⟨Int.le_refl _, fun s h => by simp at h⟩
  | cons a L ih =>
    intro z
    rw [List.foldl_cons]
    obtain ⟨h1, h2⟩ := ih (max z (topR a))
    refine ⟨by omega, fun s hs => ?_⟩
    rcases List.mem_cons.1 hs with rfl | hs
    · omega
    · exact h2 s hs
theorem topL_le {L : List ByteArray} {m : Int} (h0 : 0 ≤ m) (h : ∀ s ∈ L, topR s ≤ m) : topL L ≤ m := by
  unfold topL
  suffices H : ∀ (L : List ByteArray) (z : Int), z ≤ m → (∀ s ∈ L, topR s ≤ m) → L.foldl (fun t s => max t (topR s)) z ≤ m from H L 0 h0 h
  intro L
  induction L with
  | nil => intro z hz _; exact hz
  | cons a L ih =>
    intro z hz h
    rw [List.foldl_cons]
    have := h a (by simp)
    exact ih _ (by omega) fun s hs => h s (by simp [hs])
theorem topL_nonneg (L : List ByteArray) : 0 ≤ topL L := by
  unfold topL
  suffices H : ∀ (L : List ByteArray) (z : Int), z ≤ L.foldl (fun t s => max t (topR s)) z from H L 0
  intro L
  induction L with
  | nil => intro z; exact Int.le_refl _
  | cons a L ih => intro z; rw [List.foldl_cons]; have := ih (max z (topR a)); omega

end Go.Proofs.YtkglolnghihegaaGreatDoor.Slt

/- Plain facts on slots: what is saved is loaded. -/
namespace Go.Proofs.YtkglolnghihegaaGreatDoor.Slt
open Go.RowKit Go.Proofs.YtkglolnghihegaaGreatDoor.Dsk Go.Proofs.YtkglolnghihegaaGreatDoor.Sht Go.Proofs.YtkglolnghihegaaGreatDoor.Shf Go.Proofs.YtkglolnghihegaaGreatDoor.Oct

/-- A disk that may be, on which nothing waits. -/
structure Good (S : List ByteArray) : Prop where
  lo : 16 ≤ S.length
  hi : S.length ≤ 512
  ok : secOk S = true
theorem Good.chk {S : List ByteArray} (h : Good S) {f : Int} (hf : -1 ≤ f) : chk S [] f = 0 := chk0 ⟨h.lo, h.hi, hf⟩ h.ok (by simp) (by simp)
theorem Good.sz {S : List ByteArray} (h : Good S) : sizR S.length = ((S.length / 4 : Nat) : Int) := by have := h.lo; have := h.hi; rw [sizR_of (by omega) (by omega)]; omega
theorem Good.secs {S : List ByteArray} (_ : Good S) : secsD S [] = S := secsD_nil S
theorem Good.mem {S : List ByteArray} (_ : Good S) {s : ByteArray} (hs : s ∈ S) : ∃ q, q < S.length ∧ secAt S q = s := by
  obtain ⟨q, hq, e⟩ := List.getElem_of_mem hs
  exact ⟨q, hq, by rw [secAt_eq hq, e]⟩
theorem Good.sec_mem {S : List ByteArray} (_ : Good S) {q : Nat} (hq : q < S.length) : secAt S q ∈ S := by rw [secAt_eq hq]; exact List.getElem_mem hq

theorem isS_nat {k : Nat} (hk : k < 2) : isS (k : Int) = true := by unfold isS; simp; omega
theorem Good.mayL {S : List ByteArray} (h : Good S) {k : Nat} (hk : k < 2) : mayL S [] (-1) k = true := by
  unfold Slt.mayL
  rw [h.chk (by omega), isS_nat hk]
  rfl
theorem Good.slotB {S : List ByteArray} (h : Good S) {k : Nat} (hk : k < 2) : slotB S [] (-1) k = drainL (part S (k * (S.length / 4)) ((k + 1) * (S.length / 4))) := by
  have e1 : ((k : Int) * ((S.length / 4 : Nat) : Int)) = ((k * (S.length / 4) : Nat) : Int) := by push_cast; rfl
  have e2 : (((k : Int) + 1) * ((S.length / 4 : Nat) : Int)) = (((k + 1) * (S.length / 4) : Nat) : Int) := by push_cast; rfl
  have e3 : (k + 1) * (S.length / 4) ≤ S.length := by
    have : (k + 1) * (S.length / 4) ≤ 2 * (S.length / 4) := Nat.mul_le_mul_right _ (by omega)
    omega
  have e4 : k * (S.length / 4) ≤ (k + 1) * (S.length / 4) := Nat.mul_le_mul_right _ (by omega)
  unfold Slt.slotB drainD
  rw [h.sz, e1, e2, if_pos (okS_of (h.chk (by omega)) (by omega) (by omega) (by omega)), Int.toNat_natCast, Int.toNat_natCast, h.secs]

theorem part_getD {S : List ByteArray} {a b i : Nat} (hi : i < b - a) (hb : b ≤ S.length) : (part S a b)[i]? = some (secAt S (a + i)) := by
  rw [List.getElem?_eq_getElem (by rw [part_length hb]; exact hi), part_get hi hb, secAt_eq]

theorem loadE_some {s : ByteArray} {B : List ByteArray} (h1 : errR s = 0) (h2 : kA s = 1) (h3 : nA s = 0) : loadE (s :: B) = errJ 1 (gA s) 0 (s :: B) := by
  unfold loadE
  dsimp only
  rw [if_pos h1, if_pos ⟨h2, h3⟩]

/-- A text that lies in a slot. -/
structure Lies (S : List ByteArray) (a st g : Nat) (t : ByteArray) : Prop where
  g1 : 1 ≤ g
  g2 : g ≤ 1099511627776
  s1 : 1 ≤ st
  s2 : st + cntN t.size ≤ 1099511627776
  sz : (t.size : Int) ≤ 16000
  sec : ∀ i, i < cntN t.size → secAt S (a + i) = sheetB (st + i) (bodyAt 1 g 0 (cntN t.size) (loadT t) i)

theorem body52 {g : Nat} {t : ByteArray} {i : Nat} (hi : i < cntN t.size) : (bodyAt 1 g 0 (cntN t.size) (loadT t) i).size = 52 := by
  unfold bodyAt
  exact body_size (part_len (loadT_size t) hi)

theorem Lies.drain {S : List ByteArray} {a b st g : Nat} {t : ByteArray} (h : Lies S a st g t) (hb : b ≤ S.length) (hc : a + cntN t.size ≤ b) :
    ∃ R, drainL (part S a b) = bodiesT 1 g 0 t ++ R := by
  have hs1 := h.s1; have hs2 := h.s2
  have e : (part S a b).take (cntN t.size) = (List.range (cntN t.size)).map fun i => sheetB (st + i) (bodyAt 1 g 0 (cntN t.size) (loadT t) i) := by
    apply List.ext_getElem?
    intro i
    rw [List.getElem?_take]
    by_cases hi : i < cntN t.size
    · rw [if_pos hi, part_getD (by omega) hb, h.sec i hi]
      simp [hi]
    · rw [if_neg hi]; simp [hi]
  rw [← List.take_append_drop (cntN t.size) (part S a b), e, drainL_app]
  · refine ⟨_, congrArg (· ++ _) ?_⟩
    unfold bodiesT
    rw [List.map_map]
    apply List.map_congr_left
    intro i hi
    have hi := List.mem_range.1 hi
    show (openR (sheetB (st + i) _)).2.1 = _
    rw [open_body (by omega) (by omega) (body52 hi)]
  · intro s hs
    obtain ⟨i, hi, rfl⟩ := List.mem_map.1 hs
    have hi := List.mem_range.1 hi
    unfold wholeB
    rw [open_body (by omega) (by omega) (body52 hi)]
    rfl

theorem loads_of {g : Nat} {t : ByteArray} (hg1 : 1 ≤ g) (hg2 : g ≤ 1099511627776) (ht : (t.size : Int) ≤ 16000) (R : List ByteArray) :
    loadE (bodiesT 1 g 0 t ++ R) = 0 ∧ loadG (bodiesT 1 g 0 t ++ R) = g ∧ loadT' (bodiesT 1 g 0 t ++ R) = t := by
  have hH : Head 1 g 0 := ⟨by omega, hg1, hg2, by omega⟩
  have hp := cnt_pos t
  have h0 : (bodiesT 1 g 0 t ++ R)[0]? = some (bodyAt 1 g 0 (cntN t.size) (loadT t) 0) := by
    rw [List.getElem?_append_left (by rw [bodiesT_len]; exact hp)]
    exact bodiesT_at 0 hp
  obtain ⟨j1, j2, -⟩ := join_back hH ht (begins_append (k := 1) (g := g) (n := 0) (t := t) R)
  have hd := part_len (loadT_size t) hp
  have e1 : errR (bodyAt 1 g 0 (cntN t.size) (loadT t) 0) = 0 := at_errR hH (loadT_size t) (cnt_lt ht) hp
  have e2 : kA (bodyAt 1 g 0 (cntN t.size) (loadT t) 0) = 1 := by unfold bodyAt; exact body_k (by omega)
  have e3 : nA (bodyAt 1 g 0 (cntN t.size) (loadT t) 0) = 0 := by unfold bodyAt; exact body_n (by omega)
  have e4 : gA (bodyAt 1 g 0 (cntN t.size) (loadT t) 0) = g := by unfold bodyAt; exact body_g (by omega)
  cases hB : bodiesT 1 g 0 t ++ R with
  | nil => rw [hB] at h0; simp at h0
  | cons s B =>
    rw [hB] at h0 j1 j2
    obtain rfl : s = bodyAt 1 g 0 (cntN t.size) (loadT t) 0 := by simpa using h0
    have eE : loadE (bodyAt 1 g 0 (cntN t.size) (loadT t) 0 :: B) = 0 := by rw [loadE_some e1 e2 e3, e4]; exact j1
    refine ⟨eE, ?_, ?_⟩
    · unfold loadG; rw [if_pos eE]; exact e4
    · unfold loadT'; rw [if_pos eE]; exact j2

theorem Lies.load {S : List ByteArray} (hG : Good S) {k : Nat} (hk : k < 2) {st g : Nat} {t : ByteArray} (h : Lies S (k * (S.length / 4)) st g t) (hc : cntN t.size ≤ S.length / 4) :
    loadDE S [] (-1) k = 0 ∧ loadDG S [] (-1) k = g ∧ loadDT S [] (-1) k = t := by
  have e3 : (k + 1) * (S.length / 4) ≤ S.length := by
    have : (k + 1) * (S.length / 4) ≤ 2 * (S.length / 4) := Nat.mul_le_mul_right _ (by omega)
    omega
  obtain ⟨R, hR⟩ := h.drain e3 (by rw [Nat.succ_mul]; omega)
  unfold loadDE loadDG loadDT
  rw [if_pos (hG.mayL hk), if_pos (hG.mayL hk), if_pos (hG.mayL hk), hG.slotB hk, hR]
  exact loads_of h.g1 h.g2 h.sz R

theorem load_bad {S : List ByteArray} (hG : Good S) {k : Nat} (hk : k < 2) (h : wholeB (secAt S (k * (S.length / 4))) = false) : loadDE S [] (-1) k = 6 ∧ loadDG S [] (-1) k = 0 ∧ loadDT S [] (-1) k = ⟨#[]⟩ := by
  have hl := hG.lo
  have e3 : (k + 1) * (S.length / 4) ≤ S.length := by
    have : (k + 1) * (S.length / 4) ≤ 2 * (S.length / 4) := Nat.mul_le_mul_right _ (by omega)
    omega
  have e : drainL (part S (k * (S.length / 4)) ((k + 1) * (S.length / 4))) = [] := drainL_no fun s hs => by
    rw [part_getD (by rw [Nat.succ_mul]; omega) e3] at hs
    rw [← Option.some.inj hs]
    exact h
  unfold loadDE loadDG loadDT
  rw [if_pos (hG.mayL hk), if_pos (hG.mayL hk), if_pos (hG.mayL hk), hG.slotB hk, e]
  exact ⟨rfl, rfl, rfl⟩

end Go.Proofs.YtkglolnghihegaaGreatDoor.Slt

/- Plain facts on slots: what a save, and a crash behind it, leave. -/
namespace Go.Proofs.YtkglolnghihegaaGreatDoor.Slt
open Go.RowKit Go.Proofs.YtkglolnghihegaaGreatDoor.Dsk Go.Proofs.YtkglolnghihegaaGreatDoor.Sht Go.Proofs.YtkglolnghihegaaGreatDoor.Shf Go.Proofs.YtkglolnghihegaaGreatDoor.Oct

theorem goAll_len (S : List ByteArray) (V : List Wr) (c : Nat → Nat) : (goAll S V c).length = S.length := by
  unfold goAll
  suffices H : ∀ (L : List (Wr × Nat)) (T : List ByteArray), (L.foldl (fun S p => goOne S p.1 (c p.2)) T).length = T.length from H _ _
  intro L
  induction L with
  | nil => intro T; rfl
  | cons x L ih => intro T; rw [List.foldl_cons, ih, goOne_length]

/-- What may be saved, and where. -/
structure May (S : List ByteArray) (k g : Nat) (t : ByteArray) : Prop where
  good : Good S
  k : k < 2
  g1 : 1 ≤ g
  g2 : g + cntN t.size ≤ 1099511627776
  sz : (t.size : Int) ≤ 16000
  fits : cntN t.size ≤ S.length / 4

theorem bodies_small {g : Nat} {t : ByteArray} : ∀ b ∈ bodiesT 1 g 0 t, b.size = 52 := by
  intro b hb
  obtain ⟨i, hi⟩ := List.mem_iff_getElem?.1 hb
  obtain ⟨h1, -⟩ := List.getElem?_eq_some_iff.1 hi
  rw [bodiesT_len] at h1
  rw [bodiesT_at i h1] at hi
  rw [← Option.some.inj hi]
  exact body52 h1
theorem bodies_getD {g : Nat} {t : ByteArray} {i : Nat} (hi : i < cntN t.size) : (bodiesT 1 g 0 t).getD i ⟨#[]⟩ = bodyAt 1 g 0 (cntN t.size) (loadT t) i := by
  simp only [List.getD, bodiesT_at i hi, Option.getD_some]

section
variable {S : List ByteArray} {k g : Nat} {t : ByteArray}

theorem May.bound (h : May S k g t) : k * (S.length / 4) + cntN t.size ≤ S.length := by
  have := h.fits
  have : (k + 1) * (S.length / 4) ≤ 2 * (S.length / 4) := Nat.mul_le_mul_right _ (by have := h.k; omega)
  rw [Nat.succ_mul] at this
  omega

/-- What Save leaves. -/
theorem save_form (h : May S k g t) (f : Int) (hf : -1 ≤ f) :
    ∃ j f', j ≤ cntN t.size ∧ -1 ≤ f' ∧ (f = -1 → f' = -1) ∧
      ((saveR S [] f k g g t = ⟨goAll S (wrs (bodiesT 1 g 0 t) g (k * (S.length / 4))) (fun _ => 64), [], f', ((k * (S.length / 4) : Nat) : Int) + cntN t.size, (g : Int) + cntN t.size, 0⟩) ∨
       (f ≠ -1 ∧ chk S ((wrs (bodiesT 1 g 0 t) g (k * (S.length / 4))).take j) f' = 0 ∧ saveR S [] f k g g t = ⟨S, (wrs (bodiesT 1 g 0 t) g (k * (S.length / 4))).take j, f', ((k * (S.length / 4) : Nat) : Int), g, 21⟩)) := by
  have hg1 := h.g1; have hg2 := h.g2; have hlo := h.good.lo; have hhi := h.good.hi; have hfit := h.fits
  have hH : Head 1 g 0 := ⟨by omega, hg1, by omega, by omega⟩
  obtain ⟨hE, hL⟩ := layS_eq hH h.sz
  have hbound := h.bound
  have hcp := cnt_pos t
  have e1 : ((k : Int) * ((S.length / 4 : Nat) : Int)) = ((k * (S.length / 4) : Nat) : Int) := by push_cast; rfl
  have e2 : (((k : Int) + 1) * ((S.length / 4 : Nat) : Int)) = (((k + 1) * (S.length / 4) : Nat) : Int) := by push_cast; rfl
  have e3 : (k + 1) * (S.length / 4) ≤ S.length := by
    have := h.k
    have : (k + 1) * (S.length / 4) ≤ 2 * (S.length / 4) := Nat.mul_le_mul_right _ (by omega)
    omega
  have e4 : (k + 1) * (S.length / 4) = k * (S.length / 4) + S.length / 4 := Nat.succ_mul _ _
  have hlen : (layS 1 (g : Int) (0 : Int) t).length = cntN t.size := by
    have : layS 1 (g : Int) (0 : Int) t = bodiesT 1 g 0 t := hL
    rw [this, bodiesT_len]
  have hlay : layS 1 (g : Int) (0 : Int) t = bodiesT 1 g 0 t := hL
  have hE' : errL (g : Int) (0 : Int) t = 0 := hE
  have hpour : pourE S [] f ((k * (S.length / 4) : Nat) : Int) (((k + 1) * (S.length / 4) : Nat) : Int) 1 g 0 g t = 0 := by
    unfold pourE
    rw [if_pos (okS_of (h.good.chk hf) (by omega) (by omega) (by omega)), if_pos hE', hlen, if_pos (by omega), if_pos (by omega)]
  obtain ⟨j, f', e, hj, hl, hc, he, hm⟩ := lays_form S (bodiesT 1 g 0 t) g (k * (S.length / 4)) [] f (h.good.chk hf) (by rw [bodiesT_len]; omega) (by rw [bodiesT_len]; simp; omega) hg1 (by rw [bodiesT_len]; omega) (fun b hb => by rw [bodies_small b hb]; omega)
  rw [bodiesT_len] at hj he
  rw [List.nil_append] at hl hc
  rw [wrs_take] at hl hc
  have hf' : -1 ≤ f' := (chk_ok hc).1.2.2
  unfold saveR
  rw [if_pos (isS_nat h.k), h.good.sz, e1, e2]
  unfold pourR
  rw [if_pos hpour, hlay, hl, bodiesT_len]
  rcases he with ⟨rfl, rfl⟩ | rfl
  · have hwt : (wrs (bodiesT 1 g 0 t) g (k * (S.length / 4))).take (cntN t.size) = wrs (bodiesT 1 g 0 t) g (k * (S.length / 4)) := List.take_of_length_le (by rw [wrs_length, bodiesT_len]; omega)
    rw [hwt] at hc ⊢
    by_cases h0 : f' = 0
    · have hfl : flushR S (wrs (bodiesT 1 g 0 t) g (k * (S.length / 4)), f', 0) = (S, wrs (bodiesT 1 g 0 t) g (k * (S.length / 4)), f', 21) := by
        unfold flushR flushE; dsimp only; rw [if_pos rfl, if_pos hc, if_pos h0]; rfl
      rw [hfl]
      dsimp only
      rw [if_neg (by decide)]
      refine ⟨cntN t.size, f', Nat.le_refl _, hf', fun x => (hm x).2, .inr ⟨fun x => ?_, by rw [hwt]; exact hc, by rw [hwt]⟩⟩
      have := (hm x).2
      omega
    · have hfl : flushR S (wrs (bodiesT 1 g 0 t) g (k * (S.length / 4)), f', 0) = (goAll S (wrs (bodiesT 1 g 0 t) g (k * (S.length / 4))) (fun _ => 64), [], burnt f', 0) := by
        unfold flushR flushE; dsimp only; rw [if_pos rfl, if_pos hc, if_neg h0]; rfl
      rw [hfl]
      dsimp only
      rw [if_pos rfl]
      exact ⟨cntN t.size, burnt f', Nat.le_refl _, burnt_ge hf', fun x => by rw [(hm x).2]; rfl, .inl rfl⟩
  · have hfl : flushR S ((wrs (bodiesT 1 g 0 t) g (k * (S.length / 4))).take j, f', 21) = (S, (wrs (bodiesT 1 g 0 t) g (k * (S.length / 4))).take j, f', 21) := rfl
    rw [hfl]
    dsimp only
    rw [if_neg (by decide)]
    exact ⟨j, f', hj, hf', fun x => (hm x).2, .inr ⟨fun x => by have := (hm x).1; omega, hc, rfl⟩⟩

theorem goAll_good (h : May S k g t) (j : Nat) (c : Nat → Nat) (hc : ∀ i, c i ≤ 64) : Good (goAll S ((wrs (bodiesT 1 g 0 t) g (k * (S.length / 4))).take j) c) := by
  have hb := h.bound
  have hw : (wrs (bodiesT 1 g 0 t) g (k * (S.length / 4))).all (wrOk S.length) = true := by
    rw [List.all_eq_true]
    intro x hx
    obtain ⟨i, hi, rfl⟩ := List.getElem_of_mem hx
    rw [wrs_length, bodiesT_len] at hi
    rw [wrs_get _ _ _ _ (by rw [bodiesT_len]; exact hi), wrOk_iff]
    refine ⟨by simp only; omega, by simp only; omega, sheetB_size _ _ ?_⟩
    rw [bodies_small _ (List.getElem_mem _)]; omega
  obtain ⟨h1, h2⟩ := goAll_ok h.good.ok hw hc j
  exact ⟨by rw [h2]; exact h.good.lo, by rw [h2]; exact h.good.hi, h1⟩

/-- What each sector has, behind a save that was broken off. -/
theorem sec_saved (h : May S k g t) (c : Nat → Nat) (j : Nat) (hj : j ≤ cntN t.size) (q : Nat) (hq : q < S.length) :
    secAt (goAll S ((wrs (bodiesT 1 g 0 t) g (k * (S.length / 4))).take j) c) q =
      if k * (S.length / 4) ≤ q ∧ q < k * (S.length / 4) + j then torn (sheetB (g + (q - k * (S.length / 4))) (bodyAt 1 g 0 (cntN t.size) (loadT t) (q - k * (S.length / 4)))) (secAt S q) (c (q - k * (S.length / 4))) else secAt S q := by
  have hb := h.bound
  rw [sec_after h.good.ok (by rw [bodiesT_len]; omega) c q hq j (by rw [bodiesT_len]; exact hj)]
  by_cases hh : k * (S.length / 4) ≤ q ∧ q < k * (S.length / 4) + j
  · rw [dif_pos hh, if_pos hh, bodies_getD (by omega)]
  · rw [dif_neg hh, if_neg hh]
end

theorem torn_64 {T O : ByteArray} (hT : T.size = 64) (hO : O.size = 64) : torn T O 64 = T := by
  apply list_ext
  rw [torn_list, List.take_of_length_le (by rw [size_list]; omega), List.drop_of_length_le (by rw [size_list]; omega), List.append_nil]

end Go.Proofs.YtkglolnghihegaaGreatDoor.Slt

/- Plain facts on slots: a save that nothing breaks off; and what a small disk shows. -/
namespace Go.Proofs.YtkglolnghihegaaGreatDoor.Slt
open Go.RowKit Go.Proofs.YtkglolnghihegaaGreatDoor.Dsk Go.Proofs.YtkglolnghihegaaGreatDoor.Sht Go.Proofs.YtkglolnghihegaaGreatDoor.Shf Go.Proofs.YtkglolnghihegaaGreatDoor.Oct

/-- What a save that nothing breaks off makes of the sectors. -/
structure Saved (S : List ByteArray) (k g : Nat) (t : ByteArray) (S' : List ByteArray) : Prop where
  good : Good S'
  len : S'.length = S.length
  new_ : ∀ i, i < cntN t.size → secAt S' (k * (S.length / 4) + i) = sheetB (g + i) (bodyAt 1 g 0 (cntN t.size) (loadT t) i)
  old : ∀ q, q < S.length → ¬ (k * (S.length / 4) ≤ q ∧ q < k * (S.length / 4) + cntN t.size) → secAt S' q = secAt S q

theorem save_plain {S : List ByteArray} {k g : Nat} {t : ByteArray} (h : May S k g t) :
    ∃ S' p, saveR S [] (-1) k g g t = ⟨S', [], -1, p, (g : Int) + cntN t.size, 0⟩ ∧ Saved S k g t S' := by
  have hb := h.bound
  obtain ⟨j, f', hj, hf', hf, hx | ⟨hne, -, -⟩⟩ := save_form h (-1) (by omega)
  · have e64 : goAll S (wrs (bodiesT 1 g 0 t) g (k * (S.length / 4))) (fun _ => 64) = goAll S ((wrs (bodiesT 1 g 0 t) g (k * (S.length / 4))).take (cntN t.size)) (fun _ => 64) := by
      rw [List.take_of_length_le (by rw [wrs_length, bodiesT_len]; omega)]
    rw [e64, hf rfl] at hx
    have hG := goAll_good h (cntN t.size) (fun _ => 64) fun _ => Nat.le_refl _
    have hlen := goAll_len S ((wrs (bodiesT 1 g 0 t) g (k * (S.length / 4))).take (cntN t.size)) (fun _ => 64)
    have hsec := fun q (hq : q < S.length) => sec_saved h (fun _ => 64) (cntN t.size) (Nat.le_refl _) q hq
    refine ⟨_, _, hx, hG, hlen, fun i hi => ?_, fun q hq hn => ?_⟩
    · rw [hsec _ (by omega), if_pos (by omega), show k * (S.length / 4) + i - k * (S.length / 4) = i by omega]
      exact torn_64 (sheetB_size _ _ (by rw [body52 hi]; omega)) ((secOk_iff S).1 h.good.ok _ (h.good.sec_mem (by omega)))
    · rw [hsec q hq, if_neg hn]
  · exact absurd rfl hne

theorem good_new {n : Nat} (h1 : 16 ≤ n) (h2 : n ≤ 512) : Good (newS n) ∧ (newS n).length = n ∧ ∀ q, q < n → secAt (newS n) q = fillS 0 := by
  have hl : (newS n).length = n := by simp [newS]
  refine ⟨⟨by omega, by omega, ?_⟩, hl, fun q hq => ?_⟩
  · rw [secOk_iff]
    intro s hs
    unfold newS at hs
    rw [(List.mem_replicate.1 hs).2]
    exact fillS_size 0
  · rw [secAt_eq (by omega)]; simp only [newS, List.getElem_replicate]

theorem Saved.lies {S : List ByteArray} {k g : Nat} {t : ByteArray} {S' : List ByteArray} (h : Saved S k g t S') (hm : May S k g t) : Lies S' (k * (S'.length / 4)) g g t :=
  ⟨hm.g1, by have := hm.g2; omega, hm.g1, hm.g2, hm.sz, fun i hi => by rw [h.len]; exact h.new_ i hi⟩
/-- What lies in the other slot stays. -/
theorem Saved.keeps {S : List ByteArray} {k g : Nat} {t : ByteArray} {S' : List ByteArray} (h : Saved S k g t S') (hm : May S k g t) {k' g' : Nat} {t' : ByteArray} (hne : k' ≠ k) (hk : k' < 2) (hL : Lies S (k' * (S.length / 4)) g' g' t') (hc : cntN t'.size ≤ S.length / 4) :
    Lies S' (k' * (S'.length / 4)) g' g' t' := by
  have hf := hm.fits
  have hk2 := hm.k
  refine ⟨hL.g1, hL.g2, hL.s1, hL.s2, hL.sz, fun i hi => ?_⟩
  rw [h.len, h.old _ ?_ ?_]
  · exact hL.sec i hi
  · rcases (show k' = 0 ∨ k' = 1 by omega) with rfl | rfl <;> omega
  · rcases (show k' = 0 ∧ k = 1 ∨ k' = 1 ∧ k = 0 by omega) with ⟨rfl, rfl⟩ | ⟨rfl, rfl⟩ <;> omega

/-- The newer slot of two that are told. -/
theorem best_zero {S : List ByteArray} (hG : Good S) {g0 : Int} {t0 : ByteArray} (h0 : loadDE S [] (-1) 0 = 0 ∧ loadDG S [] (-1) 0 = g0 ∧ loadDT S [] (-1) 0 = t0) (hg : 0 < g0) (h1 : ¬ (loadDE S [] (-1) 1 = 0 ∧ g0 < loadDG S [] (-1) 1)) : bestR S [] (-1) = ⟨0, g0, t0, 0⟩ := by
  obtain ⟨z1, z2, z3⟩ := h0
  have e1 : bst S [] (-1) 1 = ⟨0, g0, t0, 0⟩ := by
    show bstep S [] (-1) ⟨0, 0, ⟨#[]⟩, 6⟩ ((0 : Nat) : Int) = _
    unfold bstep
    rw [show ((0 : Nat) : Int) = 0 from rfl, z1, z2, z3, if_pos ⟨rfl, hg⟩]
  unfold bestR
  rw [if_pos (hG.chk (by omega))]
  show bstep S [] (-1) (bst S [] (-1) 1) ((1 : Nat) : Int) = _
  rw [e1]
  unfold bstep
  exact if_neg h1
theorem best_one {S : List ByteArray} (hG : Good S) {g1 : Int} {t1 : ByteArray} (h1 : loadDE S [] (-1) 1 = 0 ∧ loadDG S [] (-1) 1 = g1 ∧ loadDT S [] (-1) 1 = t1) (hg : 0 < g1) (h0 : loadDE S [] (-1) 0 = 0 → loadDG S [] (-1) 0 < g1) : bestR S [] (-1) = ⟨1, g1, t1, 0⟩ := by
  obtain ⟨z1, z2, z3⟩ := h1
  unfold bestR
  rw [if_pos (hG.chk (by omega))]
  show bstep S [] (-1) (bst S [] (-1) 1) ((1 : Nat) : Int) = _
  have e : (bst S [] (-1) 1).g < g1 := by
    show (bstep S [] (-1) ⟨0, 0, ⟨#[]⟩, 6⟩ ((0 : Nat) : Int)).g < _
    unfold bstep
    rw [show ((0 : Nat) : Int) = 0 from rfl]
    by_cases h : loadDE S [] (-1) 0 = 0 ∧ (0 : Int) < loadDG S [] (-1) 0
    · rw [if_pos h]; exact h0 h.1
    · rw [if_neg h]; exact hg
  generalize bst S [] (-1) 1 = b at *
  unfold bstep
  rw [show ((1 : Nat) : Int) = 1 from rfl, z1, z2, z3, if_pos ⟨rfl, e⟩]

def hello : ByteArray := ⟨#[104, 101, 108, 108, 111]⟩
def atext : ByteArray := ⟨#[97, 32, 116, 101, 120, 116, 32, 116, 104, 97, 116, 32, 100, 111, 101, 115, 32, 110, 111, 116, 32, 102, 105, 116, 32, 105, 110, 116, 111, 32, 111, 110, 101, 32, 115, 104, 101, 101, 116, 32, 97, 108, 111, 110, 101]⟩
def long_ : ByteArray := ⟨(List.replicate 141 (0 : UInt8)).toArray⟩

theorem long_size : long_.size = 141 := by
  show (List.replicate 141 (0 : UInt8)).toArray.size = 141
  rw [List.size_toArray, List.length_replicate]

/-- What a small disk shows. -/
structure Shows (Sa Sb : List ByteArray) : Prop where
  one : ∃ p, saveR (newS 16) [] (-1) 1 5 5 hello = ⟨Sa, [], -1, p, 6, 0⟩
  two : ∃ p, saveR Sa [] (-1) 0 6 6 atext = ⟨Sb, [], -1, p, 8, 0⟩
  load : loadDE Sb [] (-1) 1 = 0 ∧ loadDG Sb [] (-1) 1 = 5 ∧ loadDT Sb [] (-1) 1 = hello
  best : bestR Sb [] (-1) = ⟨0, 6, atext, 0⟩
  none_ : loadDE (newS 16) [] (-1) 0 = 6
  full : (saveR Sb [] (-1) 0 7 8 long_).e = 7
  top : topD Sb [] (-1) = 7
  two_ : (drainD Sb [] (-1) 0 4).length = 2
  la : Sa.length = 16
  lb : Sb.length = 16

theorem shows_ : ∃ Sa Sb, Shows Sa Sb := by
  obtain ⟨hG, hl, hz⟩ := good_new (n := 16) (by omega) (by omega)
  have s1 : hello.size = 5 := rfl
  have s2 : atext.size = 45 := rfl
  have c1 : cntN hello.size = 1 := by decide
  have c2 : cntN atext.size = 2 := by decide
  have m1 : May (newS 16) 1 5 hello := ⟨hG, by omega, by omega, by omega, by omega, by omega⟩
  obtain ⟨Sa, pa, ha, hA⟩ := save_plain m1
  have la : Sa.length = 16 := by rw [hA.len, hl]
  have m2 : May Sa 0 6 atext := ⟨hA.good, by omega, by omega, by omega, by omega, by omega⟩
  obtain ⟨Sb, pb, hb, hB⟩ := save_plain m2
  have lb : Sb.length = 16 := by rw [hB.len, la]
  have L1 := hB.keeps m2 (k' := 1) (by omega) (by omega) (hA.lies m1) (by omega)
  have L0 := hB.lies m2
  have e1 := L1.load hB.good (k := 1) (by omega) (by omega)
  have e0 := L0.load hB.good (k := 0) (by omega) (by omega)
  -- each sector of the disk
  have hs0 : secAt Sb 0 = sheetB 6 (bodyAt 1 6 0 (cntN atext.size) (loadT atext) 0) := by have := hB.new_ 0 (by omega); rw [la] at this; exact this
  have hs1 : secAt Sb 1 = sheetB 7 (bodyAt 1 6 0 (cntN atext.size) (loadT atext) 1) := by have := hB.new_ 1 (by omega); rw [la] at this; exact this
  have hs4 : secAt Sb 4 = sheetB 5 (bodyAt 1 5 0 (cntN hello.size) (loadT hello) 0) := by
    rw [hB.old 4 (by omega) (by rw [la, c2]; omega)]
    have := hA.new_ 0 (by omega); rw [hl] at this; exact this
  have hsz : ∀ q, q < 16 → q ≠ 0 → q ≠ 1 → q ≠ 4 → secAt Sb q = fillS 0 := fun q hq h0 h1 h4 => by
    rw [hB.old q (by omega) (by rw [la, c2]; omega), hA.old q (by omega) (by rw [hl, c1]; omega)]
    exact hz q hq
  have S0 : Sec (secAt Sb 0) 6 6 := by rw [hs0]; exact Sec.sheet (by omega) (by rw [body52 (by omega)]; omega)
  have S1 : Sec (secAt Sb 1) 7 7 := by rw [hs1]; exact Sec.sheet (by omega) (by rw [body52 (by omega)]; omega)
  have S4 : Sec (secAt Sb 4) 5 5 := by rw [hs4]; exact Sec.sheet (by omega) (by rw [body52 (by omega)]; omega)
  refine ⟨Sa, Sb, ⟨pa, ?_⟩, ⟨pb, ?_⟩, e1, ?_, ?_, ?_, ?_, ?_, la, lb⟩
  · rw [c1] at ha; exact ha
  · rw [c2] at hb; exact hb
  · exact best_zero hB.good e0 (by decide) (fun x => by rw [show loadDG Sb [] (-1) 1 = ((5 : Nat) : Int) from e1.2.1] at x; omega)
  · refine (load_bad hG (k := 0) (by omega) ?_).1
    rw [Nat.zero_mul, hz 0 (by omega)]
    have := Sec.zero.whole
    cases hw : wholeB (fillS 0) with
    | false => rfl
    | true => have := this.1 hw; omega
  · have hls := long_size
    generalize long_ = lg at *
    have hn : ¬ ((layS 1 (7 : Int) (0 : Int) lg).length : Int) ≤ 4 := by
      have hH : Head 1 7 0 := ⟨by omega, by omega, by omega, by omega⟩
      have := (layS_eq (t := lg) hH (by omega)).2
      have e : layS 1 (7 : Int) (0 : Int) lg = bodiesT 1 7 0 lg := this
      rw [e, bodiesT_len]
      unfold cntN
      omega
    have hE : errL (7 : Int) (0 : Int) lg = 0 := (layS_eq (k := 1) (g := 7) (n := 0) (t := lg) ⟨by omega, by omega, by omega, by omega⟩ (by omega)).1
    unfold saveR
    rw [if_pos (by decide), hB.good.sz, lb]
    unfold pourR
    have hp : pourE Sb [] (-1) (0 * ((16 / 4 : Nat) : Int)) ((0 + 1) * ((16 / 4 : Nat) : Int)) 1 7 0 8 lg = 7 := by
      unfold pourE
      rw [if_pos (okS_of (hB.good.chk (by omega)) (by omega) (by omega) (by omega)), if_pos hE, if_neg (by omega)]
    rw [hp, if_neg (by decide)]
  · unfold topD
    rw [if_pos (hB.good.chk (by omega)), hB.good.secs]
    apply Int.le_antisymm
    · refine topL_le (by omega) fun s hs => ?_
      obtain ⟨q, hq, rfl⟩ := hB.good.mem hs
      by_cases h0 : q = 0
      · subst h0; rw [S0.top]; omega
      · by_cases h1 : q = 1
        · subst h1; rw [S1.top]; omega
        · by_cases h4 : q = 4
          · subst h4; rw [S4.top]; omega
          · rw [hsz q (by omega) h0 h1 h4, Sec.zero.top]; omega
    · have := topL_ge (hB.good.sec_mem (q := 1) (by omega))
      rw [S1.top] at this
      exact this
  · unfold drainD
    rw [if_pos (okS_of (hB.good.chk (by omega)) (by omega) (by omega) (by omega)), hB.good.secs]
    have e : part Sb (0 : Int).toNat (4 : Int).toNat = [secAt Sb 0, secAt Sb 1] ++ secAt Sb 2 :: [secAt Sb 3] := by
      apply List.ext_getElem?
      intro i
      by_cases hi : i < 4
      · rw [show (0 : Int).toNat = 0 from rfl, show (4 : Int).toNat = 4 from rfl, part_getD (by omega) (by omega)]
        match i, hi with
        | 0, _ => simp
        | 1, _ => simp
        | 2, _ => simp
        | 3, _ => simp
      · rw [List.getElem?_eq_none (by rw [part_length (by omega)]; simp; omega), List.getElem?_eq_none (by simp; omega)]
    rw [e, drainL_stop]
    · rfl
    · intro s hs
      rcases List.mem_cons.1 hs with rfl | hs
      · exact S0.whole.2 ⟨rfl, by omega⟩
      · rw [List.mem_singleton.1 hs]; exact S1.whole.2 ⟨rfl, by omega⟩
    · rw [hsz 2 (by omega) (by omega) (by omega) (by omega)]
      have := Sec.zero.whole
      cases hw : wholeB (fillS 0) with
      | false => rfl
      | true => have := this.1 hw; omega

end Go.Proofs.YtkglolnghihegaaGreatDoor.Slt
