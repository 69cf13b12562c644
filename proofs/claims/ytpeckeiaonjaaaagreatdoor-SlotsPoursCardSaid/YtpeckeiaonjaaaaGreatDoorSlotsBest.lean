/- Contract of Best of package slots. -/
import Derived.Test.YtpeckeiaonjaaaaGreatDoorSlotsLoad
namespace Go.Proofs.YtpeckeiaonjaaaaGreatDoor.Slt
open Go.RowKit Go.Proofs.YtpeckeiaonjaaaaGreatDoor.Dsk Go.Proofs.YtpeckeiaonjaaaaGreatDoor.Sht Go.Proofs.YtpeckeiaonjaaaaGreatDoor.Shf
open Go.Proofs.YtpeckeiaonjaaaaGreatDoor.Crc (Tab)

/-- The newer slot so far: its number, its generation and text, the error. -/
structure Bst where
  z : Int
  g : Int
  t : ByteArray
  e : Int
def bstep (S : List ByteArray) (W : List Wr) (f : Int) (b : Bst) (z : Int) : Bst := if loadDE S W f z = 0 ∧ b.g < loadDG S W f z then ⟨z, loadDG S W f z, loadDT S W f z, 0⟩ else b
def bst (S : List ByteArray) (W : List Wr) (f : Int) : Nat → Bst
  | 0 => ⟨0, 0, ⟨#[]⟩, 6⟩
  | j + 1 => bstep S W f (bst S W f j) j
def bestR (S : List ByteArray) (W : List Wr) (f : Int) : Bst := if chk S W f = 0 then bst S W f 2 else ⟨0, 0, ⟨#[]⟩, 2⟩
def RetB (w : World) (b : Bst) (r : Ending) (w' : World) : Prop := r = .returned (.tuple #[.int .i64 b.z, SNV b.g b.t, .int .i64 b.e]) ∧ Below w.heap.size w w'

theorem best_no (A : Option Addr) (n c : Nat) (A' : Option Addr) (m c' : Nat) (f : Int) (S : List ByteArray) (V : List Wr) (w : World) (hD : Dev w A n c A' m c' f S V) (h : ¬ chk S V f = 0) :
    Calls Tryz.prog 16 #[DV A n c A' m c' f] w (RetB w ⟨0, 0, ⟨#[]⟩, 2⟩) := by
  have HC := Lib.hid (check_any A n c A' m c' f S V _ ((hD.new (D33 A n c A' m c' f)).new (.cells #[.int .i64 0, .string ⟨#[]⟩] 50)))
  have hne := neq0 h
  generalize chk S V f = e0 at *
  clear hD h
  go_enter Tryz.func16, Tryz.ntmps16
  go_wp2_with (go_at_call 43; (with_reducible refine HC.out.mono ?_); rintro e w1 ⟨rfl, hb1⟩; have HB := Lib.hid (((new1 w (D33 A n c A' m c' f)).push _).call hb1); have X1 := (by have := (Bx2.new (w.alloc (D33 A n c A' m c' f)) (.int .i64 0) (.string ⟨#[]⟩) 50).call hb1; rwa [World.size_alloc] at this : Bx2 w1 (w.heap.size + 1) (.int .i64 0) (.string ⟨#[]⟩)); have HX := Lib.hid X1; obtain ⟨r0, r1, g0, g1⟩ := X1; clear hb1)
  have hr4 := HX.out.set2 (.int .i64 0) (.string ⟨#[]⟩)
  have hb4 := set2_below HB.out (show w.heap.size ≤ w.heap.size + 1 by omega) (.int .i64 0) (.string ⟨#[]⟩)
  generalize ((w1.setCell ⟨w.heap.size + 1, 0, none⟩ (.int .i64 0)).setCell ⟨w.heap.size + 1, 1, none⟩ (.string ⟨#[]⟩)) = wf at *
  obtain ⟨k0, k1, -, -⟩ := hr4
  refine bodyPost_ret (v := .tuple #[.int .i64 0, SNV 0 ⟨#[]⟩, .int .i64 2]) (by simp [results, Tryz.results16, go_sem, k0, k1]) rfl ?_
  exact ⟨rfl, hb4⟩

/-- What is kept in the loop. -/
structure BInv (w wr : World) (nb : Nat) (A : Option Addr) (n c : Nat) (A' : Option Addr) (m c' : Nat) (f g : Int) (t : ByteArray) : Prop where
  bel : Below w.heap.size w wr
  box : St wr w.heap.size A n c A' m c' f
  res : Bx2 wr (w.heap.size + 1) (.int .i64 0) (.string ⟨#[]⟩)
  new_ : Bx2 wr nb (.int .i64 g) (.string t)
  lt : w.heap.size + 1 < nb
theorem BInv.call {w wr w' : World} {nb : Nat} {A : Option Addr} {n c : Nat} {A' : Option Addr} {m c' : Nat} {f g : Int} {t : ByteArray} (h : BInv w wr nb A n c A' m c' f g t) (hb : Below wr.heap.size wr w') : BInv w w' nb A n c A' m c' f g t :=
  ⟨h.bel.call hb, h.box.call hb, h.res.call hb, h.new_.call hb, h.lt⟩

theorem blk_set2 (w : World) (b k : Nat) (x y : Value) (hk : k ≠ b) : ((w.setCell ⟨b, 0, none⟩ x).setCell ⟨b, 1, none⟩ y).heap[k]? = w.heap[k]? :=
  (Below.heap_setCell _ _ _ _ (by simpa using hk)).trans (Below.heap_setCell _ _ _ _ (by simpa using hk))
theorem Bx2.of_block {w w' : World} {b : Nat} {x y : Value} (h : Bx2 w b x y) (e : w'.heap[b]? = w.heap[b]?) : Bx2 w' b x y :=
  ⟨(World.cell?_of_block (a := ⟨b, 0, none⟩) e).trans h.c0, (World.cell?_of_block (a := ⟨b, 1, none⟩) e).trans h.c1, (World.frozen?_of_block (a := ⟨b, 0, none⟩) e).trans h.f0, (World.frozen?_of_block (a := ⟨b, 1, none⟩) e).trans h.f1⟩
theorem BInv.set {w wr : World} {nb : Nat} {A : Option Addr} {n c : Nat} {A' : Option Addr} {m c' : Nat} {f g : Int} {t : ByteArray} (h : BInv w wr nb A n c A' m c' f g t) (g' : Int) (t' : ByteArray) :
    BInv w ((wr.setCell ⟨nb, 0, none⟩ (.int .i64 g')).setCell ⟨nb, 1, none⟩ (.string t')) nb A n c A' m c' f g' t' :=
  ⟨set2_below h.bel (by have := h.lt; omega) _ _, h.box.of_block (blk_set2 _ _ _ _ _ (by have := h.lt; omega)), h.res.of_block (blk_set2 _ _ _ _ _ (by have := h.lt; omega)), h.new_.set2 _ _, h.lt⟩
theorem BInv.drew {w wr : World} {nb : Nat} {A : Option Addr} {n c : Nat} {A' : Option Addr} {m c' : Nat} {f g : Int} {t : ByteArray} (h : BInv w wr nb A n c A' m c' f g t) : BInv w wr.drew nb A n c A' m c' f g t :=
  ⟨h.bel.drew, h.box.drew, ⟨h.res.c0, h.res.c1, h.res.f0, h.res.f1⟩, ⟨h.new_.c0, h.new_.c1, h.new_.f0, h.new_.f1⟩, h.lt⟩
set_option maxHeartbeats 1000000 in
theorem best_yes (A : Option Addr) (n c : Nat) (A' : Option Addr) (m c' : Nat) (f : Int) (S : List ByteArray) (V : List Wr) (w : World) (hD : Dev w A n c A' m c' f S V) (hT : Tab w) (h : chk S V f = 0) :
    Calls Tryz.prog 16 #[DV A n c A' m c' f] w (RetB w (bst S V f 2)) := by
  have hc := check_any A n c A' m c' f S V _ ((hD.new (D33 A n c A' m c' f)).new (.cells #[.int .i64 0, .string ⟨#[]⟩] 50))
  rw [h] at hc
  have HC := Lib.hid hc
  have HL := Lib.hid (fun (j : Nat) W (hb : Below w.heap.size w W) => load_any A n c A' m c' f S V j W (hD.below hb) (Shf.tab_call hT hb))
  clear hD hT h hc
  go_enter Tryz.func16, Tryz.ntmps16
  go_wp2_with (go_at_call 43; (with_reducible refine HC.out.mono ?_); rintro e w1 ⟨rfl, hb1⟩; have HB := Lib.hid (((new1 w (D33 A n c A' m c' f)).push _).call hb1); have X1 := (by have := (Bx2.new (w.alloc (D33 A n c A' m c' f)) (.int .i64 0) (.string ⟨#[]⟩) 50).call hb1; rwa [World.size_alloc] at this : Bx2 w1 (w.heap.size + 1) (.int .i64 0) (.string ⟨#[]⟩)); have HX := Lib.hid X1; have HY := Lib.hid (((St.new w A n c A' m c' f 33).alloc _).call hb1); clear hb1 X1)
  have H0 : Hid (BInv w (w1.alloc (.cells #[.int .i64 0, .string ⟨#[]⟩] 50)) w1.heap.size A n c A' m c' f 0 ⟨#[]⟩) := Lib.hid ⟨HB.out.push _, HY.out.alloc _, HX.out.alloc _, Bx2.new _ _ _ _, HX.out.lt⟩
  have HL2 : Hid (bst S V f 0 = ⟨0, 0, ⟨#[]⟩, 6⟩) := Lib.hid rfl
  clear HX HY HC
  go_loopw [5, 7, 16] (fun s5 s7 s16 wr => ∃ j : Nat, j ≤ 2 ∧ s16 = .int .i64 j ∧ ∃ bz bg be bt, s5 = .int .i64 bz ∧ s7 = .int .i64 be ∧ Hid (bst S V f j = ⟨bz, bg, bt, be⟩) ∧ Hid (BInv w wr w1.heap.size A n c A' m c' f bg bt)) (fun _ _ s16 _ => 2 - (intOf s16).toNat)
  case atStart => exact ⟨0, by omega, rfl, 0, 0, 6, ⟨#[]⟩, rfl, rfl, HL2, H0⟩
  case round =>
    obtain ⟨j, hj, rfl, bz, bg, be, bt, rfl, rfl, HS, HI⟩ := hrel
    obtain ⟨c0, c1, c2, -, -, -⟩ := HI.out.box.box
    have hl0 := HI.out.box.lt
    have hln := HI.out.new_.lt
    obtain ⟨n0, n1, m0, m1⟩ := HI.out.new_
    by_cases hlt : j < 2
    · have HLj := Lib.hid (HL.out j wr HI.out.bel)
      have HN := Lib.hid (show bst S V f (j + 1) = bstep S V f (bst S V f j) j from rfl)
      rw [HS.out] at HN
      unfold bstep at HN
      dsimp only at HN
      unfold RetN at HLj
      generalize loadDG S V f j = lg at *
      generalize loadDT S V f j = lt at *
      generalize loadDE S V f j = le at *
      go_wp2_with fail
      with_reducible refine HLj.out.mono ?_
      rintro r w2 ⟨rfl, b2⟩
      have HI2 := Lib.hid ((HI.out.call b2).call (new1 _ (.cells #[.int .i64 lg, .string lt] 50)))
      have HI1 := Lib.hid (HI.out.call b2)
      have HM := Lib.hid (Bx2.new w2 (.int .i64 lg) (.string lt) 50)
      obtain ⟨n0, n1, m0, m1⟩ := (HI.out.call b2).new_
      have hln2 := (HI.out.call b2).new_.lt
      clear b2 HI HLj
      by_cases he : le = 0
      · subst he
        by_cases hg : bg < lg
        · rw [if_pos ⟨rfl, hg⟩] at HN
          obtain ⟨n0, n1, m0, m1⟩ := HI2.out.new_
          obtain ⟨l0, l1, -, -⟩ := HM.out
          go_wp2_with fail
          go_region
          all_goals (
            go_wp2_with fail
            have HI5 := Lib.hid (((HI1.out.set lg lt).call (new1 _ (.cells #[.int .i64 lg, .string lt] 50))).drew)
            exact ⟨⟨j + 1, by omega, by go_num, j, lg, 0, lt, rfl, rfl, HN, HI5⟩, by simp [intOf]; omega⟩)
        · rw [if_neg (fun x => hg x.2)] at HN
          have hg' : lg ≤ bg := by omega
          go_wp2_with fail
          go_roundw
          case rel => exact ⟨j + 1, by omega, by go_num, bz, bg, be, bt, rfl, rfl, HN, HI2⟩
          case measure => simp [intOf]; omega
      · rw [if_neg (fun x => he x.1)] at HN
        have hne : (le == 0) = false := by simpa using he
        go_wp2_with fail
        go_roundw
        case rel => exact ⟨j + 1, by omega, by go_num, bz, bg, be, bt, rfl, rfl, HN, HI2⟩
        case measure => simp [intOf]; omega
    · obtain rfl : j = 2 := by omega
      obtain ⟨r0, r1, g0, g1⟩ := HI.out.res
      have hlr := HI.out.res.lt
      go_wp2_with fail
      go_region
      all_goals (
        go_wp2_with fail
        have hr4 := HI.out.res.set2 (.int .i64 bg) (.string bt)
        have hb4 := (set2_below HI.out.bel (show w.heap.size ≤ w.heap.size + 1 by omega) (.int .i64 bg) (.string bt)).drew
        have k0 : ((wr.setCell ⟨w.heap.size + 1, 0, none⟩ (.int .i64 bg)).setCell ⟨w.heap.size + 1, 1, none⟩ (.string bt)).drew.cell? ⟨w.heap.size + 1, 0, none⟩ = some (.int .i64 bg) := hr4.c0
        have k1 : ((wr.setCell ⟨w.heap.size + 1, 0, none⟩ (.int .i64 bg)).setCell ⟨w.heap.size + 1, 1, none⟩ (.string bt)).drew.cell? ⟨w.heap.size + 1, 1, none⟩ = some (.string bt) := hr4.c1
        generalize ((wr.setCell ⟨w.heap.size + 1, 0, none⟩ (.int .i64 bg)).setCell ⟨w.heap.size + 1, 1, none⟩ (.string bt)).drew = wf at *
        refine bodyPost_ret (v := .tuple #[.int .i64 bz, SNV bg bt, .int .i64 be]) (by simp [results, Tryz.results16, go_sem, k0, k1]) rfl ?_
        exact ⟨by rw [HS.out], hb4⟩)

theorem best_any (A : Option Addr) (n c : Nat) (A' : Option Addr) (m c' : Nat) (f : Int) (S : List ByteArray) (V : List Wr) (w : World) (hD : Dev w A n c A' m c' f S V) (hT : Tab w) :
    Calls Tryz.prog 16 #[DV A n c A' m c' f] w (RetB w (bestR S V f)) := by
  unfold bestR
  by_cases h : chk S V f = 0
  · rw [if_pos h]; exact best_yes A n c A' m c' f S V w hD hT h
  · rw [if_neg h]; exact best_no A n c A' m c' f S V w hD h

end Go.Proofs.YtpeckeiaonjaaaaGreatDoor.Slt
