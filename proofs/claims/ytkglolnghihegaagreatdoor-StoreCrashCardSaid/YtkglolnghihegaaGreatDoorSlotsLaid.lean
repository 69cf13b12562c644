/- Contract of laid of package slots. -/
import Derived.Test.YtkglolnghihegaaGreatDoorSlotsPour
import Derived.Test.YtkglolnghihegaaGreatDoorDskB
namespace Go.Proofs.YtkglolnghihegaaGreatDoor.Slt
open Go.RowKit Go.Proofs.YtkglolnghihegaaGreatDoor.Dsk Go.Proofs.YtkglolnghihegaaGreatDoor.Sht Go.Proofs.YtkglolnghihegaaGreatDoor.Shf

/-- Bodies that are put, one behind the other: the writes that wait, the fuse, and the error. -/
def lays (S : List ByteArray) : List ByteArray → Int → Int → List Wr → Int → List Wr × Int × Int
  | [], _, _, W, f => (W, f, 0)
  | b :: bs, st, p, W, f => if putE S W f p (sealR st b).1 = 0 then lays S bs (st + 1) (p + 1) (W ++ [(p, (sealR st b).1)]) (burnt f) else (W, f, putE S W f p (sealR st b).1)
/-- .. and a flush. -/
def flushR (S : List ByteArray) (x : List Wr × Int × Int) : List ByteArray × List Wr × Int × Int :=
  if x.2.2 = 0 then (if flushE S x.1 x.2.1 = 0 then (goAll S x.1 (fun _ => 64), [], burnt x.2.1, 0) else (S, x.1, x.2.1, flushE S x.1 x.2.1)) else (S, x.1, x.2.1, x.2.2)

def RetF (w : World) (S : List ByteArray) (x : List Wr × Int × Int) (r : Ending) (w' : World) : Prop := RetDE w (flushR S x).1 (flushR S x).2.1 (flushR S x).2.2.1 (flushR S x).2.2.2 r w'
theorem RetF.no {w w' : World} {S : List ByteArray} {x : List Wr × Int × Int} {W : List Wr} {f e : Int} (hx : x = (W, f, e)) (he : ¬ e = 0) {r : Ending} (h : RetDE w S W f e r w') : RetF w S x r w' := by
  subst hx
  unfold RetF flushR
  dsimp only
  rw [if_neg he]
  exact h
theorem RetF.yes {w w' : World} {S : List ByteArray} {x : List Wr × Int × Int} {W : List Wr} {f : Int} (hx : x = (W, f, 0)) {r : Ending}
    (h : RetDE w (if flushE S W f = 0 then goAll S W (fun _ => 64) else S) (if flushE S W f = 0 then [] else W) (if flushE S W f = 0 then burnt f else f) (flushE S W f) r w') : RetF w S x r w' := by
  subst hx
  unfold RetF flushR
  dsimp only
  rw [if_pos rfl]
  by_cases h0 : flushE S W f = 0
  · rw [if_pos h0] at h ⊢
    rw [if_pos h0, if_pos h0, h0] at h
    exact h
  · rw [if_neg h0] at h ⊢
    rw [if_neg h0, if_neg h0] at h
    exact h

/-- What is kept in the loop. -/
structure LInv (w wr : World) (A : Option Addr) (n c : Nat) (A' : Option Addr) (m c' : Nat) (f : Int) (S : List ByteArray) (W : List Wr) (bs : List ByteArray) (st p : Int) (R : List Wr × Int × Int) (j : Nat) : Prop where
  bel : Below w.heap.size w wr
  box : St wr w.heap.size A n c A' m c' f
  dev : Dev wr A n c A' m c' f S W
  res : St wr (w.heap.size + 1) none 0 0 none 0 0 0
  eq : lays S (bs.drop j) (st + j) (p + j) W f = R

theorem LInv.call {w wr w' : World} {A : Option Addr} {n c : Nat} {A' : Option Addr} {m c' : Nat} {f : Int} {S : List ByteArray} {W : List Wr} {bs : List ByteArray} {st p : Int} {R : List Wr × Int × Int} {j : Nat}
    (h : LInv w wr A n c A' m c' f S W bs st p R j) (hb : Below wr.heap.size wr w') : LInv w w' A n c A' m c' f S W bs st p R j :=
  ⟨h.bel.call hb, h.box.call hb, h.dev.below hb, h.res.call hb, h.eq⟩

set_option maxHeartbeats 1000000 in
theorem laid_any (A : Option Addr) (n c : Nat) (A' : Option Addr) (m c' : Nat) (f : Int) (S : List ByteArray) (V : List Wr) (p st : Int) (B : Option Addr) (N cb : Nat) (bs : List ByteArray) (w : World) (hD : Dev w A n c A' m c' f S V) (hR : RV w B N 1 (SV bs))
    (hN : (N : Int) ≤ 2000) (hp1 : 0 ≤ p) (hp2 : p ≤ 2000) (hs1 : 0 ≤ st) (hs2 : st ≤ 1099511627776) :
    Calls Tryz.prog 116 #[DV A n c A' m c' f, .int .i64 p, .int .i64 st, .slice B N cb] w (RetF w S (lays S bs st p V f)) := by
  have HN := Lib.hid hR.sec
  have H0 : Hid (LInv w ((w.alloc (D33 A n c A' m c' f)).alloc (D33 none 0 0 none 0 0 0)) A n c A' m c' f S V bs st p (lays S bs st p V f) 0) :=
    Lib.hid ⟨(new1 _ _).push _, (St.new w A n c A' m c' f 29).alloc _, (hD.new _).new _, by have := St.new (w.alloc (D33 A n c A' m c' f)) none 0 0 none 0 0 0 29; rwa [World.size_alloc] at this, by simp⟩
  have HRV := Lib.hid hR
  generalize lays S bs st p V f = R at *
  clear hD hR
  go_enter Tryz.func116, Tryz.ntmps116
  go_wp2_with fail
  go_loopw [17] (fun s17 wr => ∃ j : Nat, j ≤ N ∧ s17 = .int .i64 j ∧ Hid (∃ A n c A' m c' f W, LInv w wr A n c A' m c' f S W bs st p R j)) (fun s17 _ => N - (intOf s17).toNat)
  case atStart => exact ⟨0, Nat.zero_le _, rfl, Lib.hid ⟨_, _, _, _, _, _, _, _, H0.out⟩⟩
  case round =>
    obtain ⟨j, hj, rfl, HI⟩ := hrel
    obtain ⟨A1, n1, c1, A1', m1, c1', f1, W1, hI⟩ := HI.out
    have HI1 := Lib.hid hI
    obtain ⟨c0, c1_, c2, f0, f1_, f2⟩ := hI.box.box
    have hl0 := hI.box.lt
    clear hI HI H0
    by_cases hlt : j < N
    · have hlb : j < bs.length := by have := HN.out; omega
      obtain ⟨b, off, rfl, hb, hc⟩ := (HRV.out.below HI1.out.bel).secAt hlt hlb
      have HE := Lib.hid HI1.out.eq
      rw [List.drop_eq_getElem_cons hlb] at HE
      generalize bs[j] = bd at *
      have HSe := Lib.hid (fun W => seal_any (st + j) bd W)
      unfold lays at HE
      generalize (sealR (st + j) bd).1 = s at *
      generalize (sealR (st + j) bd).2 = z at *
      have HP := Lib.hid (fun W (h : Below wr.heap.size wr W) => put_any A1 n1 c1 A1' m1 c1' f1 S W1 (p + j) s W (HI1.out.dev.below h))
      have hj2 : (j : Int) ≤ 2000 := by omega
      by_cases hpe : putE S W1 f1 (p + j) s = 0
      · rw [hpe] at HP
        simp only [if_pos] at HP
        rw [if_pos hpe] at HE
        clear hlb hpe
        go_wp2_with fail
        with_reducible refine (HSe.out _).mono ?_
        rintro r w1 ⟨rfl, b1⟩
        have HI2 := Lib.hid (HI1.out.call b1)
        obtain ⟨c0, c1_, c2, f0, f1_, f2⟩ := HI2.out.box.box
        have HPP := HP.out _ b1
        clear b1 HP HSe
        go_wp2_with fail
        with_reducible refine HPP.mono ?_
        rintro r w2 ⟨A2, n2, c2', A2', m2, c2'', rfl, hd2, b2⟩
        have HI3 := Lib.hid (HI2.out.call b2)
        have HD2 := Lib.hid hd2
        obtain ⟨c0, c1_, c2, f0, f1_, f2⟩ := HI3.out.box.box
        clear b2 hd2 HPP
        go_wp2
        go_roundw
        case rel =>
          refine ⟨j + 1, by omega, by go_num, Lib.hid ⟨A2, n2, c2', A2', m2, c2'', burnt f1, W1 ++ [(p + j, s)], HI3.out.bel.set3 (Nat.le_refl _) _ _ _, HI3.out.box.set3 _ _ _ _ _ _ _, HD2.out.only HI3.out.box.ns (grown_set3 _ _ _ _ _), HI3.out.res.of_block ((grown_set3 _ _ _ _ _).block _ HI3.out.res.lt (by simp)), ?_⟩⟩
          rw [← HE.out, show st + ((j + 1 : Nat) : Int) = st + j + 1 by omega, show p + ((j + 1 : Nat) : Int) = p + j + 1 by omega]
        case measure => simp [intOf]; omega
      · have hne := neq0 hpe
        rw [if_neg hpe, if_neg hpe] at HP
        rw [if_neg hpe] at HE
        have HPE := Lib.hid hpe
        generalize putE S W1 f1 (p + j) s = e at *
        clear hlb hpe
        go_wp2_with fail
        with_reducible refine (HSe.out _).mono ?_
        rintro r w1 ⟨rfl, b1⟩
        have HI2 := Lib.hid (HI1.out.call b1)
        obtain ⟨c0, c1_, c2, f0, f1_, f2⟩ := HI2.out.box.box
        have HPP := HP.out _ b1
        clear b1 HP HSe
        go_wp2_with fail
        with_reducible refine HPP.mono ?_
        rintro r w2 ⟨A2, n2, c2', A2', m2, c2'', rfl, hd2, b2⟩
        have HI3 := Lib.hid (HI2.out.call b2)
        have HD2 := Lib.hid hd2
        obtain ⟨c0, c1_, c2, f0, f1_, f2⟩ := HI3.out.box.box
        obtain ⟨r0, r1, r2, g0, g1, g2⟩ := HI3.out.res.box
        have hl1 := HI3.out.res.lt
        clear b2 hd2 HPP
        go_wp2
        have hd3 := HD2.out.only HI3.out.box.ns (grown_set3 w2 w.heap.size (.slice A2 n2 c2') (.slice A2' m2 c2'') (.int .i64 f1))
        have hr3 := HI3.out.res.other (grown_set3 w2 w.heap.size (.slice A2 n2 c2') (.slice A2' m2 c2'') (.int .i64 f1)) (by omega)
        have hd4 := hd3.only hr3.ns (grown_set3 _ (w.heap.size + 1) (.slice A2 n2 c2') (.slice A2' m2 c2'') (.int .i64 f1))
        have hr4 := hr3.set3 A2 n2 c2' A2' m2 c2'' f1
        have hb4 := (HI3.out.bel.set3 (Nat.le_refl _) (.slice A2 n2 c2') (.slice A2' m2 c2'') (.int .i64 f1)).set3 (g := w.heap.size + 1) (by omega) (.slice A2 n2 c2') (.slice A2' m2 c2'') (.int .i64 f1)
        dsimp only [set3] at hd4 hr4 hb4
        clear hd3 hr3
        generalize ((((((w2.setCell ⟨w.heap.size, 0, none⟩ (.slice A2 n2 c2')).setCell ⟨w.heap.size, 1, none⟩ (.slice A2' m2 c2'')).setCell ⟨w.heap.size, 2, none⟩ (.int .i64 f1)).setCell ⟨w.heap.size + 1, 0, none⟩ (.slice A2 n2 c2')).setCell ⟨w.heap.size + 1, 1, none⟩ (.slice A2' m2 c2'')).setCell ⟨w.heap.size + 1, 2, none⟩ (.int .i64 f1)) = wf at *
        obtain ⟨k0, k1, k2, -, -, -⟩ := hr4.box
        refine bodyPost_ret (v := .tuple #[DV A2 n2 c2' A2' m2 c2'' f1, .int .i64 e]) (by simp [results, Tryz.results116, go_sem, k0, k1, k2]) rfl ?_
        exact RetF.no HE.out.symm HPE.out ⟨_, _, _, _, _, _, rfl, hd4, hb4⟩
    · obtain rfl : j = N := by omega
      have HE := Lib.hid HI1.out.eq
      rw [List.drop_of_length_le (by have := HN.out; omega)] at HE
      unfold lays at HE
      have HFl := Lib.hid (flush_any A1 n1 c1 A1' m1 c1' f1 S W1 wr HI1.out.dev)
      have HY : Hid (∀ r w', RetDE w (if flushE S W1 f1 = 0 then goAll S W1 (fun _ => 64) else S) (if flushE S W1 f1 = 0 then [] else W1) (if flushE S W1 f1 = 0 then burnt f1 else f1) (flushE S W1 f1) r w' → RetF w S R r w') := Lib.hid (fun r w' h => RetF.yes HE.out.symm h)
      generalize (if flushE S W1 f1 = 0 then goAll S W1 (fun _ => 64) else S) = S2 at *
      generalize (if flushE S W1 f1 = 0 then [] else W1) = V2 at *
      generalize (if flushE S W1 f1 = 0 then burnt f1 else f1) = F2 at *
      generalize flushE S W1 f1 = e2 at *
      go_wp2_with fail
      with_reducible refine HFl.out.mono ?_
      rintro r w2 ⟨A2, n2, c2', A2', m2, c2'', rfl, hd2, b2⟩
      have HI3 := Lib.hid (HI1.out.call b2)
      have HD2 := Lib.hid hd2
      obtain ⟨r0, r1, r2, g0, g1, g2⟩ := HI3.out.res.box
      clear b2 hd2 HFl
      go_wp2
      have hd4 := HD2.out.only HI3.out.res.ns (grown_set3 _ (w.heap.size + 1) (.slice A2 n2 c2') (.slice A2' m2 c2'') (.int .i64 F2))
      have hr4 := HI3.out.res.set3 A2 n2 c2' A2' m2 c2'' F2
      have hb4 := HI3.out.bel.set3 (g := w.heap.size + 1) (by omega) (.slice A2 n2 c2') (.slice A2' m2 c2'') (.int .i64 F2)
      dsimp only [set3] at hd4 hr4 hb4
      generalize (((w2.setCell ⟨w.heap.size + 1, 0, none⟩ (.slice A2 n2 c2')).setCell ⟨w.heap.size + 1, 1, none⟩ (.slice A2' m2 c2'')).setCell ⟨w.heap.size + 1, 2, none⟩ (.int .i64 F2)) = wf at *
      obtain ⟨k0, k1, k2, -, -, -⟩ := hr4.box
      refine bodyPost_ret (v := .tuple #[DV A2 n2 c2' A2' m2 c2'' F2, .int .i64 e2]) (by simp [results, Tryz.results116, go_sem, k0, k1, k2]) rfl ?_
      exact HY.out _ _ ⟨_, _, _, _, _, _, rfl, hd4, hb4⟩

end Go.Proofs.YtkglolnghihegaaGreatDoor.Slt
