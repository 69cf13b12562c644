/- Contracts of Pour and Save of package slots. -/
import Derived.Test.YtkglolnghihegaaGreatDoorSlotsLaid
import Derived.Deep.RegionWith
namespace Go.Proofs.YtkglolnghihegaaGreatDoor.Slt
open Go.RowKit Go.Proofs.YtkglolnghihegaaGreatDoor.Dsk Go.Proofs.YtkglolnghihegaaGreatDoor.Sht Go.Proofs.YtkglolnghihegaaGreatDoor.Shf
open Go.Proofs.YtkglolnghihegaaGreatDoor.Crc (Tab)

/-- What Pour leaves: the sectors, the writes that wait, the fuse, the place, the stamp, the error. -/
structure Poured where
  S : List ByteArray
  W : List Wr
  f : Int
  p : Int
  st : Int
  e : Int
def pourR (S : List ByteArray) (W : List Wr) (f p q : Int) (k : Nat) (g n st : Int) (t : ByteArray) : Poured :=
  if pourE S W f p q k g n st t = 0 then
    (if (flushR S (lays S (layS k g n t) st p W f)).2.2.2 = 0 then
      ⟨(flushR S (lays S (layS k g n t) st p W f)).1, (flushR S (lays S (layS k g n t) st p W f)).2.1, (flushR S (lays S (layS k g n t) st p W f)).2.2.1, p + (layS k g n t).length, st + (layS k g n t).length, 0⟩
    else ⟨(flushR S (lays S (layS k g n t) st p W f)).1, (flushR S (lays S (layS k g n t) st p W f)).2.1, (flushR S (lays S (layS k g n t) st p W f)).2.2.1, p, st, (flushR S (lays S (layS k g n t) st p W f)).2.2.2⟩)
  else ⟨S, W, f, p, st, pourE S W f p q k g n st t⟩

/-- What is answered: a device, a place, a stamp, and an error. -/
def RetP (w : World) (x : Poured) (r : Ending) (w' : World) : Prop :=
  ∃ A n c A' m c', r = .returned (.tuple #[DV A n c A' m c' x.f, .int .i64 x.p, .int .i64 x.st, .int .i64 x.e]) ∧ Dev w' A n c A' m c' x.f x.S x.W ∧ Below w.heap.size w w'

theorem pourE_ok {S : List ByteArray} {W : List Wr} {f p q : Int} {k : Nat} {g n st : Int} {t : ByteArray} (h : pourE S W f p q k g n st t = 0) :
    okS S W f p q = true ∧ errL g n t = 0 ∧ ((layS k g n t).length : Int) ≤ q - p ∧ 1 ≤ st ∧ st ≤ 1099511627776 - (((layS k g n t).length : Int) - 1) := by
  unfold pourE at h
  split at h
  · split at h
    · split at h
      · split at h
        · exact ⟨‹_›, ‹_›, ‹_›, (‹_ ∧ _› : _ ∧ _).1, (‹_ ∧ _› : _ ∧ _).2⟩
        · omega
      · omega
    · omega
  · omega
theorem layS_len (k : Nat) {g n : Int} {t : ByteArray} (h : errL g n t = 0) : 1 ≤ (layS k g n t).length ∧ (layS k g n t).length ≤ 500 := by
  have : (t.size : Int) ≤ 16000 := by
    unfold errL at h
    split at h
    · split at h
      · assumption
      · omega
    · omega
  unfold layS
  rw [if_pos h]
  unfold bodiesT cntN
  simp
  omega

set_option maxHeartbeats 1000000 in
theorem pour_no (A : Option Addr) (n c : Nat) (A' : Option Addr) (m c' : Nat) (f : Int) (S : List ByteArray) (V : List Wr) (p q : Int) (k : Nat) (g no st : Int) (t : ByteArray) (w : World) (hD : Dev w A n c A' m c' f S V) (hk : k < 256) (hT : Tab w) (h : ¬ pourE S V f p q k g no st t = 0) :
    Calls Tryz.prog 78 #[DV A n c A' m c' f, .int .i64 p, .int .i64 q, HV k g no, .int .i64 st, .string t] w (RetP w ⟨S, V, f, p, st, pourE S V f p q k g no st t⟩) := by
  have b3 : Below w.heap.size w (((w.alloc (D33 A n c A' m c' f)).alloc (.cells #[.int .u8 k, .int .i64 g, .int .i64 no] 132)).alloc (D33 none 0 0 none 0 0 0)) := ((new1 w _).push _).push _
  have HC := Lib.hid (poured_any A n c A' m c' f S V p q k g no st t _ (hD.below b3) hk (Shf.tab_call hT b3))
  unfold pourB at HC
  rw [if_neg h] at HC
  have hne := neq0 h
  have HD := Lib.hid hD
  generalize pourE S V f p q k g no st t = e0 at *
  clear hD h hk hT b3
  go_enter Tryz.func78, Tryz.ntmps78
  go_wp2_with fail
  with_reducible refine HC.out.mono ?_
  rintro r w1 ⟨B1, m1, c1, rfl, -, b1⟩
  have HB1 := Lib.hid ((((new1 w (D33 A n c A' m c' f)).push _).push _).call b1)
  have X0 := (((St.new w A n c A' m c' f 29).alloc _).alloc _).call b1
  have X2 := (by have := (St.new ((w.alloc (D33 A n c A' m c' f)).alloc (.cells #[.int .u8 k, .int .i64 g, .int .i64 no] 132)) none 0 0 none 0 0 0 29).call b1; rwa [World.size_alloc, World.size_alloc] at this : St w1 (w.heap.size + 1 + 1) none 0 0 none 0 0 0)
  have HX2 := Lib.hid X2
  obtain ⟨c0, c1_, c2, -, -, -⟩ := X0.box
  obtain ⟨r0, r1, r2, g0, g1, g2⟩ := X2.box
  have hl2 := X2.lt
  have hd1 := Lib.hid (HD.out.below HB1.out)
  clear b1 HC X0 X2 HD
  go_wp2
  have hd4 := hd1.out.only HX2.out.ns (grown_set3 _ (w.heap.size + 1 + 1) (.slice A n c) (.slice A' m c') (.int .i64 f))
  have hr4 := HX2.out.set3 A n c A' m c' f
  have hb4 := HB1.out.set3 (g := w.heap.size + 1 + 1) (by omega) (.slice A n c) (.slice A' m c') (.int .i64 f)
  dsimp only [set3] at hd4 hr4 hb4
  generalize (((w1.setCell ⟨w.heap.size + 1 + 1, 0, none⟩ (.slice A n c)).setCell ⟨w.heap.size + 1 + 1, 1, none⟩ (.slice A' m c')).setCell ⟨w.heap.size + 1 + 1, 2, none⟩ (.int .i64 f)) = wf at *
  obtain ⟨k0, k1, k2, -, -, -⟩ := hr4.box
  refine bodyPost_ret (v := .tuple #[DV A n c A' m c' f, .int .i64 p, .int .i64 st, .int .i64 e0]) (by simp [results, Tryz.results78, go_sem, k0, k1, k2]) rfl ?_
  exact ⟨_, _, _, _, _, _, rfl, hd4, hb4⟩

set_option maxHeartbeats 1000000 in
theorem pour_yes (A : Option Addr) (n c : Nat) (A' : Option Addr) (m c' : Nat) (f : Int) (S : List ByteArray) (V : List Wr) (p q : Int) (k : Nat) (g no st : Int) (t : ByteArray) (w : World) (hD : Dev w A n c A' m c' f S V) (hk : k < 256) (hT : Tab w) (h : pourE S V f p q k g no st t = 0)
    (S2 : List ByteArray) (V2 : List Wr) (F2 e2 : Int) (HFR : Hid (flushR S (lays S (layS k g no t) st p V f) = (S2, V2, F2, e2))) :
    Calls Tryz.prog 78 #[DV A n c A' m c' f, .int .i64 p, .int .i64 q, HV k g no, .int .i64 st, .string t] w (RetP w (if e2 = 0 then ⟨S2, V2, F2, p + (layS k g no t).length, st + (layS k g no t).length, 0⟩ else ⟨S2, V2, F2, p, st, e2⟩)) := by
  have b3 : Below w.heap.size w (((w.alloc (D33 A n c A' m c' f)).alloc (.cells #[.int .u8 k, .int .i64 g, .int .i64 no] 132)).alloc (D33 none 0 0 none 0 0 0)) := ((new1 w _).push _).push _
  have HC := Lib.hid (poured_any A n c A' m c' f S V p q k g no st t _ (hD.below b3) hk (Shf.tab_call hT b3))
  unfold pourB at HC
  rw [if_pos h, h] at HC
  obtain ⟨h1, h2, h3, h4, h5⟩ := pourE_ok h
  obtain ⟨-, h6, h7, h8⟩ := okS_yes h1
  have hll := layS_len k h2
  have hns : (S.length : Int) ≤ 2000 := by have := hD.ns; omega
  have HD := Lib.hid hD
  generalize layS k g no t = bs at *
  have HLD : Hid (∀ w1 B1 c1, Dev w1 A n c A' m c' f S V → RV w1 B1 bs.length 1 (SV bs) → Calls Tryz.prog 116 #[DV A n c A' m c' f, .int .i64 p, .int .i64 st, .slice B1 bs.length c1] w1 (RetF w1 S (lays S bs st p V f))) :=
    Lib.hid (fun w1 B1 c1 hd hr => laid_any A n c A' m c' f S V p st B1 bs.length c1 bs w1 hd hr (by omega) h6 (by omega) (by omega) (by omega))
  generalize lays S bs st p V f = lx at *
  obtain ⟨N, hN⟩ : ∃ N, bs.length = N := ⟨_, rfl⟩
  rw [hN] at h3 h5 hll HLD ⊢
  have HN := Lib.hid hN
  clear hD h hk hT b3 h1 h2 hN
  by_cases he : e2 = 0
  · subst he
    rw [if_pos rfl]
    go_enter Tryz.func78, Tryz.ntmps78
    go_wp2_with fail
    with_reducible refine HC.out.mono ?_
    rintro r w1 ⟨B1, m1, c1, rfl, hr1, b1⟩
    obtain rfl : N = m1 := by rw [← HN.out]; exact hr1.sec
    have HB1 := Lib.hid ((((new1 w (D33 A n c A' m c' f)).push _).push _).call b1)
    have X0 := (((St.new w A n c A' m c' f 29).alloc _).alloc _).call b1
    have X2 := (by have := (St.new ((w.alloc (D33 A n c A' m c' f)).alloc (.cells #[.int .u8 k, .int .i64 g, .int .i64 no] 132)) none 0 0 none 0 0 0 29).call b1; rwa [World.size_alloc, World.size_alloc] at this : St w1 (w.heap.size + 1 + 1) none 0 0 none 0 0 0)
    have HX0 := Lib.hid X0
    have HX2 := Lib.hid X2
    obtain ⟨c0, c1_, c2, -, -, -⟩ := X0.box
    have HLa := Lib.hid (HLD.out w1 B1 c1 (HD.out.below HB1.out) hr1)
    unfold RetF RetDE at HLa
    clear b1 HC X0 X2 HD hr1 HLD
    rw [HFR.out] at HLa
    dsimp only at HLa
    go_wp2_with fail
    with_reducible refine HLa.out.mono ?_
    rintro r w2 ⟨A2, n2, c2', A2', m2, c2'', rfl, hd2, b2⟩
    have HD2 := Lib.hid hd2
    have HY0 := Lib.hid (HX0.out.call b2)
    have HY2 := Lib.hid (HX2.out.call b2)
    have HB2 := Lib.hid (HB1.out.call b2)
    obtain ⟨c0, c1_, c2, f0, f1, f2⟩ := HY0.out.box
    obtain ⟨r0, r1, r2, g0, g1, g2⟩ := HY2.out.box
    have hl2 := HY2.out.lt
    clear b2 hd2 HLa HX0 HX2
    go_wp2
    have hd3 := HD2.out.only HY0.out.ns (grown_set3 w2 w.heap.size (.slice A2 n2 c2') (.slice A2' m2 c2'') (.int .i64 F2))
    have hr3 := HY2.out.other (grown_set3 w2 w.heap.size (.slice A2 n2 c2') (.slice A2' m2 c2'') (.int .i64 F2)) (by omega)
    have hd4 := hd3.only hr3.ns (grown_set3 _ (w.heap.size + 1 + 1) (.slice A2 n2 c2') (.slice A2' m2 c2'') (.int .i64 F2))
    have hr4 := hr3.set3 A2 n2 c2' A2' m2 c2'' F2
    have hb4 := (HB2.out.set3 (Nat.le_refl _) (.slice A2 n2 c2') (.slice A2' m2 c2'') (.int .i64 F2)).set3 (g := w.heap.size + 1 + 1) (by omega) (.slice A2 n2 c2') (.slice A2' m2 c2'') (.int .i64 F2)
    dsimp only [set3] at hd4 hr4 hb4
    clear hd3 hr3
    generalize ((((((w2.setCell ⟨w.heap.size, 0, none⟩ (.slice A2 n2 c2')).setCell ⟨w.heap.size, 1, none⟩ (.slice A2' m2 c2'')).setCell ⟨w.heap.size, 2, none⟩ (.int .i64 F2)).setCell ⟨w.heap.size + 1 + 1, 0, none⟩ (.slice A2 n2 c2')).setCell ⟨w.heap.size + 1 + 1, 1, none⟩ (.slice A2' m2 c2'')).setCell ⟨w.heap.size + 1 + 1, 2, none⟩ (.int .i64 F2)) = wf at *
    obtain ⟨k0, k1, k2, -, -, -⟩ := hr4.box
    refine bodyPost_ret (v := .tuple #[DV A2 n2 c2' A2' m2 c2'' F2, .int .i64 (p + N), .int .i64 (st + N), .int .i64 0]) (by simp [results, Tryz.results78, go_sem, k0, k1, k2]) rfl ?_
    exact ⟨_, _, _, _, _, _, rfl, hd4, hb4⟩
  · have hne := neq0 he
    rw [if_neg he]
    clear he
    go_enter Tryz.func78, Tryz.ntmps78
    go_wp2_with fail
    with_reducible refine HC.out.mono ?_
    rintro r w1 ⟨B1, m1, c1, rfl, hr1, b1⟩
    obtain rfl : N = m1 := by rw [← HN.out]; exact hr1.sec
    have HB1 := Lib.hid ((((new1 w (D33 A n c A' m c' f)).push _).push _).call b1)
    have X0 := (((St.new w A n c A' m c' f 29).alloc _).alloc _).call b1
    have X2 := (by have := (St.new ((w.alloc (D33 A n c A' m c' f)).alloc (.cells #[.int .u8 k, .int .i64 g, .int .i64 no] 132)) none 0 0 none 0 0 0 29).call b1; rwa [World.size_alloc, World.size_alloc] at this : St w1 (w.heap.size + 1 + 1) none 0 0 none 0 0 0)
    have HX0 := Lib.hid X0
    have HX2 := Lib.hid X2
    obtain ⟨c0, c1_, c2, -, -, -⟩ := X0.box
    have HLa := Lib.hid (HLD.out w1 B1 c1 (HD.out.below HB1.out) hr1)
    unfold RetF RetDE at HLa
    clear b1 HC X0 X2 HD hr1 HLD
    rw [HFR.out] at HLa
    dsimp only at HLa
    go_wp2_with fail
    with_reducible refine HLa.out.mono ?_
    rintro r w2 ⟨A2, n2, c2', A2', m2, c2'', rfl, hd2, b2⟩
    have HD2 := Lib.hid hd2
    have HY0 := Lib.hid (HX0.out.call b2)
    have HY2 := Lib.hid (HX2.out.call b2)
    have HB2 := Lib.hid (HB1.out.call b2)
    obtain ⟨c0, c1_, c2, f0, f1, f2⟩ := HY0.out.box
    obtain ⟨r0, r1, r2, g0, g1, g2⟩ := HY2.out.box
    have hl2 := HY2.out.lt
    clear b2 hd2 HLa HX0 HX2
    go_wp2
    have hd3 := HD2.out.only HY0.out.ns (grown_set3 w2 w.heap.size (.slice A2 n2 c2') (.slice A2' m2 c2'') (.int .i64 F2))
    have hr3 := HY2.out.other (grown_set3 w2 w.heap.size (.slice A2 n2 c2') (.slice A2' m2 c2'') (.int .i64 F2)) (by omega)
    have hd4 := hd3.only hr3.ns (grown_set3 _ (w.heap.size + 1 + 1) (.slice A2 n2 c2') (.slice A2' m2 c2'') (.int .i64 F2))
    have hr4 := hr3.set3 A2 n2 c2' A2' m2 c2'' F2
    have hb4 := (HB2.out.set3 (Nat.le_refl _) (.slice A2 n2 c2') (.slice A2' m2 c2'') (.int .i64 F2)).set3 (g := w.heap.size + 1 + 1) (by omega) (.slice A2 n2 c2') (.slice A2' m2 c2'') (.int .i64 F2)
    dsimp only [set3] at hd4 hr4 hb4
    clear hd3 hr3
    generalize ((((((w2.setCell ⟨w.heap.size, 0, none⟩ (.slice A2 n2 c2')).setCell ⟨w.heap.size, 1, none⟩ (.slice A2' m2 c2'')).setCell ⟨w.heap.size, 2, none⟩ (.int .i64 F2)).setCell ⟨w.heap.size + 1 + 1, 0, none⟩ (.slice A2 n2 c2')).setCell ⟨w.heap.size + 1 + 1, 1, none⟩ (.slice A2' m2 c2'')).setCell ⟨w.heap.size + 1 + 1, 2, none⟩ (.int .i64 F2)) = wf at *
    obtain ⟨k0, k1, k2, -, -, -⟩ := hr4.box
    refine bodyPost_ret (v := .tuple #[DV A2 n2 c2' A2' m2 c2'' F2, .int .i64 p, .int .i64 st, .int .i64 e2]) (by simp [results, Tryz.results78, go_sem, k0, k1, k2]) rfl ?_
    exact ⟨_, _, _, _, _, _, rfl, hd4, hb4⟩

theorem pour_any (A : Option Addr) (n c : Nat) (A' : Option Addr) (m c' : Nat) (f : Int) (S : List ByteArray) (V : List Wr) (p q : Int) (k : Nat) (g no st : Int) (t : ByteArray) (w : World) (hD : Dev w A n c A' m c' f S V) (hk : k < 256) (hT : Tab w) :
    Calls Tryz.prog 78 #[DV A n c A' m c' f, .int .i64 p, .int .i64 q, HV k g no, .int .i64 st, .string t] w (RetP w (pourR S V f p q k g no st t)) := by
  unfold pourR
  by_cases h : pourE S V f p q k g no st t = 0
  · rw [if_pos h]
    exact pour_yes A n c A' m c' f S V p q k g no st t w hD hk hT h _ _ _ _ (Lib.hid rfl)
  · rw [if_neg h]
    exact pour_no A n c A' m c' f S V p q k g no st t w hD hk hT h

/-- Save: what is left. -/
def saveR (S : List ByteArray) (W : List Wr) (f slot g st : Int) (t : ByteArray) : Poured :=
  if isS slot = true then pourR S W f (slot * sizR S.length) ((slot + 1) * sizR S.length) 1 g 0 st t else ⟨S, W, f, 0, st, 2⟩
/-- What is answered: a device, a stamp, and an error. -/
def RetS (w : World) (x : Poured) (r : Ending) (w' : World) : Prop :=
  ∃ A n c A' m c', r = .returned (.tuple #[DV A n c A' m c' x.f, .int .i64 x.st, .int .i64 x.e]) ∧ Dev w' A n c A' m c' x.f x.S x.W ∧ Below w.heap.size w w'

theorem save_no (A : Option Addr) (n c : Nat) (A' : Option Addr) (m c' : Nat) (f : Int) (S : List ByteArray) (V : List Wr) (z g st : Int) (t : ByteArray) (w : World) (hD : Dev w A n c A' m c' f S V) (h : isS z = false) :
    Calls Tryz.prog 44 #[DV A n c A' m c' f, .int .i64 z, .int .i64 g, .int .i64 st, .string t] w (RetS w ⟨S, V, f, 0, st, 2⟩) := by
  have HC := Lib.hid (fun W => isSlot_any z W)
  rw [h] at HC
  have HD := Lib.hid hD
  clear hD h
  go_enter Tryz.func44, Tryz.ntmps44
  go_wp2_with (go_at_call 76; with_reducible refine (HC.out _).mono ?_; rintro r w1 ⟨rfl, rfl⟩)
  refine bodyPost_ret (v := .tuple #[DV A n c A' m c' f, .int .i64 st, .int .i64 2]) (by simp [results, Tryz.results44, go_sem]) rfl ?_
  exact ⟨_, _, _, _, _, _, rfl, (HD.out.new _).new _, (new1 _ _).push _⟩

set_option maxHeartbeats 1000000 in
theorem save_yes (A : Option Addr) (n c : Nat) (A' : Option Addr) (m c' : Nat) (f : Int) (S : List ByteArray) (V : List Wr) (z g st : Int) (t : ByteArray) (w : World) (hD : Dev w A n c A' m c' f S V) (hT : Tab w) (h : isS z = true)
    (S2 : List ByteArray) (V2 : List Wr) (F2 p2 st2 e2 : Int) (HPR : Hid (pourR S V f (z * sizR S.length) ((z + 1) * sizR S.length) 1 g 0 st t = ⟨S2, V2, F2, p2, st2, e2⟩)) :
    Calls Tryz.prog 44 #[DV A n c A' m c' f, .int .i64 z, .int .i64 g, .int .i64 st, .string t] w (RetS w ⟨S2, V2, F2, p2, st2, e2⟩) := by
  have HC := Lib.hid (fun W => isSlot_any z W)
  rw [h] at HC
  have HS := Lib.hid (fun W (hb : Below w.heap.size w W) => stretchOf_any A n c A' m c' f S V z W (hD.below hb) (isS_yes h))
  have HH := Lib.hid (fun W => headOf_any g W)
  have HP := Lib.hid (fun W (hb : Below w.heap.size w W) => pour_any A n c A' m c' f S V (z * sizR S.length) ((z + 1) * sizR S.length) 1 g 0 st t W (hD.below hb) (by decide) (Shf.tab_call hT hb))
  rw [HPR.out] at HP
  unfold RetP at HP
  dsimp only at HP
  generalize z * sizR S.length = p at *
  generalize (z + 1) * sizR S.length = q at *
  have HD := Lib.hid hD
  clear hD h hT HPR
  go_enter Tryz.func44, Tryz.ntmps44
  go_wp2_with (first | (go_at_call 76; with_reducible refine (HC.out _).mono ?_; rintro r w1 ⟨rfl, rfl⟩) | (go_at_call 77; with_reducible refine (HS.out _ ((new1 _ _).push _)).mono ?_; rintro r w1 ⟨rfl, rfl⟩))
  have hb0 : Below w.heap.size w (((w.alloc (D33 A n c A' m c' f)).alloc (D33 none 0 0 none 0 0 0)).alloc (D33 A n c A' m c' f)) := ((new1 _ _).push _).push _
  have X0 : St (((w.alloc (D33 A n c A' m c' f)).alloc (D33 none 0 0 none 0 0 0)).alloc (D33 A n c A' m c' f)) w.heap.size A n c A' m c' f := ((St.new w A n c A' m c' f 29).alloc _).alloc _
  have X1 : St (((w.alloc (D33 A n c A' m c' f)).alloc (D33 none 0 0 none 0 0 0)).alloc (D33 A n c A' m c' f)) (w.heap.size + 1) none 0 0 none 0 0 0 := (by have := St.new (w.alloc (D33 A n c A' m c' f)) none 0 0 none 0 0 0 29; rw [World.size_alloc] at this; exact this.alloc _)
  generalize (((w.alloc (D33 A n c A' m c' f)).alloc (D33 none 0 0 none 0 0 0)).alloc (D33 A n c A' m c' f)) = W0 at *
  have HB0 := Lib.hid hb0
  have HX0 := Lib.hid X0
  have HX1 := Lib.hid X1
  obtain ⟨c0, c1, c2, f0, f1, f2⟩ := X0.box
  have hl0 := X0.lt
  clear hb0 X0 X1 HC HS
  go_region_with (first
    | (go_at_call 79; with_reducible refine (HH.out _).mono ?_; rintro r w2 ⟨rfl, hb2⟩; have HB2 := Lib.hid (undrew hb2); obtain ⟨c0, c1, c2, -, -, -⟩ := (HX0.out.call (undrew hb2)).box; clear hb2)
    | (go_at_call 78; with_reducible refine (HP.out _ (HB0.out.call HB2.out)).mono ?_; rintro r w3 ⟨A2, n2, c2', A2', m2, c2'', rfl, hd2, b2⟩; have HD2 := Lib.hid hd2; have HY0 := Lib.hid ((HX0.out.call HB2.out).call b2); have HY1 := Lib.hid ((HX1.out.call HB2.out).call b2); have HB3 := Lib.hid ((HB0.out.call HB2.out).call b2); obtain ⟨c0, c1, c2, f0, f1, f2⟩ := HY0.out.box; clear hd2 b2))
  all_goals (
    obtain ⟨r0, r1, r2, g0, g1, g2⟩ := HY1.out.box
    have hl1 := HY1.out.lt
    go_wp2_with fail
    have hd3 := HD2.out.only HY0.out.ns (grown_set3 w3 w.heap.size (.slice A2 n2 c2') (.slice A2' m2 c2'') (.int .i64 F2))
    have hr3 := HY1.out.other (grown_set3 w3 w.heap.size (.slice A2 n2 c2') (.slice A2' m2 c2'') (.int .i64 F2)) (by omega)
    have hd4 := hd3.only hr3.ns (grown_set3 _ (w.heap.size + 1) (.slice A2 n2 c2') (.slice A2' m2 c2'') (.int .i64 F2))
    have hr4 := hr3.set3 A2 n2 c2' A2' m2 c2'' F2
    have hb4 := (HB3.out.set3 (Nat.le_refl _) (.slice A2 n2 c2') (.slice A2' m2 c2'') (.int .i64 F2)).set3 (g := w.heap.size + 1) (by omega) (.slice A2 n2 c2') (.slice A2' m2 c2'') (.int .i64 F2)
    dsimp only [set3] at hd4 hr4 hb4
    clear hd3 hr3
    generalize ((((((w3.setCell ⟨w.heap.size, 0, none⟩ (.slice A2 n2 c2')).setCell ⟨w.heap.size, 1, none⟩ (.slice A2' m2 c2'')).setCell ⟨w.heap.size, 2, none⟩ (.int .i64 F2)).setCell ⟨w.heap.size + 1, 0, none⟩ (.slice A2 n2 c2')).setCell ⟨w.heap.size + 1, 1, none⟩ (.slice A2' m2 c2'')).setCell ⟨w.heap.size + 1, 2, none⟩ (.int .i64 F2)) = wf at *
    obtain ⟨k0, k1, k2, -, -, -⟩ := hr4.box
    refine bodyPost_ret (v := .tuple #[DV A2 n2 c2' A2' m2 c2'' F2, .int .i64 st2, .int .i64 e2]) (by simp [results, Tryz.results44, go_sem, k0, k1, k2]) rfl ?_
    exact ⟨_, _, _, _, _, _, rfl, hd4, hb4⟩)

theorem save_any (A : Option Addr) (n c : Nat) (A' : Option Addr) (m c' : Nat) (f : Int) (S : List ByteArray) (V : List Wr) (z g st : Int) (t : ByteArray) (w : World) (hD : Dev w A n c A' m c' f S V) (hT : Tab w) :
    Calls Tryz.prog 44 #[DV A n c A' m c' f, .int .i64 z, .int .i64 g, .int .i64 st, .string t] w (RetS w (saveR S V f z g st t)) := by
  unfold saveR
  by_cases h : isS z = true
  · rw [if_pos h]
    exact save_yes A n c A' m c' f S V z g st t w hD hT h _ _ _ _ _ _ (Lib.hid rfl)
  · rw [if_neg h]
    exact save_no A n c A' m c' f S V z g st t w hD (by simpa using h)

end Go.Proofs.YtkglolnghihegaaGreatDoor.Slt
