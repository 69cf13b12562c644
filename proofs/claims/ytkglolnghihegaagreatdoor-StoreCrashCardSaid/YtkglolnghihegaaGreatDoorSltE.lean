import Derived.Test.YtkglolnghihegaaGreatDoorSltA
import Derived.Test.YtkglolnghihegaaGreatDoorSlotsSave
import Derived.Test.YtkglolnghihegaaGreatDoorSheafRLay
import Derived.Test.YtkglolnghihegaaGreatDoorSheetRefS
import Derived.Test.YtkglolnghihegaaGreatDoorDskR

/- Contract of the document's Pour of package slots. -/
namespace Go.Proofs.YtkglolnghihegaaGreatDoor.Slt
open Go.RowKit Go.Proofs.YtkglolnghihegaaGreatDoor.Dsk Go.Proofs.YtkglolnghihegaaGreatDoor.Sht Go.Proofs.YtkglolnghihegaaGreatDoor.Shf

section
variable {S : List ByteArray} {W : List Wr} {f p q g n st : Int} {k : Nat} {t : ByteArray}
theorem pourR_no (h : ¬ pourE S W f p q k g n st t = 0) : pourR S W f p q k g n st t = ⟨S, W, f, p, st, pourE S W f p q k g n st t⟩ := by unfold pourR; rw [if_neg h]
theorem pourR_err (h : pourE S W f p q k g n st t = 0) {W1 : List Wr} {f1 e : Int} (hR : lays S (layS k g n t) st p W f = (W1, f1, e)) (he : ¬ e = 0) : pourR S W f p q k g n st t = ⟨S, W1, f1, p, st, e⟩ := by
  unfold pourR
  rw [if_pos h, hR]
  unfold flushR
  dsimp only
  rw [if_neg he]
  dsimp only
  rw [if_neg he]
theorem pourR_fl (h : pourE S W f p q k g n st t = 0) {W1 : List Wr} {f1 : Int} (hR : lays S (layS k g n t) st p W f = (W1, f1, 0)) (he : ¬ flushE S W1 f1 = 0) : pourR S W f p q k g n st t = ⟨S, W1, f1, p, st, flushE S W1 f1⟩ := by
  unfold pourR
  rw [if_pos h, hR]
  unfold flushR
  dsimp only
  rw [if_pos rfl, if_neg he]
  dsimp only
  rw [if_neg he]
theorem pourR_ok (h : pourE S W f p q k g n st t = 0) {W1 : List Wr} {f1 : Int} (hR : lays S (layS k g n t) st p W f = (W1, f1, 0)) (he : flushE S W1 f1 = 0) : pourR S W f p q k g n st t = ⟨goAll S W1 (fun _ => 64), [], burnt f1, p + (layS k g n t).length, st + (layS k g n t).length, 0⟩ := by
  unfold pourR
  rw [if_pos h, hR]
  unfold flushR
  dsimp only
  rw [if_pos rfl, if_pos he]
  dsimp only
  rw [if_pos rfl]
end

/-- What is kept in the loop. -/
structure PInv (w wr : World) (A : Option Addr) (n c : Nat) (A' : Option Addr) (m c' : Nat) (f : Int) (S : List ByteArray) (W : List Wr) (bs : List ByteArray) (st p : Int) (R : List Wr × Int × Int) (j : Nat) : Prop where
  bel : Below w.heap.size w wr
  box : St wr w.heap.size A n c A' m c' f
  dev : Dev wr A n c A' m c' f S W
  res : St wr (w.heap.size + 2) none 0 0 none 0 0 0
  eq : lays S (bs.drop j) (st + j) (p + j) W f = R
theorem PInv.call {w wr w' : World} {A : Option Addr} {n c : Nat} {A' : Option Addr} {m c' : Nat} {f : Int} {S : List ByteArray} {W : List Wr} {bs : List ByteArray} {st p : Int} {R : List Wr × Int × Int} {j : Nat}
    (h : PInv w wr A n c A' m c' f S W bs st p R j) (hb : Below wr.heap.size wr w') : PInv w w' A n c A' m c' f S W bs st p R j :=
  ⟨h.bel.call hb, h.box.call hb, h.dev.below hb, h.res.call hb, h.eq⟩
/-- An answer is written. -/
theorem put_res {w wr : World} {B : Option Addr} {p d : Nat} {B' : Option Addr} {q d' : Nat} {f : Int} {S : List ByteArray} {W : List Wr} (hb : Below w.heap.size w wr) (hr : St wr (w.heap.size + 2) none 0 0 none 0 0 0) (hd : Dev wr B p d B' q d' f S W) :
    Below w.heap.size w (set3 wr (w.heap.size + 2) (.slice B p d) (.slice B' q d') (.int .i64 f)) ∧ Dev (set3 wr (w.heap.size + 2) (.slice B p d) (.slice B' q d') (.int .i64 f)) B p d B' q d' f S W ∧ Box (set3 wr (w.heap.size + 2) (.slice B p d) (.slice B' q d') (.int .i64 f)) (w.heap.size + 2) (.slice B p d) (.slice B' q d') (.int .i64 f) :=
  ⟨hb.grown (grown_set3 _ _ _ _ _) hb.size (by simp), hd.only hr.ns (grown_set3 _ _ _ _ _), (hr.set3 _ _ _ _ _ _ _).box⟩
theorem put_res2 (o : Obj) {w wr : World} {B : Option Addr} {p d : Nat} {B' : Option Addr} {q d' : Nat} {f : Int} {S : List ByteArray} {W : List Wr} (hb : Below w.heap.size w wr) (hr : St wr (w.heap.size + 2) none 0 0 none 0 0 0) (hd : Dev wr B p d B' q d' f S W) :
    Below w.heap.size w ((set3 wr (w.heap.size + 1 + 1) (.slice B p d) (.slice B' q d') (.int .i64 f)).alloc o) ∧ Dev ((set3 wr (w.heap.size + 1 + 1) (.slice B p d) (.slice B' q d') (.int .i64 f)).alloc o) B p d B' q d' f S W ∧ Box ((set3 wr (w.heap.size + 1 + 1) (.slice B p d) (.slice B' q d') (.int .i64 f)).alloc o) (w.heap.size + 1 + 1) (.slice B p d) (.slice B' q d') (.int .i64 f) := by
  obtain ⟨h1, h2, h3⟩ := put_res hb hr hd
  exact ⟨h1.push o, h2.new o, h3.call (new1 _ o)⟩

section
variable (A : Option Addr) (n c : Nat) (A' : Option Addr) (m c' : Nat) (f : Int) (S : List ByteArray) (V : List Wr) (p q : Int) (k : Nat) (g no st : Int) (t : ByteArray) (w : World) (hD : Dev w A n c A' m c' f S V)
include hD

set_option maxHeartbeats 1000000 in
theorem rpour_2 (h : okS S V f p q = false) : Calls Tryz.prog 80 #[DV A n c A' m c' f, .int .i64 p, .int .i64 q, HV k g no, .int .i64 st, .string t] w (RetP w ⟨S, V, f, p, st, 2⟩) := by
  have hb0 := (((new1 w (D25 A n c A' m c' f)).push (.cells #[.int .u8 k, .int .i64 g, .int .i64 no] 139)).push (D25 none 0 0 none 0 0 0))
  have hx := ((St.new w A n c A' m c' f 25).alloc (.cells #[.int .u8 k, .int .i64 g, .int .i64 no] 139)).alloc (D25 none 0 0 none 0 0 0)
  have hh := by have := (Box.new (w.alloc (D25 A n c A' m c' f)) (.int .u8 k) (.int .i64 g) (.int .i64 no) 139).call (new1 _ (D25 none 0 0 none 0 0 0)); rwa [World.size_alloc] at this
  have hr := by have := St.new ((w.alloc (D25 A n c A' m c' f)).alloc (.cells #[.int .u8 k, .int .i64 g, .int .i64 no] 139)) none 0 0 none 0 0 0 25; rwa [World.size_alloc, World.size_alloc] at this
  have HB0 := Lib.hid hb0
  have HXx := Lib.hid hx
  have HHh := Lib.hid hh
  have HRr := Lib.hid hr
  have HD := Lib.hid hD
  have HC := Lib.hid (fun W (hb : Below w.heap.size w W) => rmay_any A n c A' m c' f S V p q W (hD.below hb))
  rw [h] at HC
  clear hD hb0 hx hh hr h
  go_enter Tryz.func80, Tryz.ntmps80
  go_wp2_with fail
  with_reducible refine (HC.out _ HB0.out).mono ?_
  rintro r w1 ⟨rfl, b1⟩
  have HB1 := Lib.hid (HB0.out.call b1)
  have HX1 := Lib.hid (HXx.out.call b1)
  have HH1 := Lib.hid (HHh.out.call b1)
  have HR1 := Lib.hid (HRr.out.call b1)
  clear b1 HC HB0 HXx HHh HRr
  obtain ⟨c0, c1_, c2, f0, f1_, f2⟩ := HX1.out.box
  obtain ⟨h0, h1_, h2, -, -, -⟩ := HH1.out
  obtain ⟨r0, r1, r2, r3, r4, r5⟩ := HR1.out.box
  have hl0 := HX1.out.lt
  have hl1 := HH1.out.lt
  have hl2 := HR1.out.lt
  go_wp2_with fail
  obtain ⟨hbf, hdf, hxf⟩ := put_res HB1.out HR1.out (HD.out.below HB1.out)
  clear r0 r1 r2 r3 r4 r5
  obtain ⟨k0, k1, k2, -, -, -⟩ := hxf
  refine bodyPost_ret (v := .tuple #[DV A n c A' m c' f, .int .i64 (p), .int .i64 (st), .int .i64 2]) (by simp [results, Tryz.results80, go_sem, k0, k1, k2]) rfl ?_
  exact ⟨_, _, _, _, _, _, rfl, hdf, hbf⟩

set_option maxHeartbeats 1000000 in
theorem rpour_l (hk : k < 256) (h : okS S V f p q = true) (he : ¬ errL g no t = 0) : Calls Tryz.prog 80 #[DV A n c A' m c' f, .int .i64 p, .int .i64 q, HV k g no, .int .i64 st, .string t] w (RetP w ⟨S, V, f, p, st, errL g no t⟩) := by
  have hb0 := (((new1 w (D25 A n c A' m c' f)).push (.cells #[.int .u8 k, .int .i64 g, .int .i64 no] 139)).push (D25 none 0 0 none 0 0 0))
  have hx := ((St.new w A n c A' m c' f 25).alloc (.cells #[.int .u8 k, .int .i64 g, .int .i64 no] 139)).alloc (D25 none 0 0 none 0 0 0)
  have hh := by have := (Box.new (w.alloc (D25 A n c A' m c' f)) (.int .u8 k) (.int .i64 g) (.int .i64 no) 139).call (new1 _ (D25 none 0 0 none 0 0 0)); rwa [World.size_alloc] at this
  have hr := by have := St.new ((w.alloc (D25 A n c A' m c' f)).alloc (.cells #[.int .u8 k, .int .i64 g, .int .i64 no] 139)) none 0 0 none 0 0 0 25; rwa [World.size_alloc, World.size_alloc] at this
  have HB0 := Lib.hid hb0
  have HXx := Lib.hid hx
  have HHh := Lib.hid hh
  have HRr := Lib.hid hr
  have HD := Lib.hid hD
  have HC := Lib.hid (fun W (hb : Below w.heap.size w W) => rmay_any A n c A' m c' f S V p q W (hD.below hb))
  have HLy := Lib.hid (fun W (hb : Below w.heap.size w W) => rlay_any k g no t W hk)
  unfold RetLay at HLy
  rw [h] at HC
  have hne := neq0 he
  generalize layS k g no t = bs at *
  generalize errL g no t = e0 at *
  clear hD hb0 hx hh hr h
  go_enter Tryz.func80, Tryz.ntmps80
  go_wp2_with fail
  with_reducible refine (HC.out _ HB0.out).mono ?_
  rintro r w1 ⟨rfl, b1⟩
  have HB1 := Lib.hid (HB0.out.call b1)
  have HX1 := Lib.hid (HXx.out.call b1)
  have HH1 := Lib.hid (HHh.out.call b1)
  have HR1 := Lib.hid (HRr.out.call b1)
  clear b1 HC HB0 HXx HHh HRr
  obtain ⟨c0, c1_, c2, f0, f1_, f2⟩ := HX1.out.box
  obtain ⟨h0, h1_, h2, -, -, -⟩ := HH1.out
  obtain ⟨r0, r1, r2, r3, r4, r5⟩ := HR1.out.box
  have hl0 := HX1.out.lt
  have hl1 := HH1.out.lt
  have hl2 := HR1.out.lt
  go_wp2_with fail
  with_reducible refine (HLy.out _ HB1.out).mono ?_
  rintro r w2 ⟨B1, N1, cb, rfl, hv, b2, hbc⟩
  have HB2 := Lib.hid (HB1.out.call b2)
  have HX2 := Lib.hid (HX1.out.call b2)
  have HR2 := Lib.hid (HR1.out.call b2)
  have HV2 := Lib.hid hv
  have hN1 := hv.sec
  clear c0 c1_ c2 f0 f1_ f2 h0 h1_ h2 r0 r1 r2 r3 r4 r5 hl0 hl1 hl2 b2 hv HLy HB1 HX1 HR1 HH1
  obtain ⟨c0, c1_, c2, f0, f1_, f2⟩ := HX2.out.box
  obtain ⟨r0, r1, r2, r3, r4, r5⟩ := HR2.out.box
  have hl0 := HX2.out.lt
  have hl2 := HR2.out.lt
  go_wp2_with fail
  obtain ⟨hbf, hdf, hxf⟩ := put_res HB2.out HR2.out (HD.out.below HB2.out)
  clear r0 r1 r2 r3 r4 r5
  obtain ⟨k0, k1, k2, -, -, -⟩ := hxf
  refine bodyPost_ret (v := .tuple #[DV A n c A' m c' f, .int .i64 (p), .int .i64 (st), .int .i64 e0]) (by simp [results, Tryz.results80, go_sem, k0, k1, k2]) rfl ?_
  exact ⟨_, _, _, _, _, _, rfl, hdf, hbf⟩

set_option maxHeartbeats 1000000 in
theorem rpour_7 (hk : k < 256) (h : okS S V f p q = true) (he : errL g no t = 0) (h7 : ¬ ((layS k g no t).length : Int) ≤ q - p) : Calls Tryz.prog 80 #[DV A n c A' m c' f, .int .i64 p, .int .i64 q, HV k g no, .int .i64 st, .string t] w (RetP w ⟨S, V, f, p, st, 7⟩) := by
  have hb0 := (((new1 w (D25 A n c A' m c' f)).push (.cells #[.int .u8 k, .int .i64 g, .int .i64 no] 139)).push (D25 none 0 0 none 0 0 0))
  have hx := ((St.new w A n c A' m c' f 25).alloc (.cells #[.int .u8 k, .int .i64 g, .int .i64 no] 139)).alloc (D25 none 0 0 none 0 0 0)
  have hh := by have := (Box.new (w.alloc (D25 A n c A' m c' f)) (.int .u8 k) (.int .i64 g) (.int .i64 no) 139).call (new1 _ (D25 none 0 0 none 0 0 0)); rwa [World.size_alloc] at this
  have hr := by have := St.new ((w.alloc (D25 A n c A' m c' f)).alloc (.cells #[.int .u8 k, .int .i64 g, .int .i64 no] 139)) none 0 0 none 0 0 0 25; rwa [World.size_alloc, World.size_alloc] at this
  have HB0 := Lib.hid hb0
  have HXx := Lib.hid hx
  have HHh := Lib.hid hh
  have HRr := Lib.hid hr
  have HD := Lib.hid hD
  have HC := Lib.hid (fun W (hb : Below w.heap.size w W) => rmay_any A n c A' m c' f S V p q W (hD.below hb))
  have HLy := Lib.hid (fun W (hb : Below w.heap.size w W) => rlay_any k g no t W hk)
  unfold RetLay at HLy
  obtain ⟨hc0, hp0, hpq, hqn⟩ := okS_yes h
  have hn5 : (S.length : Int) ≤ 512 := by obtain ⟨⟨-, h2, -⟩, -⟩ := chk_ok hc0; omega
  have hLl := (layS_len k he).2
  rw [h] at HC
  rw [he] at HLy
  generalize layS k g no t = bs at *
  clear hD hb0 hx hh hr h
  go_enter Tryz.func80, Tryz.ntmps80
  go_wp2_with fail
  with_reducible refine (HC.out _ HB0.out).mono ?_
  rintro r w1 ⟨rfl, b1⟩
  have HB1 := Lib.hid (HB0.out.call b1)
  have HX1 := Lib.hid (HXx.out.call b1)
  have HH1 := Lib.hid (HHh.out.call b1)
  have HR1 := Lib.hid (HRr.out.call b1)
  clear b1 HC HB0 HXx HHh HRr
  obtain ⟨c0, c1_, c2, f0, f1_, f2⟩ := HX1.out.box
  obtain ⟨h0, h1_, h2, -, -, -⟩ := HH1.out
  obtain ⟨r0, r1, r2, r3, r4, r5⟩ := HR1.out.box
  have hl0 := HX1.out.lt
  have hl1 := HH1.out.lt
  have hl2 := HR1.out.lt
  go_wp2_with fail
  with_reducible refine (HLy.out _ HB1.out).mono ?_
  rintro r w2 ⟨B1, N1, cb, rfl, hv, b2, hbc⟩
  have HB2 := Lib.hid (HB1.out.call b2)
  have HX2 := Lib.hid (HX1.out.call b2)
  have HR2 := Lib.hid (HR1.out.call b2)
  have HV2 := Lib.hid hv
  have hN1 := hv.sec
  clear c0 c1_ c2 f0 f1_ f2 h0 h1_ h2 r0 r1 r2 r3 r4 r5 hl0 hl1 hl2 b2 hv HLy HB1 HX1 HR1 HH1
  obtain ⟨c0, c1_, c2, f0, f1_, f2⟩ := HX2.out.box
  obtain ⟨r0, r1, r2, r3, r4, r5⟩ := HR2.out.box
  have hl0 := HX2.out.lt
  have hl2 := HR2.out.lt
  have h7b : q - p < (N1 : Int) := by omega
  clear h7 hn5 hqn
  go_wp2_with fail
  obtain ⟨hbf, hdf, hxf⟩ := put_res HB2.out HR2.out (HD.out.below HB2.out)
  clear r0 r1 r2 r3 r4 r5
  obtain ⟨k0, k1, k2, -, -, -⟩ := hxf
  refine bodyPost_ret (v := .tuple #[DV A n c A' m c' f, .int .i64 (p), .int .i64 (st), .int .i64 7]) (by simp [results, Tryz.results80, go_sem, k0, k1, k2]) rfl ?_
  exact ⟨_, _, _, _, _, _, rfl, hdf, hbf⟩

set_option maxHeartbeats 1000000 in
theorem rpour_8a (hk : k < 256) (h : okS S V f p q = true) (he : errL g no t = 0) (h7 : ((layS k g no t).length : Int) ≤ q - p) (h8 : ¬ 1 ≤ st) : Calls Tryz.prog 80 #[DV A n c A' m c' f, .int .i64 p, .int .i64 q, HV k g no, .int .i64 st, .string t] w (RetP w ⟨S, V, f, p, st, 8⟩) := by
  have hb0 := (((new1 w (D25 A n c A' m c' f)).push (.cells #[.int .u8 k, .int .i64 g, .int .i64 no] 139)).push (D25 none 0 0 none 0 0 0))
  have hx := ((St.new w A n c A' m c' f 25).alloc (.cells #[.int .u8 k, .int .i64 g, .int .i64 no] 139)).alloc (D25 none 0 0 none 0 0 0)
  have hh := by have := (Box.new (w.alloc (D25 A n c A' m c' f)) (.int .u8 k) (.int .i64 g) (.int .i64 no) 139).call (new1 _ (D25 none 0 0 none 0 0 0)); rwa [World.size_alloc] at this
  have hr := by have := St.new ((w.alloc (D25 A n c A' m c' f)).alloc (.cells #[.int .u8 k, .int .i64 g, .int .i64 no] 139)) none 0 0 none 0 0 0 25; rwa [World.size_alloc, World.size_alloc] at this
  have HB0 := Lib.hid hb0
  have HXx := Lib.hid hx
  have HHh := Lib.hid hh
  have HRr := Lib.hid hr
  have HD := Lib.hid hD
  have HC := Lib.hid (fun W (hb : Below w.heap.size w W) => rmay_any A n c A' m c' f S V p q W (hD.below hb))
  have HLy := Lib.hid (fun W (hb : Below w.heap.size w W) => rlay_any k g no t W hk)
  unfold RetLay at HLy
  obtain ⟨hc0, hp0, hpq, hqn⟩ := okS_yes h
  have hn5 : (S.length : Int) ≤ 512 := by obtain ⟨⟨-, h2, -⟩, -⟩ := chk_ok hc0; omega
  have hLl := (layS_len k he).2
  rw [h] at HC
  rw [he] at HLy
  generalize layS k g no t = bs at *
  clear hD hb0 hx hh hr h
  go_enter Tryz.func80, Tryz.ntmps80
  go_wp2_with fail
  with_reducible refine (HC.out _ HB0.out).mono ?_
  rintro r w1 ⟨rfl, b1⟩
  have HB1 := Lib.hid (HB0.out.call b1)
  have HX1 := Lib.hid (HXx.out.call b1)
  have HH1 := Lib.hid (HHh.out.call b1)
  have HR1 := Lib.hid (HRr.out.call b1)
  clear b1 HC HB0 HXx HHh HRr
  obtain ⟨c0, c1_, c2, f0, f1_, f2⟩ := HX1.out.box
  obtain ⟨h0, h1_, h2, -, -, -⟩ := HH1.out
  obtain ⟨r0, r1, r2, r3, r4, r5⟩ := HR1.out.box
  have hl0 := HX1.out.lt
  have hl1 := HH1.out.lt
  have hl2 := HR1.out.lt
  go_wp2_with fail
  with_reducible refine (HLy.out _ HB1.out).mono ?_
  rintro r w2 ⟨B1, N1, cb, rfl, hv, b2, hbc⟩
  have HB2 := Lib.hid (HB1.out.call b2)
  have HX2 := Lib.hid (HX1.out.call b2)
  have HR2 := Lib.hid (HR1.out.call b2)
  have HV2 := Lib.hid hv
  have hN1 := hv.sec
  clear c0 c1_ c2 f0 f1_ f2 h0 h1_ h2 r0 r1 r2 r3 r4 r5 hl0 hl1 hl2 b2 hv HLy HB1 HX1 HR1 HH1
  obtain ⟨c0, c1_, c2, f0, f1_, f2⟩ := HX2.out.box
  obtain ⟨r0, r1, r2, r3, r4, r5⟩ := HR2.out.box
  have hl0 := HX2.out.lt
  have hl2 := HR2.out.lt
  have h7b : (N1 : Int) ≤ q - p := by omega
  have h8b : st < 1 := by omega
  go_wp2_with fail
  obtain ⟨hbf, hdf, hxf⟩ := put_res HB2.out HR2.out (HD.out.below HB2.out)
  clear r0 r1 r2 r3 r4 r5
  obtain ⟨k0, k1, k2, -, -, -⟩ := hxf
  refine bodyPost_ret (v := .tuple #[DV A n c A' m c' f, .int .i64 (p), .int .i64 (st), .int .i64 8]) (by simp [results, Tryz.results80, go_sem, k0, k1, k2]) rfl ?_
  exact ⟨_, _, _, _, _, _, rfl, hdf, hbf⟩

set_option maxHeartbeats 1000000 in
theorem rpour_8b (hk : k < 256) (h : okS S V f p q = true) (he : errL g no t = 0) (h7 : ((layS k g no t).length : Int) ≤ q - p) (h8 : 1 ≤ st) (h9 : ¬ st ≤ 1099511627776 - (((layS k g no t).length : Int) - 1)) : Calls Tryz.prog 80 #[DV A n c A' m c' f, .int .i64 p, .int .i64 q, HV k g no, .int .i64 st, .string t] w (RetP w ⟨S, V, f, p, st, 8⟩) := by
  have hb0 := (((new1 w (D25 A n c A' m c' f)).push (.cells #[.int .u8 k, .int .i64 g, .int .i64 no] 139)).push (D25 none 0 0 none 0 0 0))
  have hx := ((St.new w A n c A' m c' f 25).alloc (.cells #[.int .u8 k, .int .i64 g, .int .i64 no] 139)).alloc (D25 none 0 0 none 0 0 0)
  have hh := by have := (Box.new (w.alloc (D25 A n c A' m c' f)) (.int .u8 k) (.int .i64 g) (.int .i64 no) 139).call (new1 _ (D25 none 0 0 none 0 0 0)); rwa [World.size_alloc] at this
  have hr := by have := St.new ((w.alloc (D25 A n c A' m c' f)).alloc (.cells #[.int .u8 k, .int .i64 g, .int .i64 no] 139)) none 0 0 none 0 0 0 25; rwa [World.size_alloc, World.size_alloc] at this
  have HB0 := Lib.hid hb0
  have HXx := Lib.hid hx
  have HHh := Lib.hid hh
  have HRr := Lib.hid hr
  have HD := Lib.hid hD
  have HC := Lib.hid (fun W (hb : Below w.heap.size w W) => rmay_any A n c A' m c' f S V p q W (hD.below hb))
  have HLy := Lib.hid (fun W (hb : Below w.heap.size w W) => rlay_any k g no t W hk)
  unfold RetLay at HLy
  obtain ⟨hc0, hp0, hpq, hqn⟩ := okS_yes h
  have hn5 : (S.length : Int) ≤ 512 := by obtain ⟨⟨-, h2, -⟩, -⟩ := chk_ok hc0; omega
  have hLl := (layS_len k he).2
  rw [h] at HC
  rw [he] at HLy
  generalize layS k g no t = bs at *
  clear hD hb0 hx hh hr h
  go_enter Tryz.func80, Tryz.ntmps80
  go_wp2_with fail
  with_reducible refine (HC.out _ HB0.out).mono ?_
  rintro r w1 ⟨rfl, b1⟩
  have HB1 := Lib.hid (HB0.out.call b1)
  have HX1 := Lib.hid (HXx.out.call b1)
  have HH1 := Lib.hid (HHh.out.call b1)
  have HR1 := Lib.hid (HRr.out.call b1)
  clear b1 HC HB0 HXx HHh HRr
  obtain ⟨c0, c1_, c2, f0, f1_, f2⟩ := HX1.out.box
  obtain ⟨h0, h1_, h2, -, -, -⟩ := HH1.out
  obtain ⟨r0, r1, r2, r3, r4, r5⟩ := HR1.out.box
  have hl0 := HX1.out.lt
  have hl1 := HH1.out.lt
  have hl2 := HR1.out.lt
  go_wp2_with fail
  with_reducible refine (HLy.out _ HB1.out).mono ?_
  rintro r w2 ⟨B1, N1, cb, rfl, hv, b2, hbc⟩
  have HB2 := Lib.hid (HB1.out.call b2)
  have HX2 := Lib.hid (HX1.out.call b2)
  have HR2 := Lib.hid (HR1.out.call b2)
  have HV2 := Lib.hid hv
  have hN1 := hv.sec
  clear c0 c1_ c2 f0 f1_ f2 h0 h1_ h2 r0 r1 r2 r3 r4 r5 hl0 hl1 hl2 b2 hv HLy HB1 HX1 HR1 HH1
  obtain ⟨c0, c1_, c2, f0, f1_, f2⟩ := HX2.out.box
  obtain ⟨r0, r1, r2, r3, r4, r5⟩ := HR2.out.box
  have hl0 := HX2.out.lt
  have hl2 := HR2.out.lt
  have h7b : (N1 : Int) ≤ q - p := by omega
  have hb1 : decide (st < 1) = false := by simp; omega
  have hN5 : (N1 : Int) ≤ 500 := by omega
  have h9b : 1099511627776 - (N1 : Int) + 1 < st := by omega
  go_wp2_with fail
  obtain ⟨hbf, hdf, hxf⟩ := put_res HB2.out HR2.out (HD.out.below HB2.out)
  clear r0 r1 r2 r3 r4 r5
  obtain ⟨k0, k1, k2, -, -, -⟩ := hxf
  refine bodyPost_ret (v := .tuple #[DV A n c A' m c' f, .int .i64 (p), .int .i64 (st), .int .i64 8]) (by simp [results, Tryz.results80, go_sem, k0, k1, k2]) rfl ?_
  exact ⟨_, _, _, _, _, _, rfl, hdf, hbf⟩

set_option maxRecDepth 100000 in
set_option maxHeartbeats 4000000 in
theorem rpour_yes (hk : k < 256) (h : pourE S V f p q k g no st t = 0) (X : Poured) (hX : pourR S V f p q k g no st t = X) : Calls Tryz.prog 80 #[DV A n c A' m c' f, .int .i64 p, .int .i64 q, HV k g no, .int .i64 st, .string t] w (RetP w X) := by
  obtain ⟨hok, he, h7, h8, h9⟩ := pourE_ok h
  have hb0 := (((new1 w (D25 A n c A' m c' f)).push (.cells #[.int .u8 k, .int .i64 g, .int .i64 no] 139)).push (D25 none 0 0 none 0 0 0))
  have hx := ((St.new w A n c A' m c' f 25).alloc (.cells #[.int .u8 k, .int .i64 g, .int .i64 no] 139)).alloc (D25 none 0 0 none 0 0 0)
  have hh := by have := (Box.new (w.alloc (D25 A n c A' m c' f)) (.int .u8 k) (.int .i64 g) (.int .i64 no) 139).call (new1 _ (D25 none 0 0 none 0 0 0)); rwa [World.size_alloc] at this
  have hr := by have := St.new ((w.alloc (D25 A n c A' m c' f)).alloc (.cells #[.int .u8 k, .int .i64 g, .int .i64 no] 139)) none 0 0 none 0 0 0 25; rwa [World.size_alloc, World.size_alloc] at this
  have HB0 := Lib.hid hb0
  have HXx := Lib.hid hx
  have HHh := Lib.hid hh
  have HRr := Lib.hid hr
  have HD := Lib.hid hD
  have HC := Lib.hid (fun W (hb : Below w.heap.size w W) => rmay_any A n c A' m c' f S V p q W (hD.below hb))
  have HLy := Lib.hid (fun W (hb : Below w.heap.size w W) => rlay_any k g no t W hk)
  unfold RetLay at HLy
  obtain ⟨hc0, hp0, hpq, hqn⟩ := okS_yes hok
  have hn5 : (S.length : Int) ≤ 512 := by obtain ⟨⟨-, h2, -⟩, -⟩ := chk_ok hc0; omega
  have hLl := (layS_len k he).2
  rw [hok] at HC
  rw [he] at HLy
  have HXe := Lib.hid (fun W1 f1 e (hR : lays S (layS k g no t) st p V f = (W1, f1, e)) h0 => hX.symm.trans (pourR_err h hR h0))
  have HXf := Lib.hid (fun W1 f1 (hR : lays S (layS k g no t) st p V f = (W1, f1, 0)) h0 => hX.symm.trans (pourR_fl h hR h0))
  have HXo := Lib.hid (fun W1 f1 (hR : lays S (layS k g no t) st p V f = (W1, f1, 0)) h0 => hX.symm.trans (pourR_ok h hR h0))
  generalize hbs : layS k g no t = bs at *
  generalize hRR : lays S bs st p V f = R at *
  clear hX hbs
  clear hD hb0 hx hh hr h hok
  go_enter Tryz.func80, Tryz.ntmps80
  go_wp2_with fail
  with_reducible refine (HC.out _ HB0.out).mono ?_
  rintro r w1 ⟨rfl, b1⟩
  have HB1 := Lib.hid (HB0.out.call b1)
  have HX1 := Lib.hid (HXx.out.call b1)
  have HH1 := Lib.hid (HHh.out.call b1)
  have HR1 := Lib.hid (HRr.out.call b1)
  clear b1 HC HB0 HXx HHh HRr
  obtain ⟨c0, c1_, c2, f0, f1_, f2⟩ := HX1.out.box
  obtain ⟨h0, h1_, h2, -, -, -⟩ := HH1.out
  obtain ⟨r0, r1, r2, r3, r4, r5⟩ := HR1.out.box
  have hl0 := HX1.out.lt
  have hl1 := HH1.out.lt
  have hl2 := HR1.out.lt
  go_wp2_with fail
  with_reducible refine (HLy.out _ HB1.out).mono ?_
  rintro r w2 ⟨B1, N1, cb, rfl, hv, b2, hbc⟩
  have HB2 := Lib.hid (HB1.out.call b2)
  have HX2 := Lib.hid (HX1.out.call b2)
  have HR2 := Lib.hid (HR1.out.call b2)
  have HV2 := Lib.hid hv
  have hN1 := hv.sec
  clear c0 c1_ c2 f0 f1_ f2 h0 h1_ h2 r0 r1 r2 r3 r4 r5 hl0 hl1 hl2 b2 hv HLy HB1 HX1 HR1 HH1
  obtain ⟨c0, c1_, c2, f0, f1_, f2⟩ := HX2.out.box
  obtain ⟨r0, r1, r2, r3, r4, r5⟩ := HR2.out.box
  have hl0 := HX2.out.lt
  have hl2 := HR2.out.lt
  have h7b : (N1 : Int) ≤ q - p := by omega
  have hb1 : decide (st < 1) = false := by simp; omega
  have hN5 : (N1 : Int) ≤ 500 := by omega
  have h9b : st ≤ 1099511627776 - (N1 : Int) + 1 := by omega
  have hdt : decide (1099511627776 - (N1 : Int) + 1 < st) = false := by simp; omega
  have HNb := Lib.hid hN1
  have H0 : Hid (PInv w w2 A n c A' m c' f S V bs st p R 0) := Lib.hid ⟨HB2.out, HX2.out, HD.out.below HB2.out, HR2.out, by simpa using hRR⟩
  rw [hN1] at HXo
  clear hN1 hRR h7 h9 hLl HD HX2 HR2
  go_wp2_with fail
  clear c0 c1_ c2 f0 f1_ f2 r0 r1 r2 r3 r4 r5 hl0 hl2
  go_loopw [18] (fun s18 wr => ∃ j : Nat, j ≤ N1 ∧ s18 = .int .i64 j ∧ Hid (RV wr B1 N1 1 (SV bs) ∧ ∃ A n c A' m c' f W, PInv w wr A n c A' m c' f S W bs st p R j)) (fun s18 _ => N1 - (intOf s18).toNat)
  case atStart => exact ⟨0, Nat.zero_le _, rfl, Lib.hid ⟨HV2.out, _, _, _, _, _, _, _, _, H0.out⟩⟩
  case round =>
    obtain ⟨j, hj, rfl, HI⟩ := hrel
    obtain ⟨hrv, A1, n1, c1, A1', m1, c1', f1, W1, hI⟩ := HI.out
    have HI1 := Lib.hid hI
    have HV3 := Lib.hid hrv
    obtain ⟨c0, c1_, c2, f0, f1_, f2⟩ := hI.box.box
    obtain ⟨r0, r1, r2, r3, r4, r5⟩ := hI.res.box
    have hl0 := hI.box.lt
    have hl2 := hI.res.lt
    clear hI HI H0 hrv
    by_cases hlt : j < N1
    · have hlb : j < bs.length := by have := HNb.out; omega
      obtain ⟨b, off, rfl, hb, hc⟩ := HV3.out.secAt hlt hlb
      have HE := Lib.hid HI1.out.eq
      rw [List.drop_eq_getElem_cons hlb] at HE
      generalize bs[j] = bd at *
      have HSe := Lib.hid (fun W => rseal_any (st + j) bd W)
      unfold lays at HE
      generalize (sealR (st + j) bd).1 = s at *
      generalize (sealR (st + j) bd).2 = z at *
      have HP := Lib.hid (fun W (h : Below wr.heap.size wr W) => rput_any A1 n1 c1 A1' m1 c1' f1 S W1 (p + j) s W (HI1.out.dev.below h))
      have hj2 : (j : Int) ≤ 500 := by omega
      by_cases hpe : putE S W1 f1 (p + j) s = 0
      · rw [hpe] at HP
        simp only [if_pos] at HP
        rw [if_pos hpe] at HE
        clear hlb hpe
        go_wp2_with fail
        with_reducible refine (HSe.out _).mono ?_
        rintro r w3 ⟨rfl, b3⟩
        have HI2 := Lib.hid (HI1.out.call b3)
        have HV4 := Lib.hid (HV3.out.below b3)
        have HPP := HP.out _ b3
        clear c0 c1_ c2 f0 f1_ f2 r0 r1 r2 r3 r4 r5 hl0 hl2
        obtain ⟨c0, c1_, c2, f0, f1_, f2⟩ := HI2.out.box.box
        obtain ⟨r0, r1, r2, r3, r4, r5⟩ := HI2.out.res.box
        have hl0 := HI2.out.box.lt
        have hl2 := HI2.out.res.lt
        clear b3 HP HSe hc hb
        go_wp2_with fail
        with_reducible refine HPP.mono ?_
        rintro r w4 ⟨A2, n2, d2, A2', m2, d2', rfl, hd2, b4⟩
        have HI3 := Lib.hid (HI2.out.call b4)
        have HD2 := Lib.hid hd2
        have HV5 := Lib.hid (HV4.out.below b4)
        clear c0 c1_ c2 f0 f1_ f2 r0 r1 r2 r3 r4 r5 hl0 hl2
        obtain ⟨c0, c1_, c2, f0, f1_, f2⟩ := (HI2.out.call b4).box.box
        obtain ⟨r0, r1, r2, r3, r4, r5⟩ := (HI2.out.call b4).res.box
        have hl0 := (HI2.out.call b4).box.lt
        have hl2 := (HI2.out.call b4).res.lt
        clear b4 hd2 HPP
        go_wp2_with fail
        go_roundw
        case rel =>
          have hnx : PInv w (set3 w4 w.heap.size (.slice A2 n2 d2) (.slice A2' m2 d2') (.int .i64 (burnt f1))) A2 n2 d2 A2' m2 d2' (burnt f1) S (W1 ++ [(p + j, s)]) bs st p R (j + 1) :=
            ⟨HI3.out.bel.set3 (Nat.le_refl _) _ _ _, HI3.out.box.set3 _ _ _ _ _ _ _, HD2.out.only HI3.out.box.ns (grown_set3 _ _ _ _ _), HI3.out.res.of_block ((grown_set3 _ _ _ _ _).block _ HI3.out.res.lt (by simp)), by rw [← HE.out, show st + ((j + 1 : Nat) : Int) = st + j + 1 by omega, show p + ((j + 1 : Nat) : Int) = p + j + 1 by omega]⟩
          exact ⟨j + 1, by omega, by go_num, Lib.hid ⟨(HV5.out.secOnly HI3.out.box.ns (grown_set3 _ _ _ _ _)).below (new1 _ _), A2, n2, d2, A2', m2, d2', burnt f1, W1 ++ [(p + j, s)], hnx.call (new1 _ _)⟩⟩
        case measure => simp [intOf]; omega
      · have hne := neq0 hpe
        rw [if_neg hpe, if_neg hpe] at HP
        rw [if_neg hpe] at HE
        have HXX := Lib.hid (HXe.out _ _ _ HE.out.symm hpe)
        generalize putE S W1 f1 (p + j) s = e at *
        clear hlb hpe
        go_wp2_with fail
        with_reducible refine (HSe.out _).mono ?_
        rintro r w3 ⟨rfl, b3⟩
        have HI2 := Lib.hid (HI1.out.call b3)
        have HPP := HP.out _ b3
        clear c0 c1_ c2 f0 f1_ f2 r0 r1 r2 r3 r4 r5 hl0 hl2
        obtain ⟨c0, c1_, c2, f0, f1_, f2⟩ := HI2.out.box.box
        obtain ⟨r0, r1, r2, r3, r4, r5⟩ := HI2.out.res.box
        have hl0 := HI2.out.box.lt
        have hl2 := HI2.out.res.lt
        clear b3 HP HSe hc hb
        go_wp2_with fail
        with_reducible refine HPP.mono ?_
        rintro r w4 ⟨A2, n2, d2, A2', m2, d2', rfl, hd2, b4⟩
        have HI3 := Lib.hid (HI2.out.call b4)
        have HD2 := Lib.hid hd2
        clear c0 c1_ c2 f0 f1_ f2 r0 r1 r2 r3 r4 r5 hl0 hl2
        obtain ⟨c0, c1_, c2, f0, f1_, f2⟩ := (HI2.out.call b4).box.box
        obtain ⟨r0, r1, r2, r3, r4, r5⟩ := (HI2.out.call b4).res.box
        have hl0 := (HI2.out.call b4).box.lt
        have hl2 := (HI2.out.call b4).res.lt
        clear b4 hd2 HPP
        go_wp2_with fail
        obtain ⟨hbf, hdf, hxf⟩ := put_res2 (D25 A2 n2 d2 A2' m2 d2' (f1)) HI3.out.bel HI3.out.res HD2.out
        clear r0 r1 r2 r3 r4 r5
        obtain ⟨k0, k1, k2, -, -, -⟩ := hxf
        refine bodyPost_ret (v := .tuple #[DV A2 n2 d2 A2' m2 d2' (f1), .int .i64 (p), .int .i64 (st), .int .i64 e]) (by simp [results, Tryz.results80, go_sem, k0, k1, k2]) rfl ?_
        rw [HXX.out]
        exact ⟨_, _, _, _, _, _, rfl, hdf, hbf⟩
    · obtain rfl : j = N1 := by omega
      have hE := HI1.out.eq
      rw [List.drop_eq_nil_of_le (by have := HNb.out; omega)] at hE
      unfold lays at hE
      have HF := Lib.hid (rflush_any A1 n1 c1 A1' m1 c1' f1 S W1 _ HI1.out.dev)
      by_cases hfl : flushE S W1 f1 = 0
      · have HXX := Lib.hid (HXo.out _ _ hE.symm hfl)
        rw [hfl] at HF
        simp only [if_pos] at HF
        generalize goAll S W1 (fun _ => 64) = S2 at *
        clear hE hfl
        go_wp2_with fail
        with_reducible refine HF.out.mono ?_
        rintro r w4 ⟨A2, n2, d2, A2', m2, d2', rfl, hd2, b4⟩
        have HI3 := Lib.hid (HI1.out.call b4)
        have HD2 := Lib.hid hd2
        clear c0 c1_ c2 f0 f1_ f2 r0 r1 r2 r3 r4 r5 hl0 hl2
        obtain ⟨c0, c1_, c2, f0, f1_, f2⟩ := (HI1.out.call b4).box.box
        obtain ⟨r0, r1, r2, r3, r4, r5⟩ := (HI1.out.call b4).res.box
        have hl0 := (HI1.out.call b4).box.lt
        have hl2 := (HI1.out.call b4).res.lt
        clear b4 hd2 HF
        go_wp2_with fail
        obtain ⟨hbf, hdf, hxf⟩ := put_res2 (D25 A2 n2 d2 A2' m2 d2' (burnt f1)) HI3.out.bel HI3.out.res HD2.out
        clear r0 r1 r2 r3 r4 r5
        obtain ⟨k0, k1, k2, -, -, -⟩ := hxf
        refine bodyPost_ret (v := .tuple #[DV A2 n2 d2 A2' m2 d2' (burnt f1), .int .i64 (p + j), .int .i64 (st + j), .int .i64 0]) (by simp [results, Tryz.results80, go_sem, k0, k1, k2]) rfl ?_
        rw [HXX.out]
        exact ⟨_, _, _, _, _, _, rfl, hdf, hbf⟩
      · have HXX := Lib.hid (HXf.out _ _ hE.symm hfl)
        have hne := neq0 hfl
        rw [if_neg hfl, if_neg hfl, if_neg hfl] at HF
        generalize flushE S W1 f1 = e at *
        clear hE hfl
        go_wp2_with fail
        with_reducible refine HF.out.mono ?_
        rintro r w4 ⟨A2, n2, d2, A2', m2, d2', rfl, hd2, b4⟩
        have HI3 := Lib.hid (HI1.out.call b4)
        have HD2 := Lib.hid hd2
        clear c0 c1_ c2 f0 f1_ f2 r0 r1 r2 r3 r4 r5 hl0 hl2
        obtain ⟨c0, c1_, c2, f0, f1_, f2⟩ := (HI1.out.call b4).box.box
        obtain ⟨r0, r1, r2, r3, r4, r5⟩ := (HI1.out.call b4).res.box
        have hl0 := (HI1.out.call b4).box.lt
        have hl2 := (HI1.out.call b4).res.lt
        clear b4 hd2 HF
        go_wp2_with fail
        obtain ⟨hbf, hdf, hxf⟩ := put_res2 (D25 A2 n2 d2 A2' m2 d2' (f1)) HI3.out.bel HI3.out.res HD2.out
        clear r0 r1 r2 r3 r4 r5
        obtain ⟨k0, k1, k2, -, -, -⟩ := hxf
        refine bodyPost_ret (v := .tuple #[DV A2 n2 d2 A2' m2 d2' (f1), .int .i64 (p), .int .i64 (st), .int .i64 e]) (by simp [results, Tryz.results80, go_sem, k0, k1, k2]) rfl ?_
        rw [HXX.out]
        exact ⟨_, _, _, _, _, _, rfl, hdf, hbf⟩

theorem rpour_any (hk : k < 256) : Calls Tryz.prog 80 #[DV A n c A' m c' f, .int .i64 p, .int .i64 q, HV k g no, .int .i64 st, .string t] w (RetP w (pourR S V f p q k g no st t)) := by
  by_cases h : pourE S V f p q k g no st t = 0
  · exact rpour_yes A n c A' m c' f S V p q k g no st t w hD hk h _ rfl
  · rw [pourR_no h]
    unfold pourE at h ⊢
    by_cases h1 : okS S V f p q = true
    · rw [if_pos h1] at h ⊢
      by_cases h2 : errL g no t = 0
      · rw [if_pos h2] at h ⊢
        by_cases h3 : ((layS k g no t).length : Int) ≤ q - p
        · rw [if_pos h3] at h ⊢
          by_cases h4 : 1 ≤ st ∧ st ≤ 1099511627776 - (((layS k g no t).length : Int) - 1)
          · rw [if_pos h4] at h; exact absurd rfl h
          · rw [if_neg h4]
            by_cases h5 : 1 ≤ st
            · exact rpour_8b A n c A' m c' f S V p q k g no st t w hD hk h1 h2 h3 h5 (fun x => h4 ⟨h5, x⟩)
            · exact rpour_8a A n c A' m c' f S V p q k g no st t w hD hk h1 h2 h3 h5
        · rw [if_neg h3]; exact rpour_7 A n c A' m c' f S V p q k g no st t w hD hk h1 h2 h3
      · rw [if_neg h2]; exact rpour_l A n c A' m c' f S V p q k g no st t w hD hk h1 h2
    · rw [if_neg h1]; exact rpour_2 A n c A' m c' f S V p q k g no st t w hD (by simpa using h1)

end
end Go.Proofs.YtkglolnghihegaaGreatDoor.Slt

/- Contract of the document's Save of package slots. -/
namespace Go.Proofs.YtkglolnghihegaaGreatDoor.Slt
open Go.RowKit Go.Proofs.YtkglolnghihegaaGreatDoor.Dsk Go.Proofs.YtkglolnghihegaaGreatDoor.Sht Go.Proofs.YtkglolnghihegaaGreatDoor.Shf

theorem put_one {w wr : World} {B : Option Addr} {p d : Nat} {B' : Option Addr} {q d' : Nat} {f : Int} {S : List ByteArray} {W : List Wr} (hb : Below w.heap.size w wr) (hr : St wr (w.heap.size + 1) none 0 0 none 0 0 0) (hd : Dev wr B p d B' q d' f S W) :
    Below w.heap.size w (set3 wr (w.heap.size + 1) (.slice B p d) (.slice B' q d') (.int .i64 f)) ∧ Dev (set3 wr (w.heap.size + 1) (.slice B p d) (.slice B' q d') (.int .i64 f)) B p d B' q d' f S W ∧ Box (set3 wr (w.heap.size + 1) (.slice B p d) (.slice B' q d') (.int .i64 f)) (w.heap.size + 1) (.slice B p d) (.slice B' q d') (.int .i64 f) :=
  ⟨hb.grown (grown_set3 _ _ _ _ _) hb.size (by simp), hd.only hr.ns (grown_set3 _ _ _ _ _), (hr.set3 _ _ _ _ _ _ _).box⟩

section
variable (A : Option Addr) (n c : Nat) (A' : Option Addr) (m c' : Nat) (f : Int) (S : List ByteArray) (V : List Wr) (z g st : Int) (t : ByteArray) (w : World) (hD : Dev w A n c A' m c' f S V)
include hD

set_option maxHeartbeats 1000000 in
theorem rsave_no (h : isS z = false) : Calls Tryz.prog 45 #[DV A n c A' m c' f, .int .i64 z, .int .i64 g, .int .i64 st, .string t] w (RetS w ⟨S, V, f, 0, st, 2⟩) := by
  have hz0 : ¬ z = 0 := by intro e; subst e; simp [isS] at h
  have hz1 : ¬ z = 1 := by intro e; subst e; simp [isS] at h
  have hzb0 : (z == 0) = false := by simpa using hz0
  have hzb1 : (z == 1) = false := by simpa using hz1
  have hzn0 : (z != 0) = true := by simpa using hz0
  have hzn1 : (z != 1) = true := by simpa using hz1
  have HB := Lib.hid ((new1 w (D25 A n c A' m c' f)).push (D25 none 0 0 none 0 0 0))
  have HR := Lib.hid (by have := St.new (w.alloc (D25 A n c A' m c' f)) none 0 0 none 0 0 0 25; rwa [World.size_alloc] at this)
  have HD := Lib.hid hD
  clear hD h
  go_enter Tryz.func45, Tryz.ntmps45
  go_wp2_with fail
  exact bodyPost_ret (v := .tuple #[DV A n c A' m c' f, .int .i64 st, .int .i64 2]) (by simp [results, Tryz.results45, go_sem]) rfl ⟨_, _, _, _, _, _, rfl, (HD.out.new _).new _, (new1 w _).push _⟩

set_option maxHeartbeats 2000000 in
theorem rsave_yes (hz : z = 0 ∨ z = 1) (X : Poured) (hX : pourR S V f (z * sizR S.length) ((z + 1) * sizR S.length) 1 g 0 st t = X) : Calls Tryz.prog 45 #[DV A n c A' m c' f, .int .i64 z, .int .i64 g, .int .i64 st, .string t] w (RetS w X) := by
  have hn := hD.sec.sec
  rw [hn] at hX
  have HZ := Lib.hid (fun W => rsize_any n W)
  have HP := Lib.hid (fun W p q (hb : Below w.heap.size w W) (hp : p = z * sizR n) (hq : q = (z + 1) * sizR n) => (by
    subst hp hq
    have := rpour_any A n c A' m c' f S V (z * sizR n) ((z + 1) * sizR n) 1 g 0 st t W (hD.below hb) (by decide)
    rwa [hX] at this : Calls Tryz.prog 80 #[DV A n c A' m c' f, .int .i64 p, .int .i64 q, .agg #[.int .u8 1, .int .i64 g, .int .i64 0], .int .i64 st, .string t] W (RetP W X)))
  unfold RetP at HP
  have hy1 := sizR_nonneg n
  have hy2 := sizR_le n
  generalize sizR n = y at *
  have HB := Lib.hid ((new1 w (D25 A n c A' m c' f)).push (D25 none 0 0 none 0 0 0))
  have HR := Lib.hid (by have := St.new (w.alloc (D25 A n c A' m c' f)) none 0 0 none 0 0 0 25; rwa [World.size_alloc] at this)
  clear hX hn hD
  rcases hz with rfl | rfl
  all_goals (
    go_enter Tryz.func45, Tryz.ntmps45
    go_wp2_with (go_at_call 73; (with_reducible refine (HZ.out _).mono ?_); rintro r w2 ⟨rfl, rfl⟩)
    with_reducible refine (HP.out _ _ _ HB.out (by omega) (by omega)).mono ?_
    rintro r w2 ⟨A2, n2, d2, A2', m2, d2', rfl, hd2, b2⟩
    have HB2 := Lib.hid (HB.out.call b2)
    have HR2 := Lib.hid (HR.out.call b2)
    have HD2 := Lib.hid hd2
    obtain ⟨r0, r1, r2, r3, r4, r5⟩ := HR2.out.box
    have hl2 := HR2.out.lt
    clear b2 hd2 HP HZ HB HR
    go_wp2_with fail
    obtain ⟨hbf, hdf, hxf⟩ := put_one HB2.out HR2.out HD2.out
    obtain ⟨k0, k1, k2, -, -, -⟩ := hxf.call (new1 _ (D25 A2 n2 d2 A2' m2 d2' X.f))
    clear r0 r1 r2 r3 r4 r5
    refine bodyPost_ret (v := .tuple #[DV A2 n2 d2 A2' m2 d2' X.f, .int .i64 X.st, .int .i64 X.e]) (by simp [results, Tryz.results45, go_sem, k0, k1, k2]) rfl ?_
    exact ⟨_, _, _, _, _, _, rfl, hdf.new _, hbf.push _⟩)

theorem rsave_any : Calls Tryz.prog 45 #[DV A n c A' m c' f, .int .i64 z, .int .i64 g, .int .i64 st, .string t] w (RetS w (saveR S V f z g st t)) := by
  unfold saveR
  by_cases h : isS z = true
  · rw [if_pos h]
    exact rsave_yes A n c A' m c' f S V z g st t w hD (isS_yes h) _ rfl
  · rw [if_neg h]
    exact rsave_no A n c A' m c' f S V z g st t w hD (by simpa using h)
end
end Go.Proofs.YtkglolnghihegaaGreatDoor.Slt
