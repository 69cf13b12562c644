/- The walk of DiskLast. -/
import Derived.Test.YtgjhiekcdcicgaaActs
import Derived.Test.YtgjhiekcdcicgaaInts
namespace Go.Proofs.Ytgjhiekcdcicgaa
open Go.RowKit

/-- Bytes as cells. -/
def BV (L : List UInt8) : List Value := L.map fun b => Value.int .u8 b.toNat
theorem BV_length (L : List UInt8) : (BV L).length = L.length := by simp [BV]
theorem BV_nostr (L : List UInt8) : ∀ v ∈ BV L, ∀ s, v ≠ .string s := by
  intro v hv s
  obtain ⟨x, _, rfl⟩ := List.mem_map.1 hv
  simp
theorem BV_set (L : List UInt8) (i : Nat) (b : UInt8) : (BV L).set i (.int .u8 b.toNat) = BV (L.set i b) := by simp [BV]

/-- What holds from act to act. -/
structure LastK (w wr : World) (b3 b5 : Nat) (t : TypeId) (A : Option Addr) (n c : Nat) (A' : Option Addr) (m c' : Nat) (S : List ByteArray) (W : List Wr) (k : Nat) (L : List UInt8) (v : Value) : Prop where
  run : Run w wr b3 A n c A' m c' (-1) S W k
  arr : Blk wr b5 t (BV L)
  len : L.length = 16
  row : IRow wr w.heap.size v (List.replicate k 64)
  n1 : b3 ≠ b5
  v1 : v.ownBlock ≠ some b3
  v2 : v.ownBlock ≠ some b5
  h5 : w.heap.size ≤ b5
  view : View S W L

section
variable {w wr wx : World} {b3 b5 : Nat} {t : TypeId} {A : Option Addr} {n c : Nat} {A' : Option Addr} {m c' : Nat} {S : List ByteArray} {W : List Wr} {k : Nat} {L : List UInt8} {v : Value}
/-- The variable is set to the device behind an act. -/
theorem LastK.act (h : LastK w wr b3 b5 t A n c A' m c' S W k L v) {b8 : Nat} {B : Option Addr} {p d : Nat} {B' : Option Addr} {q d' : Nat} (x : Act) (hk : k < 1024) (hN : NewD wr wx b8 B p d B' q d' (-1) (dS S W x) (dW W x)) :
    Run w (set3 wx b3 (.slice B p d) (.slice B' q d') (.int .i64 (-1))) b3 B p d B' q d' (-1) (dS S W x) (dW W x) (k + 1) ∧ Blk (set3 wx b3 (.slice B p d) (.slice B' q d') (.int .i64 (-1))) b5 t (BV L) ∧
      IRow (set3 wx b3 (.slice B p d) (.slice B' q d') (.int .i64 (-1))) w.heap.size v (List.replicate k 64) := by
  have hg := grown_set3 wx b3 (.slice B p d) (.slice B' q d') (.int .i64 (-1))
  refine ⟨(h.run.call hN.bel).set hN.dev (h.run.fine.act hk x), ?_, ?_⟩
  · exact (h.arr.call hN.bel).of_block (hg.block b5 (h.arr.call hN.bel).lt (by simpa using fun e => h.n1 e.symm))
  · exact (h.row.call hN.bel).other hg h.v1
end

/-- Behind a region: two variables hold a device each. -/
structure TwoD (wa wx : World) (b : Nat) (A : Option Addr) (n c : Nat) (A' : Option Addr) (m c' : Nat) (f : Int) (S : List ByteArray) (W : List Wr) (d : Nat) (B : Option Addr) (p k : Nat) (B' : Option Addr) (q k' : Nat) (g : Int) (T : List ByteArray) (V : List Wr) : Prop where
  bel : Below wa.heap.size wa wx
  st1 : St wx b A n c A' m c' f
  dev1 : Dev wx A n c A' m c' f S W
  st2 : St wx d B p k B' q k' g
  dev2 : Dev wx B p k B' q k' g T V
section
variable {wa w6 : World} {b : Nat} {A : Option Addr} {n c : Nat} {A' : Option Addr} {m c' : Nat} {f : Int} {S : List ByteArray} {W : List Wr} {d : Nat} {B : Option Addr} {p k : Nat} {B' : Option Addr} {q k' : Nat} {g : Int} {T : List ByteArray} {V : List Wr}
theorem St.at1 (w : World) (o : Obj) (A : Option Addr) (n c : Nat) (A' : Option Addr) (m c' : Nat) (f : Int) (t : TypeId) : St ((w.alloc o).alloc (.cells #[.slice A n c, .slice A' m c', .int .i64 f] t)) (w.heap.size + 1) A n c A' m c' f := by
  have := St.new (w.alloc o) A n c A' m c' f t
  rwa [World.size_alloc] at this
theorem TwoD.ff (hb : Below wa.heap.size wa w6) (h1 : Dev w6 A n c A' m c' f S W) (h2 : Dev w6 B p k B' q k' g T V) (t t' : TypeId) :
    TwoD wa ((w6.alloc (.cells #[.slice A n c, .slice A' m c', .int .i64 f] t)).alloc (.cells #[.slice B p k, .slice B' q k', .int .i64 g] t')) w6.heap.size A n c A' m c' f S W (w6.heap.size + 1) B p k B' q k' g T V :=
  ⟨(hb.push _).push _, (St.new _ _ _ _ _ _ _ _ _).alloc _, (h1.new _).new _, St.at1 _ _ _ _ _ _ _ _ _ _, (h2.new _).new _⟩
theorem TwoD.ff' (hb : Below wa.heap.size wa w6) (h1 : Dev w6 A n c A' m c' f S W) (h2 : Dev w6 B p k B' q k' g T V) (t t' : TypeId) :
    TwoD wa ((w6.alloc (.cells #[.slice B p k, .slice B' q k', .int .i64 g] t')).alloc (.cells #[.slice A n c, .slice A' m c', .int .i64 f] t)) (w6.heap.size + 1) A n c A' m c' f S W w6.heap.size B p k B' q k' g T V :=
  ⟨(hb.push _).push _, St.at1 _ _ _ _ _ _ _ _ _ _, (h1.new _).new _, (St.new _ _ _ _ _ _ _ _ _).alloc _, (h2.new _).new _⟩
theorem size_set3 (w : World) (b : Nat) (x y z : Value) : (set3 w b x y z).heap.size = w.heap.size := by simp [set3, World.setCell]
theorem TwoD.sf (hb : Below wa.heap.size wa w6) (h1 : Dev w6 A n c A' m c' f S W) (h2 : Dev w6 B p k B' q k' g T V) (t' : TypeId) (hs : St w6 b none 0 0 none 0 0 0) (hw : wa.heap.size ≤ b) :
    TwoD wa ((set3 w6 b (.slice A n c) (.slice A' m c') (.int .i64 f)).alloc (.cells #[.slice B p k, .slice B' q k', .int .i64 g] t')) b A n c A' m c' f S W w6.heap.size B p k B' q k' g T V := by
  have hg := grown_set3 w6 b (.slice A n c) (.slice A' m c') (.int .i64 f)
  have hn := St.new (set3 w6 b (.slice A n c) (.slice A' m c') (.int .i64 f)) B p k B' q k' g t'
  rw [size_set3] at hn
  exact ⟨(hb.grown hg hb.size (by simpa using hw)).push _, (hs.set3 _ _ _ _ _ _ _).alloc _, (h1.only hs.ns hg).new _, hn, (h2.only hs.ns hg).new _⟩
theorem TwoD.fs (hb : Below wa.heap.size wa w6) (h1 : Dev w6 A n c A' m c' f S W) (h2 : Dev w6 B p k B' q k' g T V) (t' : TypeId) (hs : St w6 d none 0 0 none 0 0 0) (hw : wa.heap.size ≤ d) :
    TwoD wa ((set3 w6 d (.slice B p k) (.slice B' q k') (.int .i64 g)).alloc (.cells #[.slice A n c, .slice A' m c', .int .i64 f] t')) w6.heap.size A n c A' m c' f S W d B p k B' q k' g T V := by
  have h := TwoD.sf hb h2 h1 t' hs hw
  exact ⟨h.bel, h.st2, h.dev2, h.st1, h.dev1⟩
theorem TwoD.ss (hb : Below wa.heap.size wa w6) (h1 : Dev w6 A n c A' m c' f S W) (h2 : Dev w6 B p k B' q k' g T V) (hs : St w6 b none 0 0 none 0 0 0) (ht : St w6 d none 0 0 none 0 0 0) (hw : wa.heap.size ≤ b) (hv : wa.heap.size ≤ d) (hne : b ≠ d) :
    TwoD wa (set3 (set3 w6 b (.slice A n c) (.slice A' m c') (.int .i64 f)) d (.slice B p k) (.slice B' q k') (.int .i64 g)) b A n c A' m c' f S W d B p k B' q k' g T V := by
  have hg := grown_set3 w6 b (.slice A n c) (.slice A' m c') (.int .i64 f)
  have hg2 := grown_set3 (set3 w6 b (.slice A n c) (.slice A' m c') (.int .i64 f)) d (.slice B p k) (.slice B' q k') (.int .i64 g)
  have hb1 := hb.grown hg hb.size (by simpa using hw)
  have ht1 := ht.other hg (fun e => hne e.symm)
  exact ⟨hb1.grown hg2 hb1.size (by simpa using hv), (hs.set3 _ _ _ _ _ _ _).other hg2 hne, (h1.only hs.ns hg).only ht1.ns hg2, ht1.set3 _ _ _ _ _ _ _, (h2.only hs.ns hg).only ht1.ns hg2⟩
end

set_option maxRecDepth 100000 in
set_option maxHeartbeats 8000000 in
theorem walk_last (a : Option Addr) (len cap : Nat) (acts : List Act) (w : World) (hR : RV w a len 3 (TV acts)) (ha : ∀ x ∈ acts, x.a ≤ 255) :
    Calls Try.prog 5 #[.slice a len cap] w fun e w' => e = .returned (.bool true) ∧ Below w.heap.size w w' := by
  by_cases hg : (60 : Int) < len
  · clear hR ha
    go_enter Try.func5, Try.ntmps5
    go_wp2_with (go_at_call 9; refine (awake_any _).mono ?_; rintro e w' ⟨rfl, hb⟩)
    go_ret
    exact ⟨rfl, hb⟩
  have HR := Lib.hid hR
  have HA := Lib.hid ha
  have HLn := Lib.hid hR.acts
  have hlen : (len : Int) ≤ 60 := by omega
  clear hR ha
  have HN := Lib.hid (fun w => new_yes 16 w (by omega) (by omega))
  go_enter Try.func5, Try.ntmps5
  go_wp2_with fail
  refine (HN.out _).mono ?_
  rintro r w1 ⟨A1, n1, k1, B1, m1, l1, rfl, hD1, hb1⟩
  go_wp2_with fail
  have HK0 : Hid (LastK w ((w1.alloc (.cells #[.slice A1 n1 k1, .slice B1 m1 l1, .int .i64 (-1)] 33)).alloc (.cells #[.int .u8 0, .int .u8 0, .int .u8 0, .int .u8 0, .int .u8 0, .int .u8 0, .int .u8 0, .int .u8 0, .int .u8 0, .int .u8 0, .int .u8 0, .int .u8 0, .int .u8 0, .int .u8 0, .int .u8 0, .int .u8 0] 61)) w1.heap.size (w1.heap.size + 1) 61 A1 n1 k1 B1 m1 l1 (newS 16) [] 0 (List.replicate 16 0) (.slice none 0 0)) := by
    have hN1 := NewD.fresh hb1 hD1 33
    have hb2 := new1 (w1.alloc (.cells #[.slice A1 n1 k1, .slice B1 m1 l1, .int .i64 (-1)] 33)) (.cells #[.int .u8 0, .int .u8 0, .int .u8 0, .int .u8 0, .int .u8 0, .int .u8 0, .int .u8 0, .int .u8 0, .int .u8 0, .int .u8 0, .int .u8 0, .int .u8 0, .int .u8 0, .int .u8 0, .int .u8 0, .int .u8 0] 61)
    have hB := Blk.new (w1.alloc (.cells #[.slice A1 n1 k1, .slice B1 m1 l1, .int .i64 (-1)] 33)) 61 #[.int .u8 0, .int .u8 0, .int .u8 0, .int .u8 0, .int .u8 0, .int .u8 0, .int .u8 0, .int .u8 0, .int .u8 0, .int .u8 0, .int .u8 0, .int .u8 0, .int .u8 0, .int .u8 0, .int .u8 0, .int .u8 0]
    rw [World.size_alloc] at hB
    exact ⟨⟨hN1.bel.call hb2, hN1.st.call hb2, hN1.dev.below hb2, fine_new, hN1.new⟩, hB, rfl, IRow.nil _ _, by omega, by simp [Value.ownBlock], by simp [Value.ownBlock], by have := hb1.size; omega, view_new⟩
  clear hD1 hb1
  generalize ((w1.alloc (.cells #[.slice A1 n1 k1, .slice B1 m1 l1, .int .i64 (-1)] 33)).alloc (.cells #[.int .u8 0, .int .u8 0, .int .u8 0, .int .u8 0, .int .u8 0, .int .u8 0, .int .u8 0, .int .u8 0, .int .u8 0, .int .u8 0, .int .u8 0, .int .u8 0, .int .u8 0, .int .u8 0, .int .u8 0, .int .u8 0] 61)) = w3 at *
  generalize w1.heap.size + 1 = b5 at *
  generalize w1.heap.size = b3 at *
  go_loopw [6, 7] (fun v i wr => ∃ (k : Nat) (A : Option Addr) (p c : Nat) (B : Option Addr) (m d : Nat) (S : List ByteArray) (W : List Wr) (L : List UInt8), k ≤ len ∧ i = .int .i64 k ∧ Hid (LastK w wr b3 b5 61 A p c B m d S W k L v)) (fun _ i _ => len - (intOf i).toNat)
  case atStart => exact ⟨0, _, _, _, _, _, _, _, _, _, Nat.zero_le _, rfl, HK0.out⟩
  case round =>
    obtain ⟨k, A, p, c, B, m, d, S, W, L, hk, rfl, HK⟩ := hrel
    clear HK0
    by_cases hlt : k < len
    · have hl : k < acts.length := by have := HLn.out; omega
      obtain ⟨ba, off, rfl, hla0, u0, u1, u2⟩ := HR.out.actAt hlt hl
      have t0 := (HK.out.run.bel.cell (p := ⟨ba, off + k * 3, none⟩) hla0).trans u0
      have t1 := (HK.out.run.bel.cell (p := ⟨ba, off + k * 3 + 1, none⟩) hla0).trans u1
      have t2 := (HK.out.run.bel.cell (p := ⟨ba, off + k * 3 + 2, none⟩) hla0).trans u2
      have hla : ba < wr.heap.size := Nat.lt_of_lt_of_le hla0 HK.out.run.bel.size
      have hax := HA.out _ (List.getElem_mem hl)
      obtain ⟨x, HX⟩ : ∃ x, x = acts[k] := ⟨_, rfl⟩
      rw [← HX] at t0 t1 t2 hax u0 u1 u2
      clear HX hl
      have HC : Hid (∀ W', Below wr.heap.size wr W' → Calls Try.prog 28 #[DV A p c B m d (-1), AV x.a x.b.toNat x.fl] W' (RetDE W' (dS S W x) (dW W x) (-1) 0)) := fun W' hb => done_ok HK.out.run.fine (by omega) (by decide) x hax (HK.out.run.dev.below hb)
      have HAct := Lib.hid (fun wx b8 B' p' d' B'' q' d'' (hN : NewD wr wx b8 B' p' d' B'' q' d'' (-1) (dS S W x) (dW W x)) => HK.out.act x (by omega) hN)
      have HView := Lib.hid (HK.out.view.act HK.out.run.fine HK.out.len x)
      have HDL := Lib.hid (dL_length L x)
      have HRun := Lib.hid HK.out.run
      obtain ⟨xa, xbb, xf⟩ := x
      have Hdl : Hid (dL L ⟨xa, xbb, xf⟩ = if xf = true then L else L.set (xa % 16) xbb) := rfl
      generalize dS S W ⟨xa, xbb, xf⟩ = S' at *
      generalize dW W ⟨xa, xbb, xf⟩ = W' at *
      generalize dL L ⟨xa, xbb, xf⟩ = L' at *
      dsimp only at t0 t1 t2 u0 u1 u2 hax HC
      obtain ⟨xb, hxb⟩ : ∃ xb, xb = xbb.toNat := ⟨_, rfl⟩
      rw [← hxb] at t1 u1 HC
      have HXB := Lib.hid hxb
      clear hxb
      go_upto_region 11 with fail
      go_cut [8, 9] (fun s8 s9 wx => ∃ b A n c A' m c', s8 = .pointer (some ⟨b, 0, none⟩) ∧ s9 = .int .i64 0 ∧ Hid (NewD wr wx b A n c A' m c' (-1) S' W'))
      case first =>
        obtain ⟨x0, x1, x2, y0, y1, y2⟩ := HRun.out.st.box
        have hl1 := HRun.out.st.lt
        have ne1 : ¬ wr.heap.size = b3 := by omega
        have ne2 : ¬ wr.heap.size = ba := by omega
        go_region_held3 (fun W => W.cell? ⟨b3, 0, none⟩ = some (.slice A p c) ∧ W.cell? ⟨b3, 1, none⟩ = some (.slice B m d) ∧ W.cell? ⟨b3, 2, none⟩ = some (.int .i64 (-1)) ∧ W.cell? ⟨ba, off + k * 3, none⟩ = some (.int .u8 xa) ∧ W.cell? ⟨ba, off + k * 3 + 1, none⟩ = some (.int .u8 xb) ∧ W.cell? ⟨ba, off + k * 3 + 2, none⟩ = some (.bool xf)) (go_keep)
          (first
            | (go_at_call 28; ((with_reducible refine (HC.out _ (by repeat (first | exact Below.refl _ _ | refine Below.push ?_ _ | refine Below.drew ?_))).mono ?_)); rintro r w4 ⟨A9, n9, k9, B9, m9, l9, rfl, hD4, hb4⟩; obtain ⟨hc, hf⟩ := bcell hb4; have hlt4 := blt hb4; have hbw : Below wr.heap.size wr w4 := (Below.call (by repeat (first | exact Below.refl _ _ | refine Below.push ?_ _ | refine Below.drew ?_)) hb4); have q0 : w4.cell? ⟨b3, 0, none⟩ = some (.slice A p c) := (by rw [hbw.cell (p := ⟨b3, 0, none⟩) hl1]; exact x0); have q1 : w4.cell? ⟨b3, 1, none⟩ = some (.slice B m d) := (by rw [hbw.cell (p := ⟨b3, 1, none⟩) hl1]; exact x1); have q2 : w4.cell? ⟨b3, 2, none⟩ = some (.int .i64 (-1)) := (by rw [hbw.cell (p := ⟨b3, 2, none⟩) hl1]; exact x2); have q3 : w4.cell? ⟨ba, off + k * 3, none⟩ = some (.int .u8 xa) := (by rw [hbw.cell (p := ⟨ba, off + k * 3, none⟩) hla]; exact t0); have q4 : w4.cell? ⟨ba, off + k * 3 + 1, none⟩ = some (.int .u8 xb) := (by rw [hbw.cell (p := ⟨ba, off + k * 3 + 1, none⟩) hla]; exact t1); have q5 : w4.cell? ⟨ba, off + k * 3 + 2, none⟩ = some (.bool xf) := (by rw [hbw.cell (p := ⟨ba, off + k * 3 + 2, none⟩) hla]; exact t2); have ne4 : ¬ w4.heap.size = b3 := (by have := hbw.size; omega); have ne5 : ¬ w4.heap.size = ba := (by have := hbw.size; omega); have HD4 := Lib.hid hD4; clear hD4))
        · go_wp2_with fail
          go_meet
          exact ⟨_, _, _, _, _, _, _, rfl, rfl, NewD.fresh hbw HD4.out 33⟩
        · go_wp2_with fail
          go_meet
          exact ⟨_, _, _, _, _, _, _, rfl, rfl, NewD.put hbw HD4.out ((St.new wr none 0 0 none 0 0 0 33).call (undrew hb4)) (Nat.le_refl _)⟩
      case rest =>
        obtain ⟨b8, A8, n8, k8, B8, m8, l8, rfl, rfl, HN8⟩ := hcut
        obtain ⟨hR8, hA8, hI8⟩ := HAct.out _ _ _ _ _ _ _ _ HN8.out
        have HR8 := Lib.hid hR8
        have HA8 := Lib.hid hA8
        have HI8 := Lib.hid hI8
        clear hR8 hA8 hI8 HAct
        obtain ⟨x0, x1, x2, y0, y1, y2⟩ := HN8.out.st.box
        obtain ⟨z0, z1, z2, v0, v1, v2⟩ := (HRun.out.call HN8.out.bel).st.box
        clear t0 t1 t2
        have t0 := (HR8.out.bel.cell (p := ⟨ba, off + k * 3, none⟩) hla0).trans u0
        have t1 := (HR8.out.bel.cell (p := ⟨ba, off + k * 3 + 1, none⟩) hla0).trans u1
        have t2 := (HR8.out.bel.cell (p := ⟨ba, off + k * 3 + 2, none⟩) hla0).trans u2
        unfold set3 at HR8 HA8 HI8 t0 t1 t2
        have i1 : (k : Int) < (len : Int) := by omega
        have hne35 := HK.out.n1
        have hv1 := HK.out.v1
        have hv2 := HK.out.v2
        have hh5 := HK.out.h5
        have HLL := Lib.hid HK.out.len
        clear HK
        go_upto_if 54 with fail
        clear x0 x1 x2 y0 y1 y2 z0 z1 z2 v0 v1 v2
        generalize ((wc.setCell ⟨b3, 0, none⟩ (Value.slice A8 n8 k8)).setCell ⟨b3, 1, none⟩ (.slice B8 m8 l8)).setCell ⟨b3, 2, none⟩ (.int .i64 (-1)) = ws at *
        go_cut [] (fun wx => Hid (Run w wx b3 A8 n8 k8 B8 m8 l8 (-1) S' W' (k + 1) ∧ Blk wx b5 61 (BV L') ∧ IRow wx w.heap.size u6 (List.replicate k 64)))
        case first =>
          cases xf with
          | true =>
            have HE := Lib.hid (Hdl.out.trans (if_pos rfl))
            go_wp2_with fail
            go_meet
            exact ⟨HR8.out, by rw [HE.out]; exact HA8.out, HI8.out⟩
          | false =>
            have HE := Lib.hid (Hdl.out.trans (if_neg (by simp)))
            have hc5 := HA8.out.cell (i := xa % 16) (by rw [BV_length, HLL.out]; omega)
            have hf5 := HA8.out.frozen (xa % 16)
            generalize (BV L)[xa % 16]'(by rw [BV_length, HLL.out]; omega) = old at hc5
            have hq : (xa : Int).tmod 16 = ((xa % 16 : Nat) : Int) := by rw [Int.tmod_eq_emod_of_nonneg (by omega)]; omega
            have hqb : ((xa % 16 : Nat) : Int) < 16 := by omega
            have HQ := Lib.hid (show xa % 16 < 16 by omega)
            generalize xa % 16 = q at *
            have hg5 := grown_set (World.grownBy.refl ws (some b5)) q (.int .u8 (xb : Int))
            have hlast : Run w (ws.setCell ⟨b5, q, none⟩ (.int .u8 (xb : Int))) b3 A8 n8 k8 B8 m8 l8 (-1) S' W' (k + 1) ∧ Blk (ws.setCell ⟨b5, q, none⟩ (.int .u8 (xb : Int))) b5 61 (BV L') ∧ IRow (ws.setCell ⟨b5, q, none⟩ (.int .u8 (xb : Int))) w.heap.size u6 (List.replicate k 64) := by
              refine ⟨⟨HR8.out.bel.grown hg5 HR8.out.bel.size (by simpa using hh5), HR8.out.st.other hg5 hne35, HR8.out.dev.only (NoStr.of_blk HA8.out (BV_nostr L)) hg5, HR8.out.fine, HR8.out.new⟩, ?_, HI8.out.other hg5 hv2⟩
              have := HA8.out.set_ q (.int .u8 (xb : Int))
              rw [HXB.out, BV_set, ← HE.out] at this
              rw [HXB.out]
              exact this
            have HLast := Lib.hid hlast
            clear hlast hg5
            go_wp2_with fail
            go_region
            go_wp2_with fail
            go_meet
            exact ⟨HLast.out.1.call (Below.refl _ _).drew, HLast.out.2.1.call (Below.refl _ _).drew, HLast.out.2.2.call (Below.refl _ _).drew⟩
        case rest =>
          have HCut := hcut
          clear hcut
          obtain ⟨av, capv, rfl, -⟩ := HCut.out.2.2.val
          rw [List.length_replicate] at HCut hv1 hv2 HI8
          rw [List.length_replicate]
          have hxc : (wc.alloc (.cells #[.int .i64 64] 3)).cell? ⟨wc.heap.size, 0, none⟩ = some (.int .i64 64) := by simp [go_sem]
          obtain ⟨v', w', hap, hI', hgr, hob⟩ := (HCut.out.2.2.call (new1 wc (.cells #[.int .i64 64] 3))).append ⟨wc.heap.size, 0, none⟩ 1 64 hxc (by rw [List.length_replicate]; omega) (by have := HCut.out.1.bel.size; rw [World.size_alloc]; omega)
          have hrun1 := HCut.out.1.call (new1 wc (.cells #[.int .i64 64] 3))
          have harr1 := HCut.out.2.1.call (new1 wc (.cells #[.int .i64 64] 3))
          have hnos := (HCut.out.2.2.call (new1 wc (.cells #[.int .i64 64] 3))).noStr
          have hlt3 := hrun1.st.lt
          have hlt5 := harr1.lt
          have hK' : LastK w w' b3 b5 61 A8 n8 k8 B8 m8 l8 S' W' (k + 1) L' v' := by
            have hIx := HCut.out.2.2
            have hblk3 : w'.heap[b3]? = (wc.alloc (.cells #[.int .i64 64] 3)).heap[b3]? := hgr.block b3 hlt3 (fun e => hv1 e.symm)
            have hblk5 : w'.heap[b5]? = (wc.alloc (.cells #[.int .i64 64] 3)).heap[b5]? := hgr.block b5 hlt5 (fun e => hv2 e.symm)
            have hdev : Dev w' A8 n8 k8 B8 m8 l8 (-1) S' W' := by
              cases hav : (Value.slice av k capv).ownBlock with
              | none =>
                rw [hav] at hgr
                exact hrun1.dev.below ⟨hgr.os, hgr.tape, hgr.output, hgr.size, fun j hj => hgr.block j hj (by simp)⟩
              | some g =>
                rw [hav] at hgr
                exact hrun1.dev.only (hnos g hav) hgr
            have hbel : Below w.heap.size w w' := hrun1.bel.grown hgr hrun1.bel.size (fun g hg => (hIx.lt g hg).1)
            refine ⟨⟨hbel, hrun1.st.of_block hblk3, hdev, hrun1.fine, hrun1.new⟩, harr1.of_block hblk5, by rw [HDL.out]; exact HLL.out, by rw [← List.replicate_succ'] at hI'; exact hI', hne35, ?_, ?_, hh5, HView.out⟩
            · rcases hob with h | h
              · rw [h]; exact hv1
              · rw [h]; intro e; injection e with e; omega
            · rcases hob with h | h
              · rw [h]; exact hv2
              · rw [h]; intro e; injection e with e; omega
          have HK' := Lib.hid hK'
          have HAP := Lib.hid hap
          clear hK' hap hI' hgr hob hrun1 harr1 hnos hxc
          go_wp2_with (at_builtin; refine wpList_append_run rfl (.tmp 67) (.tmp 68) 28 28 rfl _ _ rfl rfl v' w' HAP.out ?_)
          go_roundw
          case rel => exact ⟨k + 1, _, _, _, _, _, _, _, _, _, by omega, by go_num, HK'.out⟩
          case measure => simp [intOf]; omega
    · have hWk := HK.out.run.fine.few
      have HView := Lib.hid HK.out.view
      have HLL := Lib.hid HK.out.len
      obtain ⟨-, hso, -, hwo⟩ := chk_ok HK.out.run.fine.ok
      have HTok := Lib.hid (goAll_all (c := fun _ => 64) hso hwo (fun _ => Nat.le_refl _))
      have HTr := Lib.hid (fun (q : Nat) (hq : q < 16) => goAll_read hso hwo q (by have := HK.out.run.fine.len; omega))
      have HCr : Hid (goAll S W (cutAt (List.replicate k 64)) = goAll S W fun _ => 64) := goAll_congr S W _ _ (fun j hj => by
        unfold cutAt; rw [dif_pos (by rw [List.length_replicate]; omega), List.getElem_replicate]; rfl)
      clear hso hwo hWk
      have HFT : Hid (Fine (goAll S W fun _ => 64) [] (-1) 0) := ⟨chk_of (by rw [HTok.out.2, HK.out.run.fine.len]; decide) (by rw [HTok.out.2, HK.out.run.fine.len]; decide) (by decide) HTok.out.1 (by simp) (by simp), by rw [HTok.out.2]; exact HK.out.run.fine.len, by simp⟩
      obtain ⟨av, capv, rfl, hrv⟩ := HK.out.row.val
      rw [List.length_replicate] at hrv HK
      rw [List.length_replicate]
      have HRV := Lib.hid hrv
      clear hrv
      obtain ⟨x0, x1, x2, y0, y1, y2⟩ := HK.out.run.st.box
      go_wp2_with fail
      have hfl := flush0 A p c B m d (-1) S W wr HK.out.run.dev HK.out.run.fine.ok (by decide)
      generalize hT : (goAll S W fun _ => 64) = T at *
      have HT := Lib.hid hT
      clear hT
      refine hfl.mono ?_
      rintro r w4 ⟨A4, n4, k4, B4, m4, l4, rfl, hD4, hb4⟩
      clear hfl
      have hN4 : NewD w (w4.alloc (.cells #[.slice A4 n4 k4, .slice B4 m4 l4, .int .i64 (-1)] 33)) w4.heap.size A4 n4 k4 B4 m4 l4 (-1) T [] := NewD.fresh (HK.out.run.bel.call hb4) hD4 33
      have hbx := hb4.push (.cells #[.slice A4 n4 k4, .slice B4 m4 l4, .int .i64 (-1)] 33)
      have HS4 := Lib.hid (HK.out.run.call hbx)
      have HA4 := Lib.hid (HK.out.arr.call hbx)
      have HV4 := Lib.hid (HRV.out.below hbx)
      have hbu : burnt (-1) = -1 := rfl
      rw [hbu]
      clear hbu hbx hb4 hD4 x0 x1 x2 y0 y1 y2 HK HRV
      go_wp2_with fail
      have HN4 := Lib.hid hN4
      clear hN4
      generalize w4.alloc (.cells #[.slice A4 n4 k4, .slice B4 m4 l4, .int .i64 (-1)] 33) = wa at *
      generalize w4.heap.size = b10 at *
      go_upto_region 19 with fail
      go_cut [12, 13] (fun s12 s13 wx => ∃ b A n c A' m c' b' B p d B' q d', s12 = .pointer (some ⟨b, 0, none⟩) ∧ s13 = .pointer (some ⟨b', 0, none⟩) ∧ Hid (TwoD wa wx b A n c A' m c' (-1) T [] b' B p d B' q d' (-1) T []))
      case first =>
        have HC1 : Hid (∀ W', Below wa.heap.size wa W' → Calls Try.prog 19 #[DV A p c B m d (-1), .slice av k capv] W' (RetD W' T [] (-1))) := fun W' hb => by
          have := crash_yes A p c B m d (-1) S W av k capv (List.replicate k 64) W' (HS4.out.dev.below hb) (HV4.out.below hb) HS4.out.fine.ok
          rwa [HCr.out] at this
        have HC2 : Hid (∀ W', Below wa.heap.size wa W' → Calls Try.prog 19 #[DV A4 n4 k4 B4 m4 l4 (-1), .slice none 0 0] W' (RetD W' T [] (-1))) := fun W' hb => crash_yes A4 n4 k4 B4 m4 l4 (-1) T [] none 0 0 [] W' (HN4.out.dev.below hb) (RV.nil _ _ _) HFT.out.ok
        obtain ⟨x0, x1, x2, y0, y1, y2⟩ := HS4.out.st.box
        obtain ⟨z0, z1, z2, v0, v1, v2⟩ := HN4.out.st.box
        have hl3 := HS4.out.st.lt
        have hl10 := HN4.out.st.lt
        have ne1 : ¬ wa.heap.size = b3 := by omega
        have ne2 : ¬ wa.heap.size = b10 := by omega
        have ne3 : ¬ wa.heap.size + 1 = b3 := by omega
        have ne4 : ¬ wa.heap.size + 1 = b10 := by omega
        go_region_held3 (fun W => W.cell? ⟨b3, 0, none⟩ = some (.slice A p c) ∧ W.cell? ⟨b3, 1, none⟩ = some (.slice B m d) ∧ W.cell? ⟨b3, 2, none⟩ = some (.int .i64 (-1)) ∧ W.cell? ⟨b10, 0, none⟩ = some (.slice A4 n4 k4) ∧ W.cell? ⟨b10, 1, none⟩ = some (.slice B4 m4 l4) ∧ W.cell? ⟨b10, 2, none⟩ = some (.int .i64 (-1))) (go_keep)
          (first
            | (go_at_call 19; ((with_reducible refine (HC1.out _ (by repeat (first | exact Below.refl _ _ | refine Below.push ?_ _ | refine Below.drew ?_))).mono ?_)); rintro r w5 ⟨A5, n5, k5, B5, m5, l5, rfl, hD5, hb5⟩; obtain ⟨hc, hf⟩ := bcell hb5; have hlt5 := blt hb5; have hbw : Below wa.heap.size wa w5 := (Below.call (by repeat (first | exact Below.refl _ _ | refine Below.push ?_ _ | refine Below.drew ?_)) hb5); have q0 : w5.cell? ⟨b3, 0, none⟩ = some (.slice A p c) := (by rw [hbw.cell (p := ⟨b3, 0, none⟩) hl3]; exact x0); have q1 : w5.cell? ⟨b3, 1, none⟩ = some (.slice B m d) := (by rw [hbw.cell (p := ⟨b3, 1, none⟩) hl3]; exact x1); have q2 : w5.cell? ⟨b3, 2, none⟩ = some (.int .i64 (-1)) := (by rw [hbw.cell (p := ⟨b3, 2, none⟩) hl3]; exact x2); have q3 : w5.cell? ⟨b10, 0, none⟩ = some (.slice A4 n4 k4) := (by rw [hbw.cell (p := ⟨b10, 0, none⟩) hl10]; exact z0); have q4 : w5.cell? ⟨b10, 1, none⟩ = some (.slice B4 m4 l4) := (by rw [hbw.cell (p := ⟨b10, 1, none⟩) hl10]; exact z1); have q5 : w5.cell? ⟨b10, 2, none⟩ = some (.int .i64 (-1)) := (by rw [hbw.cell (p := ⟨b10, 2, none⟩) hl10]; exact z2); have hz5 := hbw.size; have ne5 : ¬ w5.heap.size = b3 := (by omega); have ne6 : ¬ w5.heap.size = b10 := (by omega); have ne7 : ¬ w5.heap.size + 1 = b3 := (by omega); have hs5 := hb5.size; (try simp only [World.size_drew, World.size_alloc] at hs5); (try (have lt1 : wa.heap.size < w5.heap.size := (by omega))); (try (have lt2 : wa.heap.size + 1 < w5.heap.size := (by omega))); have ne8 : ¬ w5.heap.size + 1 = b10 := (by omega); have HD5 := Lib.hid hD5; clear hD5)
            | (go_at_call 19; ((with_reducible refine (HC2.out _ (by first | exact hbw | exact hbw.push _ | exact (hbw.push _).push _)).mono ?_)); rintro r w6 ⟨A6, n6, k6, B6, m6, l6, rfl, hD6, hb6⟩; obtain ⟨hc6, hf6⟩ := bcell hb6; have hlt6 := blt hb6; have hbw6 : Below wa.heap.size wa w6 := (Below.call (by first | exact hbw | exact hbw.push _ | exact (hbw.push _).push _) hb6); have r0 : w6.cell? ⟨b3, 0, none⟩ = some (.slice A p c) := (by rw [hbw6.cell (p := ⟨b3, 0, none⟩) hl3]; exact x0); have r1 : w6.cell? ⟨b3, 1, none⟩ = some (.slice B m d) := (by rw [hbw6.cell (p := ⟨b3, 1, none⟩) hl3]; exact x1); have r2 : w6.cell? ⟨b3, 2, none⟩ = some (.int .i64 (-1)) := (by rw [hbw6.cell (p := ⟨b3, 2, none⟩) hl3]; exact x2); have r3 : w6.cell? ⟨b10, 0, none⟩ = some (.slice A4 n4 k4) := (by rw [hbw6.cell (p := ⟨b10, 0, none⟩) hl10]; exact z0); have r4 : w6.cell? ⟨b10, 1, none⟩ = some (.slice B4 m4 l4) := (by rw [hbw6.cell (p := ⟨b10, 1, none⟩) hl10]; exact z1); have r5 : w6.cell? ⟨b10, 2, none⟩ = some (.int .i64 (-1)) := (by rw [hbw6.cell (p := ⟨b10, 2, none⟩) hl10]; exact z2); have hz6 := hbw6.size; have ne9 : ¬ w6.heap.size = b3 := (by omega); have ne10 : ¬ w6.heap.size = b10 := (by omega); have ne11 : ¬ w6.heap.size + 1 = b3 := (by omega); have hs6 := hb6.size; (try simp only [World.size_drew, World.size_alloc] at hs6); (try (have lt3 : wa.heap.size < w6.heap.size := (by omega))); (try (have lt4 : wa.heap.size + 1 < w6.heap.size := (by omega))); (try (have lt5 : w5.heap.size < w6.heap.size := (by omega))); (try (have lt6 : w5.heap.size + 1 < w6.heap.size := (by omega))); have ne12 : ¬ w6.heap.size + 1 = b10 := (by omega); have HD6 := Lib.hid hD6; clear hD6))
        · go_wp2_with fail
          go_meet
          have D5 := HD5.out.below hb6
          exact ⟨_, _, _, _, _, _, _, _, _, _, _, _, _, _, rfl, rfl, TwoD.ff hbw6 D5 HD6.out 33 33⟩
        · go_wp2_with fail
          go_meet
          have D5 := HD5.out.below hb6
          exact ⟨_, _, _, _, _, _, _, _, _, _, _, _, _, _, rfl, rfl, TwoD.ff' hbw6 D5 HD6.out 33 33⟩
        · go_wp2_with fail
          go_meet
          have D5 := HD5.out.below ((new1 _ _).call hb6)
          exact ⟨_, _, _, _, _, _, _, _, _, _, _, _, _, _, rfl, rfl, TwoD.sf hbw6 D5 HD6.out 33 ((St.new w5 none 0 0 none 0 0 0 33).call hb6) (by omega)⟩
        · go_wp2_with fail
          go_meet
          have D5 := HD5.out.below (((new1 _ _).push _).call hb6)
          exact ⟨_, _, _, _, _, _, _, _, _, _, _, _, _, _, rfl, rfl, TwoD.ss hbw6 D5 HD6.out (((St.new w5 none 0 0 none 0 0 0 33).alloc _).call hb6) ((St.at1 w5 _ none 0 0 none 0 0 0 33).call hb6) (by omega) (by omega) (by omega)⟩
        · go_wp2_with fail
          go_meet
          have D5 := HD5.out.below ((new1 _ _).call hb6)
          exact ⟨_, _, _, _, _, _, _, _, _, _, _, _, _, _, rfl, rfl, TwoD.fs hbw6 D5 HD6.out 33 ((St.new w5 none 0 0 none 0 0 0 33).call hb6) (by omega)⟩
        · go_wp2_with fail
          go_meet
          have D5 := HD5.out.below (((new1 _ _).push _).call hb6)
          exact ⟨_, _, _, _, _, _, _, _, _, _, _, _, _, _, rfl, rfl, TwoD.ss hbw6 D5 HD6.out ((St.at1 w5 _ none 0 0 none 0 0 0 33).call hb6) (((St.new w5 none 0 0 none 0 0 0 33).alloc _).call hb6) (by omega) (by omega) (by omega)⟩
        · go_wp2_with fail
          go_meet
          have D5 := HD5.out.below hb6
          exact ⟨_, _, _, _, _, _, _, _, _, _, _, _, _, _, rfl, rfl, TwoD.sf hbw6 D5 HD6.out 33 (((St.new wa none 0 0 none 0 0 0 33).call (undrew hb5)).call hb6) (by omega)⟩
        · go_wp2_with fail
          go_meet
          have D5 := HD5.out.below ((new1 _ _).call hb6)
          exact ⟨_, _, _, _, _, _, _, _, _, _, _, _, _, _, rfl, rfl, TwoD.ss hbw6 D5 HD6.out ((((St.new wa none 0 0 none 0 0 0 33).call (undrew hb5)).alloc _).call hb6) ((St.new w5 none 0 0 none 0 0 0 33).call hb6) (by omega) (by omega) (by omega)⟩
        · go_wp2_with fail
          go_meet
          have D5 := HD5.out.below hb6
          exact ⟨_, _, _, _, _, _, _, _, _, _, _, _, _, _, rfl, rfl, TwoD.ss hbw6 D5 HD6.out ((((St.new wa none 0 0 none 0 0 0 33).alloc _).call (undrew hb5)).call hb6) (((St.at1 wa _ none 0 0 none 0 0 0 33).call (undrew hb5)).call hb6) (by omega) (by omega) (by omega)⟩
        · go_wp2_with fail
          go_meet
          have D5 := HD5.out.below hb6
          exact ⟨_, _, _, _, _, _, _, _, _, _, _, _, _, _, rfl, rfl, TwoD.fs hbw6 D5 HD6.out 33 (((St.new wa none 0 0 none 0 0 0 33).call (undrew hb5)).call hb6) (by omega)⟩
        · go_wp2_with fail
          go_meet
          have D5 := HD5.out.below ((new1 _ _).call hb6)
          exact ⟨_, _, _, _, _, _, _, _, _, _, _, _, _, _, rfl, rfl, TwoD.ss hbw6 D5 HD6.out ((St.new w5 none 0 0 none 0 0 0 33).call hb6) ((((St.new wa none 0 0 none 0 0 0 33).call (undrew hb5)).alloc _).call hb6) (by omega) (by omega) (by omega)⟩
        · go_wp2_with fail
          go_meet
          have D5 := HD5.out.below hb6
          exact ⟨_, _, _, _, _, _, _, _, _, _, _, _, _, _, rfl, rfl, TwoD.ss hbw6 D5 HD6.out (((St.at1 wa _ none 0 0 none 0 0 0 33).call (undrew hb5)).call hb6) ((((St.new wa none 0 0 none 0 0 0 33).alloc _).call (undrew hb5)).call hb6) (by omega) (by omega) (by omega)⟩
      case rest =>
        obtain ⟨b12, A7, n7, k7, B7, m7, l7, b13, A8, n8, k8, B8, m8, l8, rfl, rfl, HT2⟩ := hcut
        have HS3 := Lib.hid (HS4.out.call HT2.out.bel)
        have HA5 := Lib.hid (HA4.out.call HT2.out.bel)
        have HS10 := Lib.hid (HN4.out.st.call HT2.out.bel)
        have HD10 := Lib.hid (HN4.out.dev.below HT2.out.bel)
        clear HS4 HA4 HN4 HV4
        obtain ⟨we, rfl⟩ : ∃ x : World, x = wc := ⟨_, rfl⟩
        go_wp2_with fail
        go_loopw [14] (fun i wr => ∃ q : Nat, (q : Int) ≤ 16 ∧ i = .int .i64 q ∧ Hid (Below we.heap.size we wr)) (fun i _ => (16 - intOf i).toNat)
        case atStart => exact ⟨0, by omega, rfl, Below.refl _ _⟩
        case round =>
          obtain ⟨q, hq, rfl, HBw⟩ := hrel
          by_cases hlt2 : (q : Int) < 16
          · have hq16 : q < 16 := by omega
            have hqL : q < L.length := by rw [HLL.out]; exact hq16
            have hLq : L.getD q 0 = L[q] := by simp [List.getD, hqL]
            have hv := HView.out q hq16
            rw [hLq] at hv
            have hc5 : ∀ W', Below we.heap.size we W' → W'.cell? ⟨b5, q, none⟩ = some (.int .u8 (L[q].toNat : Int)) := fun W' hb => by
              have := (HA5.out.call hb).cell (i := q) (by rw [BV_length]; exact hqL)
              rw [this]; simp [BV]
            have R1 : Hid (∀ W', Below we.heap.size we W' → Calls Try.prog 21 #[DV A p c B m d (-1), .int .i64 q] W' fun e w' => e = .returned (.tuple #[.string (fillS L[q]), .int .i64 0]) ∧ Below W'.heap.size W' w') := fun W' hb => by
              have h1 := read_any A p c B m d (-1) S W q W' (HS3.out.dev.below hb)
              obtain ⟨e1, e2⟩ := HS3.out.fine.rd q hq16
              rwa [e1, e2, hv] at h1
            have hTq : rdS T [] (-1) q = fillS L[q] ∧ rdE T [] (-1) q = 0 := by
              obtain ⟨e1, e2⟩ := HFT.out.rd q hq16
              refine ⟨?_, e2⟩
              rw [e1]
              show secAt T q = _
              rw [HTr.out q hq16, hv]
            have R2 : Hid (∀ W', Below we.heap.size we W' → Calls Try.prog 21 #[DV A7 n7 k7 B7 m7 l7 (-1), .int .i64 q] W' fun e w' => e = .returned (.tuple #[.string (fillS L[q]), .int .i64 0]) ∧ Below W'.heap.size W' w') := fun W' hb => by
              have h1 := read_any A7 n7 k7 B7 m7 l7 (-1) T [] q W' (HT2.out.dev1.below hb)
              rwa [hTq.1, hTq.2] at h1
            have R3 : Hid (∀ W', Below we.heap.size we W' → Calls Try.prog 21 #[DV A8 n8 k8 B8 m8 l8 (-1), .int .i64 q] W' fun e w' => e = .returned (.tuple #[.string (fillS L[q]), .int .i64 0]) ∧ Below W'.heap.size W' w') := fun W' hb => by
              have h1 := read_any A8 n8 k8 B8 m8 l8 (-1) T [] q W' (HT2.out.dev2.below hb)
              rwa [hTq.1, hTq.2] at h1
            have HC5 := Lib.hid hc5
            clear hc5 hTq hv hLq
            generalize L[q] = bq at *
            have HF := Lib.hid (fun W' => filled_any (bq.toNat : Int) bq W' rfl)
            have hsq := str_eq (fillS bq)
            clear hqL
            generalize fillS bq = sq at *
            obtain ⟨x0, x1, x2, y0, y1, y2⟩ := (HS3.out.st.call HBw.out).box
            go_wp2_with fail
            refine (R1.out _ HBw.out).mono ?_
            rintro r w21 ⟨rfl, hb⟩
            have HB1 := Lib.hid (HBw.out.call hb)
            clear hb x0 x1 x2 y0 y1 y2
            obtain ⟨x0, x1, x2, y0, y1, y2⟩ := (HT2.out.st1.call HB1.out).box
            go_wp2_with fail
            refine (R2.out _ HB1.out).mono ?_
            rintro r w22 ⟨rfl, hb⟩
            have HB2 := Lib.hid (HB1.out.call hb)
            clear hb x0 x1 x2 y0 y1 y2
            obtain ⟨x0, x1, x2, y0, y1, y2⟩ := (HT2.out.st2.call HB2.out).box
            go_wp2_with fail
            refine (R3.out _ HB2.out).mono ?_
            rintro r w23 ⟨rfl, hb⟩
            have HB3 := Lib.hid (HB2.out.call hb)
            clear hb x0 x1 x2 y0 y1 y2
            have hc5 := HC5.out _ HB3.out
            go_wp2_with fail
            refine (HF.out _).mono ?_
            rintro r w24 ⟨rfl, hb⟩
            have HB4 := Lib.hid (HB3.out.call hb)
            clear hb hc5
            go_wp2
            go_roundw
            case rel => exact ⟨q + 1, by omega, by go_num, HB4.out⟩
            case measure => simp [intOf]; omega
          · have RS : Hid (∀ W', Below we.heap.size we W' → Calls Try.prog 27 #[DV A7 n7 k7 B7 m7 l7 (-1), DV A4 n4 k4 B4 m4 l4 (-1)] W' fun e w' => e = .returned (.bool true) ∧ Below W'.heap.size W' w') := fun W' hb => by
              have h1 := same_any A7 n7 k7 B7 m7 l7 (-1) T [] A4 n4 k4 B4 m4 l4 (-1) T [] W' (HT2.out.dev1.below hb) (HD10.out.below hb)
              rwa [show sameD T [] (-1) T [] (-1) = true by simp [sameD]] at h1
            have RS2 : Hid (∀ W', Below we.heap.size we W' → Calls Try.prog 27 #[DV A8 n8 k8 B8 m8 l8 (-1), DV A4 n4 k4 B4 m4 l4 (-1)] W' fun e w' => e = .returned (.bool true) ∧ Below W'.heap.size W' w') := fun W' hb => by
              have h1 := same_any A8 n8 k8 B8 m8 l8 (-1) T [] A4 n4 k4 B4 m4 l4 (-1) T [] W' (HT2.out.dev2.below hb) (HD10.out.below hb)
              rwa [show sameD T [] (-1) T [] (-1) = true by simp [sameD]] at h1
            obtain ⟨x0, x1, x2, y0, y1, y2⟩ := (HT2.out.st1.call HBw.out).box
            obtain ⟨z0, z1, z2, v0, v1, v2⟩ := (HS10.out.call HBw.out).box
            go_wp2_with fail
            refine (RS.out _ HBw.out).mono ?_
            rintro r w21 ⟨rfl, hb⟩
            have HB1 := Lib.hid (HBw.out.call hb)
            clear hb x0 x1 x2 y0 y1 y2 z0 z1 z2 v0 v1 v2
            obtain ⟨x0, x1, x2, y0, y1, y2⟩ := (HT2.out.st2.call HB1.out).box
            obtain ⟨z0, z1, z2, v0, v1, v2⟩ := (HS10.out.call HB1.out).box
            go_wp2_with fail
            refine (RS2.out _ HB1.out).mono ?_
            rintro r w22 ⟨rfl, hb⟩
            have HB2 := Lib.hid (HB1.out.call hb)
            clear hb x0 x1 x2 y0 y1 y2 z0 z1 z2 v0 v1 v2
            go_wp2_with fail
            refine (awake_any _).mono ?_
            rintro r w23 ⟨rfl, hb⟩
            have HB3 := Lib.hid (HB2.out.call hb)
            clear hb
            go_wp2
            go_ret
            exact ⟨rfl, HS3.out.bel.call HB3.out⟩

end Go.Proofs.Ytgjhiekcdcicgaa
