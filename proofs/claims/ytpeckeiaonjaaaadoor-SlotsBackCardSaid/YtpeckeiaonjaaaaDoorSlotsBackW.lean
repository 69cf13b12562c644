/- The walk of SlotsBack. -/
import Derived.Test.YtpeckeiaonjaaaaDoorSlotsAw
import Derived.Test.YtpeckeiaonjaaaaDoorSltP
import Derived.Test.YtpeckeiaonjaaaaDoorDiskNewD
import Derived.Deep.RegionHeld3
import Derived.Deep.DeepCutAuto
import Derived.BigQuiet
import Derived.Deep.QuietTactic
namespace Go.Proofs.YtpeckeiaonjaaaaDoor.Slt
open Go.RowKit Go.Proofs.YtpeckeiaonjaaaaDoor.Dsk Go.Proofs.YtpeckeiaonjaaaaDoor.Sht Go.Proofs.YtpeckeiaonjaaaaDoor.Shf
open Go.Proofs.YtpeckeiaonjaaaaDoor.Crc (Tab)

/-- The two that were saved last. -/
abbrev hasV (G : Nat → Nat) (T : Nat → ByteArray) : List Value := [.int .i64 (G 0), .string (T 0), .int .i64 (G 1), .string (T 1)]
abbrev HasB (w : World) (b : Nat) (G : Nat → Nat) (T : Nat → ByteArray) : Prop := Blk w b 32 (hasV G T)
theorem HasB.at {w : World} {b : Nat} {G : Nat → Nat} {T : Nat → ByteArray} (h : HasB w b G T) {k : Nat} (hk : k < 2) :
    w.cell? ⟨b, k * 2, none⟩ = some (.int .i64 (G k)) ∧ w.cell? ⟨b, k * 2 + 1, none⟩ = some (.string (T k)) := by
  have c0 := h.cell (i := 0) (by simp)
  have c1 := h.cell (i := 1) (by simp)
  have c2 := h.cell (i := 2) (by simp)
  have c3 := h.cell (i := 3) (by simp)
  rcases (show k = 0 ∨ k = 1 by omega) with rfl | rfl
  · exact ⟨c0, c1⟩
  · exact ⟨c2, c3⟩
theorem HasB.cells {w : World} {b : Nat} {G : Nat → Nat} {T : Nat → ByteArray} (h : HasB w b G T) :
    w.cell? ⟨b, 0, none⟩ = some (.int .i64 (G 0)) ∧ w.cell? ⟨b, 1, none⟩ = some (.string (T 0)) ∧ w.cell? ⟨b, 2, none⟩ = some (.int .i64 (G 1)) ∧ w.cell? ⟨b, 3, none⟩ = some (.string (T 1)) :=
  ⟨h.cell (i := 0) (by simp), h.cell (i := 1) (by simp), h.cell (i := 2) (by simp), h.cell (i := 3) (by simp)⟩
theorem HasB.fr {w : World} {b : Nat} {G : Nat → Nat} {T : Nat → ByteArray} (h : HasB w b G T) :
    w.frozen? ⟨b, 0, none⟩ = false ∧ w.frozen? ⟨b, 1, none⟩ = false ∧ w.frozen? ⟨b, 2, none⟩ = false ∧ w.frozen? ⟨b, 3, none⟩ = false :=
  ⟨Blk.frozen h 0, Blk.frozen h 1, Blk.frozen h 2, Blk.frozen h 3⟩
theorem HasB.put {w : World} {b : Nat} {G : Nat → Nat} {T : Nat → ByteArray} (h : HasB w b G T) {k : Nat} (hk : k < 2) (g : Nat) (t : ByteArray) :
    HasB ((w.setCell ⟨b, k * 2, none⟩ (.int .i64 g)).setCell ⟨b, k * 2 + 1, none⟩ (.string t)) b (upd G k g) (upd T k t) := by
  have := (Blk.set_ h (k * 2) (.int .i64 g)).set_ (k * 2 + 1) (.string t)
  rcases (show k = 0 ∨ k = 1 by omega) with rfl | rfl <;> exact this

/-- A device that no write waits on is apart from a block that has fewer cells than it has sectors. -/
theorem Dev.small {w w' : World} {A : Option Addr} {n c : Nat} {A' : Option Addr} {m c' : Nat} {f : Int} {S : List ByteArray} (h : Dev w A n c A' m c' f S []) {b : Nat} {t : TypeId} {vs : List Value} (hb : Blk w b t vs) (hl : vs.length < S.length) (hg : w.grownBy w' (some b)) : Dev w' A n c A' m c' f S [] := by
  refine ⟨⟨h.sec.1, fun h0 => ?_⟩, ?_, h.lo, h.hi, h.ns, h.nw⟩
  · obtain ⟨g, off, e, hlt, hc⟩ := h.sec.2 h0
    have hne : g ≠ b := fun e2 => by
      subst e2
      have h3 := hc vs.length (by rw [SV_length]; exact hl)
      rw [cell_of_row w g _ _ _ _ hb, List.getElem?_toArray, List.getElem?_eq_none (by omega)] at h3
      cases h3
    exact ⟨g, off, e, Nat.lt_of_lt_of_le hlt hg.size, fun i hi => (World.cell?_of_block (a := ⟨g, off + i, none⟩) (hg.block g hlt (by simpa using hne))).trans (hc i hi)⟩
  · have := h.wr.wr
    refine ⟨h.wr.1, fun h0 => ?_⟩
    simp at this
    omega

structure BkI (w wr : World) (db hb : Nat) (A : Option Addr) (n c : Nat) (A' : Option Addr) (m c' : Nat) (S : List ByteArray) (N : Nat) (G : Nat → Nat) (T : Nat → ByteArray) (i : Nat) : Prop where
  bel : Below w.heap.size w wr
  st : St wr db A n c A' m c' (-1)
  dev : Dev wr A n c A' m c' (-1) S []
  has : HasB wr hb G T
  inv : Many S N G T (4 * i)

theorem BkI.call {w wr w' : World} {db hb : Nat} {A : Option Addr} {n c : Nat} {A' : Option Addr} {m c' : Nat} {S : List ByteArray} {N : Nat} {G : Nat → Nat} {T : Nat → ByteArray} {i : Nat} (h : BkI w wr db hb A n c A' m c' S N G T i) (hb' : Below wr.heap.size wr w') : BkI w w' db hb A n c A' m c' S N G T i :=
  ⟨h.bel.call hb', h.st.call hb', h.dev.below hb', h.has.call hb', h.inv⟩

/-- The same without what is known of the disk. -/
structure BkM (w wr : World) (db hb : Nat) (A : Option Addr) (n c : Nat) (A' : Option Addr) (m c' : Nat) (S : List ByteArray) (G : Nat → Nat) (T : Nat → ByteArray) : Prop where
  bel : Below w.heap.size w wr
  st : St wr db A n c A' m c' (-1)
  dev : Dev wr A n c A' m c' (-1) S []
  has : HasB wr hb G T

theorem BkM.call {w wr w' : World} {db hb : Nat} {A : Option Addr} {n c : Nat} {A' : Option Addr} {m c' : Nat} {S : List ByteArray} {G : Nat → Nat} {T : Nat → ByteArray} (h : BkM w wr db hb A n c A' m c' S G T) (hb' : Below wr.heap.size wr w') : BkM w w' db hb A n c A' m c' S G T :=
  ⟨h.bel.call hb', h.st.call hb', h.dev.below hb', h.has.call hb'⟩
theorem BkM.drew {w wr : World} {db hb : Nat} {A : Option Addr} {n c : Nat} {A' : Option Addr} {m c' : Nat} {S : List ByteArray} {G : Nat → Nat} {T : Nat → ByteArray} (h : BkM w wr db hb A n c A' m c' S G T) : BkM w wr.drew db hb A n c A' m c' S G T := h.call (Below.refl _ _).drew

/-- The device's variable is written. -/
theorem BkI.dev_put {w wr : World} {db hb : Nat} {A : Option Addr} {n c : Nat} {A' : Option Addr} {m c' : Nat} {S : List ByteArray} {N : Nat} {G : Nat → Nat} {T : Nat → ByteArray} {i : Nat} (h : BkI w wr db hb A n c A' m c' S N G T i) (hw : w.heap.size ≤ db) (hne : ¬ db = hb)
    {B : Option Addr} {p d : Nat} {B' : Option Addr} {q d' : Nat} {S' : List ByteArray} (hD : Dev wr B p d B' q d' (-1) S' []) :
    BkM w (((wr.setCell ⟨db, 0, none⟩ (.slice B p d)).setCell ⟨db, 1, none⟩ (.slice B' q d')).setCell ⟨db, 2, none⟩ (.int .i64 (-1))) db hb B p d B' q d' S' G T := by
  have hg := grown_set3 wr db (.slice B p d) (.slice B' q d') (.int .i64 (-1))
  refine ⟨h.bel.grown hg h.bel.size (by simpa using hw), h.st.set3 _ _ _ _ _ _ _, hD.only h.st.ns hg, h.has.of_block (hg.block hb h.has.lt (by simpa using fun e => hne e.symm))⟩

/-- What was saved last is written. -/
theorem BkM.has_put {w wr : World} {db hb : Nat} {A : Option Addr} {n c : Nat} {A' : Option Addr} {m c' : Nat} {S : List ByteArray} {G : Nat → Nat} {T : Nat → ByteArray} (h : BkM w wr db hb A n c A' m c' S G T) (hw : w.heap.size ≤ hb) (hne : ¬ db = hb) (hl : 16 ≤ S.length) {k : Nat} (hk : k < 2) (g : Nat) (t : ByteArray) :
    BkM w ((wr.setCell ⟨hb, k * 2, none⟩ (.int .i64 g)).setCell ⟨hb, k * 2 + 1, none⟩ (.string t)) db hb A n c A' m c' S (upd G k g) (upd T k t) := by
  have hg : wr.grownBy ((wr.setCell ⟨hb, k * 2, none⟩ (.int .i64 g)).setCell ⟨hb, k * 2 + 1, none⟩ (.string t)) (some hb) := grown_set (grown_set (World.grownBy.refl wr _) _ _) _ _
  refine ⟨h.bel.grown hg h.bel.size (by simpa using hw), h.st.of_block (hg.block db h.st.lt (by simpa using hne)), Dev.small h.dev h.has (by simp only [List.length_cons, List.length_nil]; omega) hg, h.has.put hk g t⟩

set_option maxRecDepth 100000 in
set_option maxHeartbeats 4000000 in
theorem walk_back (nn : Nat) (hnn : nn < 256) (A : Option Addr) (M cl : Nat) (L : List ByteArray) (w : World) (hT : Tab w) (hL : RV w A M 1 (SV L)) (hcl : M ≤ cl) :
    Calls Tryd.prog 3 #[.int .u8 nn, .slice A M cl] w fun r w' => r = .returned (.bool true) ∧ Below w.heap.size w w' := by
  have HAw := Lib.hid (fun W (hb : Below w.heap.size w W) => awake_any W (Shf.tab_call hT hb))
  by_cases h2 : (M : Int) ≤ 12
  · obtain ⟨N, hN⟩ : ∃ N, N = 16 + nn % 64 := ⟨_, rfl⟩
    have hN1 : 16 ≤ N := by omega
    have hN2 : N ≤ 79 := by omega
    have HN := Lib.hid (fun (z : Int) W (hz : z = (N : Nat)) => (by subst hz; exact new_yes N W (by omega) (by omega) : Calls Tryd.prog 5 #[.int .i64 z] W (RetDE W (newS N) [] (-1) 0)))
    have HM0 := Lib.hid (many_new hN1 (by omega))
    unfold RetDE at HN
    have HT := Lib.hid hT
    have HLv := Lib.hid hL
    have HLl := Lib.hid hL.sec
    clear hT hL
    go_enter Tryd.func3, Tryd.ntmps3
    go_wp2_with (go_at_call 5; (with_reducible refine (HN.out _ _ (by omega)).mono ?_); rintro r w1 ⟨A1, n1, c1, A1', m1, c1', rfl, hd1, b1⟩)
    have HB1 := Lib.hid ((((Below.refl w.heap.size w).call b1).push (D33 A1 n1 c1 A1' m1 c1' (-1))).push (.cells #[.int .i64 0, .string ⟨#[]⟩, .int .i64 0, .string ⟨#[]⟩] 32))
    have hwd : w.heap.size ≤ w1.heap.size := b1.size
    have H0 : Hid (BkI w ((w1.alloc (D33 A1 n1 c1 A1' m1 c1' (-1))).alloc (.cells #[.int .i64 0, .string ⟨#[]⟩, .int .i64 0, .string ⟨#[]⟩] 32)) w1.heap.size (w1.heap.size + 1) A1 n1 c1 A1' m1 c1' (newS N) N (fun _ => 0) (fun _ => ⟨#[]⟩) 0) := Lib.hid
      ⟨HB1.out, (St.new w1 A1 n1 c1 A1' m1 c1' (-1) 26).alloc _, (hd1.new _).new _, by have := Blk.new (w1.alloc (D33 A1 n1 c1 A1' m1 c1' (-1))) 32 #[.int .i64 0, .string ⟨#[]⟩, .int .i64 0, .string ⟨#[]⟩]; rwa [World.size_alloc] at this, HM0.out⟩
    have HWD := Lib.hid hwd
    generalize ((w1.alloc (D33 A1 n1 c1 A1' m1 c1' (-1))).alloc (.cells #[.int .i64 0, .string ⟨#[]⟩, .int .i64 0, .string ⟨#[]⟩] 32)) = w2 at *
    have hwh : w.heap.size ≤ w1.heap.size + 1 := by omega
    have hne : ¬ w1.heap.size = w1.heap.size + 1 := by omega
    clear b1 hd1 HN HM0 HB1 HWD
    generalize w1.heap.size + 1 = hb at *
    generalize w1.heap.size = db at *
    have HWD := Lib.hid hwd
    have HWH := Lib.hid hwh
    have HNE := Lib.hid hne
    clear hwd hwh hne
    go_loopw [8] (fun s8 wr => ∃ i : Nat, i ≤ M ∧ s8 = .int .i64 i ∧ Hid (∃ A n c A' m c' S G T, BkI w wr db hb A n c A' m c' S N G T i)) (fun s8 _ => M - (intOf s8).toNat)
    case atStart => exact ⟨0, Nat.zero_le _, rfl, Lib.hid ⟨_, _, _, _, _, _, _, _, _, H0.out⟩⟩
    case round =>
      obtain ⟨i, hi, rfl, HI⟩ := hrel
      obtain ⟨A3, n3, c3, A3', m3, c3', S, G, T, hI⟩ := HI.out
      have HI3 := Lib.hid hI
      obtain ⟨d0, d1, d2, f0, f1, f2⟩ := hI.st.box
      have hld := hI.st.lt
      clear hI HI H0
      by_cases hlt : i < M
      · have hil : i < L.length := by have := HLl.out; omega
        obtain ⟨b, off, rfl, hbw, hall⟩ := HLv.out.2 (by omega)
        have c0 := hall i (by rw [SV_length]; exact hil)
        rw [show (SV L)[i]'(by rw [SV_length]; exact hil) = .string L[i] from by simp [SV]] at c0
        have HC0 := Lib.hid c0
        have HBW := Lib.hid hbw
        have hb' := Nat.lt_of_lt_of_le hbw HI3.out.bel.size
        have t0 := (HI3.out.bel.cell (p := ⟨b, off + i, none⟩) hbw).trans c0
        clear c0 hbw
        clear hall
        generalize L[i] = xt at *
        by_cases h3 : (xt.size : Int) ≤ 140
        · obtain ⟨k, hk⟩ : ∃ k, k = xt.size % 2 := ⟨_, rfl⟩
          have hk2 : k < 2 := by omega
          obtain ⟨g, S', p, c, hg, hg1, hc1, hc4, hgb, hsv, htop', hM', hbest⟩ := HI3.out.inv.step (by omega) hk2 (t := xt) (by omega)
          have HTp := Lib.hid (topD_any A3 n3 c3 A3' m3 c3' (-1) S [] wr HI3.out.dev)
          rw [show topD S [] (-1) = topL S from by unfold topD; rw [if_pos (HI3.out.inv.good.chk (by omega)), HI3.out.inv.good.secs]] at HTp
          have hgt : topL S = (g : Int) - 1 := by omega
          rw [hg] at hsv
          rw [hgt] at HTp
          have HSv := Lib.hid hsv
          have HTop := Lib.hid htop'
          have HM := Lib.hid hM'
          have HBest := Lib.hid hbest
          have hg200 : (g : Int) ≤ 200 := by omega
          have HMod : Hid (((xt.size : Nat) : Int).tmod 2 = (k : Nat)) := Lib.hid (by rw [Int.tmod_eq_emod_of_nonneg (by omega)]; omega)
          have HMe : Hid (((xt.size : Nat) : Int) % 2 = (k : Nat)) := Lib.hid (by omega)
          clear hk
          clear hsv htop' hM' hbest hg hgt
          go_wp2_with fail
          with_reducible refine HTp.out.mono ?_
          rintro r w4 ⟨rfl, b4⟩
          have HI4 := Lib.hid (HI3.out.call b4)
          have hb4 : b < w4.heap.size := Nat.lt_of_lt_of_le hb' b4.size
          have u0 := (b4.cell (p := ⟨b, off + i, none⟩) hb').trans t0
          clear b4 t0 d0 d1 d2 f0 f1 f2 hld HTp hb'
          go_upto_region 13 with fail
          have HSave : Hid (∀ W (z s1 s2 : Int), Below w4.heap.size w4 W → z = (k : Nat) → s1 = (g : Nat) → s2 = (g : Nat) → Calls Tryd.prog 7 #[DV A3 n3 c3 A3' m3 c3' (-1), .int .i64 z, .int .i64 s1, .int .i64 s2, .string xt] W (RetS W ⟨S', [], -1, p, (g : Int) + c, 0⟩)) := Lib.hid (fun W z s1 s2 hb hz h1 h2 => by
            subst hz h1 h2
            have := save_any A3 n3 c3 A3' m3 c3' (-1) S [] k g g xt W (HI4.out.dev.below hb) (Shf.tab_call HT.out (HI4.out.bel.call hb))
            rwa [HSv.out] at this)
          unfold RetS at HSave
          dsimp only at HSave
          go_cut [10, 11, 12] (fun s10 s11 s12 wx => ∃ xb A6 n6 c6 A6' m6 c6', s10 = .pointer (some ⟨xb, 0, none⟩) ∧ s11 = .int .i64 ((g : Int) + c) ∧ s12 = .int .i64 0 ∧ Hid (NewD w4 wx xb A6 n6 c6 A6' m6 c6' (-1) S' []))
          case first =>
            obtain ⟨x0, x1, x2, -, -, -⟩ := HI4.out.st.box
            have hl1 := HI4.out.st.lt
            have ne1 : ¬ w4.heap.size = db := by omega
            have ne2 : ¬ w4.heap.size = b := by omega
            go_region_held3 (fun W => W.cell? ⟨db, 0, none⟩ = some (.slice A3 n3 c3) ∧ W.cell? ⟨db, 1, none⟩ = some (.slice A3' m3 c3') ∧ W.cell? ⟨db, 2, none⟩ = some (.int .i64 (-1)) ∧ W.cell? ⟨b, off + i, none⟩ = some (.string xt)) (go_keep)
              (first
                | (go_at_call 7; ((with_reducible refine (HSave.out _ _ _ _ (by repeat (first | exact Below.refl _ _ | refine Below.push ?_ _ | refine Below.drew ?_)) (by first | exact HMod.out | omega) (by omega) (by omega)).mono ?_)); rintro r w5 ⟨A5, n5, c5, A5', m5, c5', rfl, hD5, hb5⟩; obtain ⟨hc, hf⟩ := bcell hb5; have hlt5 := blt hb5; have hbw : Below w4.heap.size w4 w5 := (Below.call (by repeat (first | exact Below.refl _ _ | refine Below.push ?_ _ | refine Below.drew ?_)) hb5); have q0 : w5.cell? ⟨db, 0, none⟩ = some (.slice A3 n3 c3) := (by rw [hbw.cell (p := ⟨db, 0, none⟩) hl1]; exact x0); have q1 : w5.cell? ⟨db, 1, none⟩ = some (.slice A3' m3 c3') := (by rw [hbw.cell (p := ⟨db, 1, none⟩) hl1]; exact x1); have q2 : w5.cell? ⟨db, 2, none⟩ = some (.int .i64 (-1)) := (by rw [hbw.cell (p := ⟨db, 2, none⟩) hl1]; exact x2); have q3 : w5.cell? ⟨b, off + i, none⟩ = some (.string xt) := (by rw [hbw.cell (p := ⟨b, off + i, none⟩) hb4]; exact u0); have ne4 : ¬ w5.heap.size = db := (by have := hbw.size; omega); have ne5 : ¬ w5.heap.size = b := (by have := hbw.size; omega); have HD5 := Lib.hid hD5; clear hD5))
            · go_wp2_with fail
              go_meet
              exact ⟨_, _, _, _, _, _, _, rfl, rfl, rfl, NewD.fresh hbw HD5.out 26⟩
            · go_wp2_with fail
              go_meet
              exact ⟨_, _, _, _, _, _, _, rfl, rfl, rfl, NewD.put hbw HD5.out ((St.new w4 none 0 0 none 0 0 0 26).call (undrew hb5)) (Nat.le_refl _)⟩
          case rest =>
            obtain ⟨xb, A6, n6, c6, A6', m6, c6', rfl, rfl, rfl, HN6⟩ := hcut
            have HI5 := Lib.hid (HI4.out.call HN6.out.bel)
            have hb5 : b < wc.heap.size := Nat.lt_of_lt_of_le hb4 HN6.out.bel.size
            have t0 := (HN6.out.bel.cell (p := ⟨b, off + i, none⟩) hb4).trans u0
            clear u0 HSave hb4
            have HTx := Lib.hid (topD_any A6 n6 c6 A6' m6 c6' (-1) S' [] wc HN6.out.dev)
            rw [show topD S' [] (-1) = (g : Int) + c - 1 from by unfold topD; rw [if_pos (HM.out.good.chk (by omega)), HM.out.good.secs, HTop.out]] at HTx
            obtain ⟨z0, z1, z2, -, -, -⟩ := HN6.out.st.box
            have hlz := HN6.out.st.lt
            have hwrl := HN6.out.dev.wr.wr
            obtain rfl : m6 = 0 := by simpa using hwrl.symm
            go_wp2_with fail
            with_reducible refine HTx.out.mono ?_
            rintro r w7 ⟨rfl, b7⟩
            have HI7 := Lib.hid (HI5.out.call b7)
            have HX7 := Lib.hid (HN6.out.st.call b7)
            have HD7 := Lib.hid (HN6.out.dev.below b7)
            have hb7 : b < w7.heap.size := Nat.lt_of_lt_of_le hb5 b7.size
            have t7 := (b7.cell (p := ⟨b, off + i, none⟩) hb5).trans t0
            have HXB : Hid (w.heap.size ≤ xb) := Lib.hid (by have := HN6.out.new; have := HI4.out.bel.size; omega)
            clear z0 z1 z2 hlz b7 t0 HTx HN6 HI5 HI4 hb5
            obtain ⟨z0, z1, z2, -, -, -⟩ := HX7.out.box
            have hlz := HX7.out.lt
            have hi9 := HI7.out.dev_put HWD.out HNE.out HD7.out
            have HM9 := Lib.hid hi9
            obtain ⟨d0, d1, d2, f0, f1, f2⟩ := HI7.out.st.box
            have hld := HI7.out.st.lt
            clear hi9
            go_upto_region 17 with fail
            generalize (((w7.setCell ⟨db, 0, none⟩ (.slice A6 n6 c6)).setCell ⟨db, 1, none⟩ (.slice A6' 0 c6')).setCell ⟨db, 2, none⟩ (.int .i64 (-1))) = W9 at *
            have t9 := (HM9.out.bel.cell (p := ⟨b, off + i, none⟩) HBW.out).trans HC0.out
            have hb9 := Nat.lt_of_lt_of_le HBW.out HM9.out.bel.size
            clear z0 z1 z2 d0 d1 d2 f0 f1 f2 hlz hld t7
            go_cut [] (fun wx => Hid (BkM w wx db hb A6 n6 c6 A6' 0 c6' S' (upd G k g) (upd T k xt)))
            case first =>
              have HP := Lib.hid (HM9.out.has_put HWH.out HNE.out (by have := HM.out.good.lo; omega) hk2 g xt)
              have hl9 := HM9.out.has.lt
              obtain ⟨a0, a1, a2, a3⟩ := HasB.cells HM9.out.has
              obtain ⟨e0, e1, e2, e3⟩ := HasB.fr HM9.out.has
              rcases (show k = 0 ∨ k = 1 by omega) with rfl | rfl
              · have hm0 : ((xt.size : Nat) : Int).tmod 2 = 0 := HMod.out
                go_region
                all_goals (
                  go_wp2_with fail
                  go_meet
                  exact Lib.hid HP.out.drew)
              · have hm0 : ((xt.size : Nat) : Int).tmod 2 = 1 := HMod.out
                go_region
                all_goals (
                  go_wp2_with fail
                  go_meet
                  exact Lib.hid HP.out.drew)
            case rest =>
              have HM10 := hcut
              clear hcut HM9 HX7 HD7 HI7 hb9 t9 hb7
              have HGk := Lib.hid (upd_same G k g)
              have HTk := Lib.hid (upd_same T k xt)
              generalize upd G k g = G2 at *
              generalize upd T k xt = T2 at *
              have c1 := (HM10.out.bel.cell (p := ⟨b, off + i, none⟩) HBW.out).trans HC0.out
              have hb10 := Nat.lt_of_lt_of_le HBW.out HM10.out.bel.size
              go_upto_region 18 with fail
              go_cut [13] (fun s13 wx => ∃ yb, s13 = .pointer (some ⟨yb, 0, none⟩) ∧ Hid (BkM w wx db hb A6 n6 c6 A6' 0 c6' S' G2 T2 ∧ Bx2 wx yb (.int .i64 g) (.string xt)))
              case first =>
                have hl9 := HM10.out.has.lt
                obtain ⟨a0, a1, a2, a3⟩ := HasB.cells HM10.out.has
                have HP := Lib.hid (And.intro (HM10.out.call (new1 wc (.cells #[.int .i64 g, .string xt] 31))) (Bx2.new wc (.int .i64 g) (.string xt) 31))
                rcases (show k = 0 ∨ k = 1 by omega) with rfl | rfl
                · have hm0 : ((xt.size : Nat) : Int) % 2 = 0 := HMe.out
                  rw [HGk.out] at a0; rw [HTk.out] at a1
                  go_wp2_with fail
                  go_meet
                  exact ⟨_, rfl, HP⟩
                · have hm0 : ((xt.size : Nat) : Int) % 2 = 1 := HMe.out
                  rw [HGk.out] at a2; rw [HTk.out] at a3
                  go_wp2_with fail
                  go_meet
                  exact ⟨_, rfl, HP⟩
              case rest =>
                obtain ⟨yb, rfl, HM11⟩ := hcut
                have HBe : Hid (∀ W, Below w.heap.size w W → Dev W A6 n6 c6 A6' 0 c6' (-1) S' [] → Calls Tryd.prog 8 #[DV A6 n6 c6 A6' 0 c6' (-1)] W (RetB W ⟨(k : Nat), (g : Nat), xt, 0⟩)) := Lib.hid (fun W hb hD => by
                  have := best_any A6 n6 c6 A6' 0 c6' (-1) S' [] W hD (Shf.tab_call HT.out hb)
                  rwa [HBest.out] at this)
                unfold RetB at HBe
                dsimp only at HBe
                obtain ⟨d0, d1, d2, -, -, -⟩ := HM11.out.1.st.box
                have hld := HM11.out.1.st.lt
                clear HM10 c1 hb10
                go_wp2_with fail
                with_reducible refine (HBe.out _ HM11.out.1.bel HM11.out.1.dev).mono ?_
                rintro r w12 ⟨rfl, b12⟩
                have HM12 := Lib.hid ((HM11.out.1.call b12).call (new1 w12 (.cells #[.int .i64 g, .string xt] 31)))
                obtain ⟨y0, y1, -, -⟩ := HM11.out.2.call b12
                have hly := (HM11.out.2.call b12).lt
                clear b12 HBe d0 d1 d2 hld
                go_wp2_with fail
                generalize w12.alloc (.cells #[.int .i64 g, .string xt] 31) = W12 at *
                clear y0 y1 hly HM11
                go_loopw [17] (fun s17 wr => ∃ j : Nat, (j : Int) ≤ 2 ∧ s17 = .int .i64 j ∧ Hid (BkM w wr db hb A6 n6 c6 A6' 0 c6' S' G2 T2)) (fun s17 _ => 2 - (intOf s17).toNat)
                case atStart => exact ⟨0, by decide, rfl, HM12⟩
                case round =>
                  obtain ⟨j, hj, rfl, HJ⟩ := hrel
                  obtain ⟨d0, d1, d2, -, -, -⟩ := HJ.out.st.box
                  have hld := HJ.out.st.lt
                  by_cases hj2 : (j : Int) < 2
                  · have HLo := Lib.hid (load_any A6 n6 c6 A6' 0 c6' (-1) S' [] j _ HJ.out.dev (Shf.tab_call HT.out HJ.out.bel))
                    unfold RetN at HLo
                    have hld2 := HM.out.load (by omega) (show j < 2 by omega)
                    go_wp2_with fail
                    rcases hld2 with ⟨g0, e0⟩ | ⟨g0, e0, e1, e2, -⟩
                    · rw [e0] at HLo
                      generalize loadDG S' [] (-1) j = lg at *
                      generalize loadDT S' [] (-1) j = lt at *
                      with_reducible refine HLo.out.mono ?_
                      rintro r w14 ⟨rfl, b14⟩
                      have HJ14 := Lib.hid ((HJ.out.call b14).call (new1 w14 (.cells #[.int .i64 lg, .string lt] 31)))
                      have HX14 := Lib.hid (Bx2.new w14 (.int .i64 lg) (.string lt) 31)
                      clear b14 HLo d0 d1 d2 hld
                      go_upto_region 26 with fail
                      generalize hW14 : w14.alloc (.cells #[.int .i64 lg, .string lt] 31) = W14 at *
                      clear hW14
                      generalize w14.heap.size = vb at *
                      obtain ⟨a0, a1⟩ := HasB.at HJ14.out.has (show j < 2 by omega)
                      rw [g0, show ((0 : Nat) : Int) = 0 from rfl] at a0
                      have hlh := HJ14.out.has.lt
                      obtain ⟨x0, x1, -, -⟩ := HX14.out
                      have hlx := HX14.out.lt
                      clear g0 e0
                      go_quiet (fail)
                      go_wp2_with fail
                      go_roundw
                      case rel => exact ⟨j + 1, by omega, by go_num, Lib.hid (HJ14.out.call ((Below.refl _ _).drewN _))⟩
                      case measure => simp [intOf]; omega
                    · rw [e0, e1, e2] at HLo
                      generalize hgj : G2 j = gj at HLo g0
                      generalize htj : T2 j = tj at HLo
                      have hgz : ¬ ((gj : Int) = 0) := by omega
                      have hgz2 : (((gj : Int)) == 0) = false := by simpa using (show ¬ gj = 0 by omega)
                      have hgz3 : ¬ gj = 0 := by omega
                      have hgp : (0 : Int) < gj := by omega
                      with_reducible refine HLo.out.mono ?_
                      rintro r w14 ⟨rfl, b14⟩
                      have HJ14 := Lib.hid ((HJ.out.call b14).call (new1 w14 (.cells #[.int .i64 (gj : Int), .string tj] 31)))
                      have HX14 := Lib.hid (Bx2.new w14 (.int .i64 (gj : Int)) (.string tj) 31)
                      clear b14 HLo d0 d1 d2 hld
                      go_upto_region 26 with fail
                      generalize hW14 : w14.alloc (.cells #[.int .i64 (gj : Int), .string tj] 31) = W14 at *
                      clear hW14
                      generalize w14.heap.size = vb at *
                      obtain ⟨a0, a1⟩ := HasB.at HJ14.out.has (show j < 2 by omega)
                      rw [hgj] at a0; rw [htj] at a1
                      have hlh := HJ14.out.has.lt
                      obtain ⟨x0, x1, -, -⟩ := HX14.out
                      have hlx := HX14.out.lt
                      go_quiet (fail)
                      go_wp2_with fail
                      go_roundw
                      case rel => exact ⟨j + 1, by omega, by go_num, Lib.hid (HJ14.out.call ((Below.refl _ _).drewN _))⟩
                      case measure => simp [intOf]; omega
                  · obtain rfl : j = 2 := by omega
                    clear d0 d1 d2 hld
                    go_wp2_with fail
                    go_roundw
                    case rel => exact ⟨i + 1, by omega, by go_num, Lib.hid ⟨_, _, _, _, _, _, _, _, _, ⟨HJ.out.bel, HJ.out.st, HJ.out.dev, HJ.out.has, by rw [show 4 * (i + 1) = 4 * i + 4 by omega]; exact HM.out⟩⟩⟩
                    case measure => simp [intOf]; omega
        · have h3' : (140 : Int) < xt.size := by omega
          go_wp2_with (go_at_call 4; with_reducible refine (HAw.out _ HI3.out.bel).mono ?_; rintro r w4 ⟨rfl, b4⟩; have HB4 := Lib.hid b4; clear b4)
          go_ret
          exact ⟨rfl, HI3.out.bel.call HB4.out⟩
      · obtain rfl : i = M := by omega
        have hinv := HI3.out.inv
        have hns := HI3.out.dev.sec.sec
        obtain rfl : n3 = N := by have := hinv.len; omega
        have HDr : Hid (∀ W, Below wr.heap.size wr W → Calls Tryd.prog 10 #[DV A3 n3 c3 A3' m3 c3' (-1), .int .i64 (2 * sizR n3), .int .i64 n3] W (RetT W [])) := Lib.hid (fun W hb => by
          have := drain_any A3 n3 c3 A3' m3 c3' (-1) S [] (2 * sizR n3) n3 W (HI3.out.dev.below hb)
          rwa [hinv.drain] at this)
        have HBg := Lib.hid (fun W => begin_any n3 W)
        unfold RetT at HDr
        generalize 2 * sizR n3 = z2 at *
        clear hinv hns hN
        go_upto_region 28 with fail
        obtain ⟨x0, x1, x2, -, -, -⟩ := HI3.out.st.box
        have hl1 := HI3.out.st.lt
        go_region_held3 (fun W => W.cell? ⟨db, 0, none⟩ = some (.slice A3 n3 c3) ∧ W.cell? ⟨db, 1, none⟩ = some (.slice A3' m3 c3') ∧ W.cell? ⟨db, 2, none⟩ = some (.int .i64 (-1))) (go_keep)
          (first
            | (go_at_call 11; ((with_reducible refine (HBg.out _).mono ?_); rintro r w4 ⟨rfl, rfl⟩))
            | (go_at_call 10; ((with_reducible refine (HDr.out _ (by repeat (first | exact Below.refl _ _ | refine Below.push ?_ _ | refine Below.drew ?_))).mono ?_); rintro r w5 ⟨A5, m5, c5, rfl, hr5, b5⟩; have h5 := hr5.sec; obtain rfl : m5 = 0 := (by simpa using h5.symm); have hbw : Below wr.heap.size wr w5 := (Below.call (by repeat (first | exact Below.refl _ _ | refine Below.push ?_ _ | refine Below.drew ?_)) b5); have q0 : w5.cell? ⟨db, 0, none⟩ = some (.slice A3 n3 c3) := (by rw [hbw.cell (p := ⟨db, 0, none⟩) hl1]; exact x0); have q1 : w5.cell? ⟨db, 1, none⟩ = some (.slice A3' m3 c3') := (by rw [hbw.cell (p := ⟨db, 1, none⟩) hl1]; exact x1); have q2 : w5.cell? ⟨db, 2, none⟩ = some (.int .i64 (-1)) := (by rw [hbw.cell (p := ⟨db, 2, none⟩) hl1]; exact x2); have HB5 : Hid (Below w.heap.size w w5) := Lib.hid (HI3.out.bel.call hbw); clear b5 hr5 h5))
            | (go_at_call 4; ((with_reducible refine (HAw.out _ (by first | exact HB5.out | exact HB5.out.drew)).mono ?_); rintro r w6 ⟨rfl, b6⟩; have HB6 : Hid (Below w.heap.size w w6) := Lib.hid (HB5.out.call b6); have hbw6 : Below wr.heap.size wr w6 := Below.call hbw b6; have r0 : w6.cell? ⟨db, 0, none⟩ = some (.slice A3 n3 c3) := (by rw [hbw6.cell (p := ⟨db, 0, none⟩) hl1]; exact x0); have r1 : w6.cell? ⟨db, 1, none⟩ = some (.slice A3' m3 c3') := (by rw [hbw6.cell (p := ⟨db, 1, none⟩) hl1]; exact x1); have r2 : w6.cell? ⟨db, 2, none⟩ = some (.int .i64 (-1)) := (by rw [hbw6.cell (p := ⟨db, 2, none⟩) hl1]; exact x2))))
        all_goals (
          go_wp2_with fail
          go_ret
          first
            | exact ⟨rfl, HB6.out⟩
            | exact ⟨rfl, HB6.out.drew⟩)
  · have h2' : (12 : Int) < M := by omega
    go_enter Tryd.func3, Tryd.ntmps3
    go_wp2_with (go_at_call 4; with_reducible refine (HAw.out _ (Below.refl _ _)).mono ?_; rintro r w1 ⟨rfl, b1⟩; have HB1 := Lib.hid b1; clear b1)
    go_ret
    exact ⟨rfl, HB1.out⟩

end Go.Proofs.YtpeckeiaonjaaaaDoor.Slt
