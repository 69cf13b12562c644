/- The walk of StoreFull. -/
import Derived.Test.YtkglolnghihegaaGreatDoorStoAw
import Derived.Test.YtkglolnghihegaaGreatDoorStoC
import Derived.Test.YtkglolnghihegaaGreatDoorDiskNew
import Derived.Deep.RegionHeld3
import Derived.Deep.DeepCutAuto
namespace Go.Proofs.YtkglolnghihegaaGreatDoor.Sto
open Go.RowKit Go.Proofs.YtkglolnghihegaaGreatDoor.Dsk Go.Proofs.YtkglolnghihegaaGreatDoor.Slt Go.Proofs.YtkglolnghihegaaGreatDoor.Jrn
open Go.Proofs.YtkglolnghihegaaGreatDoor.Crc (Tab)

/-- What holds ahead of each round: b5 holds the disk that was made, b11 the state. -/
structure Ful (w wr : World) (b5 b11 : Nat) (A1 : Option Addr) (c1 : Nat) (A1' : Option Addr) (m1 c1' : Nat) (A : Option Addr) (n c : Nat) (A' : Option Addr) (m c' : Nat) (N i : Nat) (x : Nm) (S : List ByteArray) : Prop where
  bel : Below w.heap.size w wr
  st : St wr b5 A1 N c1 A1' m1 c1' (-1)
  sy : Sy 31 wr b11 A n c A' m c' (-1) x.slot x.gen x.stamp x.at_ x.no x.live
  dev : Dev wr A n c A' m c' (-1) S []
  fi : FI S N i x
  ne : b5 ≠ b11
  lo : w.heap.size ≤ b11
section
variable {w wr w' : World} {b5 b11 : Nat} {A1 : Option Addr} {c1 : Nat} {A1' : Option Addr} {m1 c1' : Nat} {A : Option Addr} {n c : Nat} {A' : Option Addr} {m c' : Nat} {N i : Nat} {x : Nm} {S : List ByteArray}
theorem Ful.call (h : Ful w wr b5 b11 A1 c1 A1' m1 c1' A n c A' m c' N i x S) (hb : Below wr.heap.size wr w') : Ful w w' b5 b11 A1 c1 A1' m1 c1' A n c A' m c' N i x S :=
  ⟨h.bel.call hb, h.st.call hb, h.sy.call hb, h.dev.below hb, h.fi, h.ne, h.lo⟩
theorem St.of_grown {w w' : World} {b g : Nat} {A : Option Addr} {n c : Nat} {A' : Option Addr} {m c' : Nat} {f : Int} (h : St w b A n c A' m c' f) (hg : w.grownBy w' (some g)) (hne : b ≠ g) : St w' b A n c A' m c' f :=
  h.of_block (hg.block b h.lt (by simpa using hne))
/-- Another state is stored in its place. -/
theorem Ful.put (h : Ful w wr b5 b11 A1 c1 A1' m1 c1' A n c A' m c' N i x S) {B : Option Addr} {p d : Nat} {B' : Option Addr} {q d' : Nat} {y : Nm} {Z : List ByteArray} {j : Nat} (hd : Dev wr B p d B' q d' (-1) Z []) (hf : FI Z N j y)
    (e : w' = (((((((((wr.setCell ⟨b11, 0, none⟩ (.slice B p d)).setCell ⟨b11, 1, none⟩ (.slice B' q d')).setCell ⟨b11, 2, none⟩ (.int .i64 (-1))).setCell ⟨b11, 3, none⟩ (.int .i64 y.slot)).setCell ⟨b11, 4, none⟩ (.int .i64 y.gen)).setCell ⟨b11, 5, none⟩ (.int .i64 y.stamp)).setCell ⟨b11, 6, none⟩ (.int .i64 y.at_)).setCell ⟨b11, 7, none⟩ (.int .i64 y.no)).setCell ⟨b11, 8, none⟩ (.bool y.live))) :
    Ful w w' b5 b11 A1 c1 A1' m1 c1' B p d B' q d' N j y Z := by
  obtain ⟨h1, h2⟩ := h.sy.put B p d B' q d' (-1) y.slot y.gen y.stamp y.at_ y.no y.live e
  exact ⟨below_grown h.bel h2 h.lo, St.of_grown h.st h2 h.ne, h1, hd.only h.sy.ns h2, hf, h.ne, h.lo⟩
end
/-- .. for some. -/
def FulE (w wr : World) (b5 b11 : Nat) (A1 : Option Addr) (c1 : Nat) (A1' : Option Addr) (m1 c1' : Nat) (N i : Nat) : Prop :=
  ∃ A n c A' m c' x S, Ful w wr b5 b11 A1 c1 A1' m1 c1' A n c A' m c' N i x S

theorem full_room {N : Nat} (h1 : 16 ≤ N) (h2 : N ≤ 47) : ∃ g : Int, 2 * sizR (N : Int) = g ∧ 0 ≤ g ∧ g ≤ 47 ∧ 37 * ((N : Int) - g) - 8 = 37 * ((N - 2 * (N / 4) : Nat) : Int) - 8 := by
  have e4 := sizR_of (n := N) (by omega) (by omega)
  exact ⟨_, rfl, by omega, by omega, by omega⟩

set_option maxRecDepth 100000 in
set_option maxHeartbeats 4000000 in
theorem walk_full (a : Int) (ha1 : 0 ≤ a) (ha2 : a ≤ 255) (E : Option Addr) (k ec : Nat) (L : List ByteArray) (w : World) (hT : Tab w) (hL : RV w E k 1 (SV L)) :
    Calls Tryz.prog 6 #[.int .u8 a, .slice E k ec] w fun r w' => r = .returned (.bool true) ∧ Below w.heap.size w w' := by
  have HAw := Lib.hid (fun W (hb : Below w.heap.size w W) => awakeS_any W (Shf.tab_call hT hb))
  have HT := Lib.hid hT
  have HL := Lib.hid hL
  have HLl := Lib.hid hL.sec
  clear hT hL
  by_cases h1 : (k : Int) ≤ 20
  · obtain ⟨N, hN⟩ : ∃ N : Nat, (N : Int) = 16 + a % 32 := ⟨(16 + a % 32).toNat, by omega⟩
    have hN1 : 16 ≤ N := by omega
    have hN2 : N ≤ 47 := by omega
    have e1 : IntKind.u8.wrap (a.tmod 32) = a % 32 := by rw [Int.tmod_eq_emod_of_nonneg ha1]; exact IntWalk.u8_in _ (by omega)
    have e2 : IntKind.i64.wrap (a % 32) = a % 32 := IntWalk.i64_in _ (by omega)
    have e3 : IntKind.i64.wrap (16 + a % 32) = N := by rw [hN]; exact IntWalk.i64_in _ (by omega)
    have HNew := Lib.hid (fun W => new_yes N W (by omega) (by omega))
    rw [hN] at HNew
    unfold RetDE at HNew
    obtain ⟨o1, o2, o3, o4⟩ := open_new (N := N) hN1 (by omega)
    have HOp := Lib.hid (fun W A n c A' m c' (hD : Dev W A n c A' m c' (-1) (newS N) []) (hb : Below w.heap.size w W) => open_is A n c A' m c' (-1) (newS N) [] W hD (Shf.tab_call HT.out hb) o1)
    rw [o3, o4] at HOp
    unfold RetOG at HOp
    generalize hx0 : opnX (newS N) [] (-1) = X0 at HOp
    obtain ⟨S2, X2, hsv, hfi⟩ := fi_new hN1 hN2
    rw [hx0] at hsv
    have HSv := Lib.hid (fun W A n c A' m c' (hD : Dev W A n c A' m c' (-1) (newS N) []) (hb : Below w.heap.size w W) => sav_any A n c A' m c' (-1) (newS N) [] W hD (Shf.tab_call HT.out hb) X0 ⟨#[]⟩ (by rw [← hx0, o2]; show (-9223372036854775808 : Int) ≤ 1; decide) (by rw [← hx0, o2]; show (1 : Int) ≤ 9223372036854775807; decide))
    rw [hsv] at HSv
    unfold RetT at HSv
    dsimp only at HSv
    have HFi := Lib.hid hfi
    have HNs : Hid ((newS N).length = N) := Lib.hid (good_newS hN1 (by omega)).2.1
    clear o1 o2 o3 o4 hx0 hsv hfi
    go_enter Tryz.func6, Tryz.ntmps6
    go_wp2_with fail
    with_reducible refine (HNew.out _).mono ?_
    rintro r w1 ⟨A1, n1, c1, A1', m1, c1', rfl, hd1, b1⟩
    obtain rfl : N = n1 := by have := hd1.sec.sec; have := HNs.out; omega
    have HB1 := Lib.hid (((Below.refl w.heap.size w).call b1).push (D33 A1 N c1 A1' m1 c1' (-1)))
    have HX1 := Lib.hid (St.new w1 A1 N c1 A1' m1 c1' (-1) 29)
    have HD1 := Lib.hid (hd1.new (D33 A1 N c1 A1' m1 c1' (-1)))
    clear b1 hd1 HNew hN e1 e2 e3
    go_upto_region 6 with fail
    generalize hb5 : w1.heap.size = b5 at *
    generalize w1.alloc (D33 A1 N c1 A1' m1 c1' (-1)) = w2 at *
    clear hb5
    obtain ⟨d0, d1, d2, -, -, -⟩ := HX1.out.box
    have hld := HX1.out.lt
    go_wp2_with fail
    with_reducible refine (HOp.out _ _ _ _ _ _ _ HD1.out HB1.out).mono ?_
    rintro r w3 ⟨A3, n3, c3, A3', m3, c3', B3, q3, k3, rfl, hd3, hr3, b3⟩
    have HB3 := Lib.hid ((HB1.out.call b3).push (TO 31 A3 n3 c3 A3' m3 c3' (-1) X0.slot X0.gen X0.stamp X0.at_ X0.no X0.live))
    have HX3 := Lib.hid ((HX1.out.call b3).alloc (TO 31 A3 n3 c3 A3' m3 c3' (-1) X0.slot X0.gen X0.stamp X0.at_ X0.no X0.live))
    have HD3 := Lib.hid (hd3.new (TO 31 A3 n3 c3 A3' m3 c3' (-1) X0.slot X0.gen X0.stamp X0.at_ X0.no X0.live))
    have HY3 := Lib.hid (Sy.new 31 w3 A3 n3 c3 A3' m3 c3' (-1) X0.slot X0.gen X0.stamp X0.at_ X0.no X0.live)
    clear b3 hd3 hr3 HOp HB1 HX1 HD1 d0 d1 d2 hld
    go_upto_region 7 with fail
    generalize hb7 : w3.heap.size = b7 at *
    generalize w3.alloc (TO 31 A3 n3 c3 A3' m3 c3' (-1) X0.slot X0.gen X0.stamp X0.at_ X0.no X0.live) = w4 at *
    clear hb7
    obtain ⟨a0, a1, a2, a3, a4, a5, a6, a7, a8⟩ := HY3.out.cells
    have hla := HY3.out.lt
    go_wp2_with fail
    with_reducible refine (HSv.out _ _ _ _ _ _ _ HD3.out HB3.out).mono ?_
    rintro r w5 ⟨A5, n5, c5, A5', m5, c5', rfl, hd5, b5_⟩
    have hFul : Ful w (w5.alloc (TO 31 A5 n5 c5 A5' m5 c5' (-1) X2.slot X2.gen X2.stamp X2.at_ X2.no X2.live)) b5 w5.heap.size A1 c1 A1' m1 c1' A5 n5 c5 A5' m5 c5' N 0 X2 S2 := ⟨(HB3.out.call b5_).push _, (HX3.out.call b5_).alloc _, Sy.new 31 w5 A5 n5 c5 A5' m5 c5' (-1) X2.slot X2.gen X2.stamp X2.at_ X2.no X2.live, hd5.new _, HFi.out, by have := HX3.out.lt; have := b5_.size; omega, by have := (HB3.out.call b5_).size; exact this⟩
    have H0 : Hid (FulE w (w5.alloc (TO 31 A5 n5 c5 A5' m5 c5' (-1) X2.slot X2.gen X2.stamp X2.at_ X2.no X2.live)) b5 w5.heap.size A1 c1 A1' m1 c1' N 0) := Lib.hid ⟨_, _, _, _, _, _, _, _, hFul⟩
    clear hFul b5_ hd5 HSv HB3 HX3 HD3 HY3 HFi a0 a1 a2 a3 a4 a5 a6 a7 a8 hla
    go_upto_region 8 with fail
    generalize hb11 : w5.heap.size = b11 at *
    generalize w5.alloc (TO 31 A5 n5 c5 A5' m5 c5' (-1) X2.slot X2.gen X2.stamp X2.at_ X2.no X2.live) = w6 at *
    clear hb11
    go_wp2_with fail
    go_loopw [13] (fun s13 wr => ∃ i : Nat, (i : Int) ≤ k ∧ s13 = .int .i64 i ∧ Hid (FulE w wr b5 b11 A1 c1 A1' m1 c1' N i)) (fun s13 _ => k - (intOf s13).toNat)
    case atStart => exact ⟨0, by omega, rfl, H0⟩
    case round =>
      obtain ⟨i, hi, rfl, HI⟩ := hrel
      obtain ⟨A, n, c, A', m, c', x, S, hF⟩ := HI.out
      have HF := Lib.hid hF
      clear HI H0 hF
      obtain ⟨a0, a1, a2, a3, a4, a5, a6, a7, a8⟩ := HF.out.sy.cells
      obtain ⟨f0, f1, f2, f3, f4, f5, f6, f7, f8⟩ := HF.out.sy.live
      have hla := HF.out.sy.lt
      by_cases hlt : (i : Int) < k
      · have hil : i < L.length := by have := HLl.out; omega
        obtain ⟨rb, off, rfl, hrb, hall⟩ := HL.out.2 (by omega)
        have t0 := hall i (by rw [SV_length]; exact hil)
        have hrw := Nat.lt_of_lt_of_le hrb HF.out.bel.size
        simp only [SV, List.getElem_map] at t0
        have HTc := Lib.hid t0
        replace t0 := (HF.out.bel.cell (p := ⟨rb, off + i, none⟩) hrb).trans t0
        have HRb := Lib.hid hrb
        have hrne : ¬ b11 = rb := by have := HF.out.lo; omega
        have hrne2 : ¬ rb = b11 := fun e => hrne e.symm
        clear hall
        generalize L[i] = xt at *
        by_cases h5 : (xt.size : Int) ≤ 200
        · have h5' : ¬ (200 : Int) < xt.size := by omega
          have HLg := Lib.hid (fun W (hb : Below wr.heap.size wr W) => log_any A n c A' m c' (-1) S [] W (HF.out.dev.below hb) (Shf.tab_call HT.out (HF.out.bel.call hb)) x xt)
          have HFt : Hid (∀ W, Below wr.heap.size wr W → Calls Tryz.prog 19 #[TV A n c A' m c' (-1) x, .int .i64 xt.size] W fun r w' => r = .returned (.bool (fitsR N x.at_ xt.size)) ∧ Below W.heap.size W w') := Lib.hid (fun W hb => by
            have := sfits_any A n c A' m c' (-1) S [] W (HF.out.dev.below hb) x xt.size (by obtain ⟨k1, G, st, p, n1, rfl, -, -, -, -, -, -, hp, -⟩ := HF.out.fi.num; have := HF.out.fi.n47; dsimp only; omega)
            rwa [HF.out.fi.len] at this)
          rcases HF.out.fi.log (by omega) (t := xt) (by omega) with ⟨S2, x2, hlg, hfi2, hft⟩ | ⟨hlg, hft⟩
          · rw [hlg] at HLg
            rw [hft] at HFt
            unfold RetT at HLg
            dsimp only at HLg
            have HFi2 := Lib.hid hfi2
            clear hlg hft hfi2
            go_upto_region 15 with fail
            have ne1 : ¬ wr.heap.size = b11 := by omega
            have ne2 : ¬ wr.heap.size = rb := by omega
            go_cut [14, 15] (fun s14 s15 wx => ∃ b B p d B' q d', s14 = .pointer (some ⟨b, 0, none⟩) ∧ s15 = .int .i64 0 ∧ Hid (NewS 31 wr wx b B p d B' q d' (-1) x2.slot x2.gen x2.stamp x2.at_ x2.no x2.live S2 []))
            case first =>
              go_region_held3 (fun W => W.cell? ⟨b11, 0, none⟩ = some (.slice A n c) ∧ W.cell? ⟨b11, 1, none⟩ = some (.slice A' m c') ∧ W.cell? ⟨b11, 2, none⟩ = some (.int .i64 (-1)) ∧ W.cell? ⟨b11, 3, none⟩ = some (.int .i64 x.slot) ∧ W.cell? ⟨b11, 4, none⟩ = some (.int .i64 x.gen) ∧ W.cell? ⟨b11, 5, none⟩ = some (.int .i64 x.stamp) ∧ W.cell? ⟨b11, 6, none⟩ = some (.int .i64 x.at_) ∧ W.cell? ⟨b11, 7, none⟩ = some (.int .i64 x.no) ∧ W.cell? ⟨b11, 8, none⟩ = some (.bool x.live) ∧ W.cell? ⟨rb, off + i, none⟩ = some (.string xt)) (go_keep)
                (first | (go_at_call 17; ((with_reducible refine (HLg.out _ (by repeat (first | exact Below.refl _ _ | refine Below.push ?_ _ | refine Below.drew ?_))).mono ?_); rintro r w6 ⟨B, p, d, B', q, d', rfl, hd6, hb6⟩; obtain ⟨hc6, hf6⟩ := bcell hb6; have hlt6 := blt hb6; have hbw6 : Below wr.heap.size wr w6 := (Below.call (by repeat (first | exact Below.refl _ _ | refine Below.push ?_ _ | refine Below.drew ?_)) hb6); have qw60 : w6.cell? ⟨b11, 0, none⟩ = some (.slice A n c) := (hbw6.cell (p := ⟨b11, 0, none⟩) hla).trans a0; have qw61 : w6.cell? ⟨b11, 1, none⟩ = some (.slice A' m c') := (hbw6.cell (p := ⟨b11, 1, none⟩) hla).trans a1; have qw62 : w6.cell? ⟨b11, 2, none⟩ = some (.int .i64 (-1)) := (hbw6.cell (p := ⟨b11, 2, none⟩) hla).trans a2; have qw63 : w6.cell? ⟨b11, 3, none⟩ = some (.int .i64 x.slot) := (hbw6.cell (p := ⟨b11, 3, none⟩) hla).trans a3; have qw64 : w6.cell? ⟨b11, 4, none⟩ = some (.int .i64 x.gen) := (hbw6.cell (p := ⟨b11, 4, none⟩) hla).trans a4; have qw65 : w6.cell? ⟨b11, 5, none⟩ = some (.int .i64 x.stamp) := (hbw6.cell (p := ⟨b11, 5, none⟩) hla).trans a5; have qw66 : w6.cell? ⟨b11, 6, none⟩ = some (.int .i64 x.at_) := (hbw6.cell (p := ⟨b11, 6, none⟩) hla).trans a6; have qw67 : w6.cell? ⟨b11, 7, none⟩ = some (.int .i64 x.no) := (hbw6.cell (p := ⟨b11, 7, none⟩) hla).trans a7; have qw68 : w6.cell? ⟨b11, 8, none⟩ = some (.bool x.live) := (hbw6.cell (p := ⟨b11, 8, none⟩) hla).trans a8; have qw69 : w6.cell? ⟨rb, off + i, none⟩ = some (.string xt) := (hbw6.cell (p := ⟨rb, off + i, none⟩) hrw).trans t0; have ne6 : ¬ w6.heap.size = b11 := (by have := hbw6.size; omega); have ne7 : ¬ w6.heap.size = rb := (by have := hbw6.size; omega); have HD6 := Lib.hid hd6; clear hd6)))
              · go_wp2_with fail
                go_meet
                exact ⟨_, _, _, _, _, _, _, rfl, rfl, Lib.hid (NewS.fresh hbw6 HD6.out _ _ _ _ _ _)⟩
              · go_wp2_with fail
                go_meet
                exact ⟨_, _, _, _, _, _, _, rfl, rfl, Lib.hid (NewS.put hbw6 HD6.out ((Sy.new 31 wr none 0 0 none 0 0 0 0 0 0 0 0 false).call (undrew hb6)) (Nat.le_refl _) _ _ _ _ _ _ rfl)⟩
            case rest =>
              obtain ⟨by_, B, p, d, B', q, d', rfl, rfl, HN⟩ := hcut
              have HF2 := Lib.hid (HF.out.call HN.out.bel)
              have hrw2 := Nat.lt_of_lt_of_le hrw HN.out.bel.size
              have t1 := (HN.out.bel.cell (p := ⟨rb, off + i, none⟩) hrw).trans t0
              have hyne : b11 < by_ := by have := HN.out.new; omega
              clear a0 a1 a2 a3 a4 a5 a6 a7 a8 f0 f1 f2 f3 f4 f5 f6 f7 f8 hla t0 ne1 ne2
              obtain ⟨a0, a1, a2, a3, a4, a5, a6, a7, a8⟩ := HF2.out.sy.cells
              have hla := HF2.out.sy.lt
              obtain ⟨y0, y1, y2, y3, y4, y5, y6, y7, y8⟩ := HN.out.st.cells
              have hly := HN.out.st.lt
              have HFt2 : Hid (∀ W, Below wc.heap.size wc W → _) := Lib.hid (fun W hb => HFt.out W (HN.out.bel.call hb))
              have hun : undef = Value.tuple #[] := rfl
              go_upto_region 16 with fail
              go_cut [95] (fun s95 wx => s95 = .bool false ∧ Hid (Below wc.heap.size wc wx))
              case first =>
                first
                  | (go_region_with (go_at_call 19; (with_reducible refine (HFt2.out _ (by repeat (first | exact Below.refl _ _ | refine Below.push ?_ _ | refine Below.drew ?_))).mono ?_); rintro r wa ⟨rfl, hba⟩; have HBl : Hid (Below wc.heap.size wc wa) := Lib.hid (Below.call (by repeat (first | exact Below.refl _ _ | refine Below.push ?_ _ | refine Below.drew ?_)) hba); clear hba))
                  | fail
                all_goals (
                  go_wp2_with fail
                  go_meet
                  first
                    | exact ⟨rfl, HBl⟩
                    | exact ⟨rfl, Lib.hid HBl.out.drew⟩)
              case rest =>
                clear hun
                obtain ⟨rfl, HBw⟩ := hcut
                have HF3 := Lib.hid (HF2.out.call HBw.out)
                have HY3 := Lib.hid (HN.out.st.call HBw.out)
                have HD3 := Lib.hid (HN.out.dev.below HBw.out)
                clear a0 a1 a2 a3 a4 a5 a6 a7 a8 hla y0 y1 y2 y3 y4 y5 y6 y7 y8 hly t1 hrw2 HN HF2
                obtain ⟨a0, a1, a2, a3, a4, a5, a6, a7, a8⟩ := HF3.out.sy.cells
                obtain ⟨f0, f1, f2, f3, f4, f5, f6, f7, f8⟩ := HF3.out.sy.live
                have hla := HF3.out.sy.lt
                obtain ⟨y0, y1, y2, y3, y4, y5, y6, y7, y8⟩ := HY3.out.cells
                have hly := HY3.out.lt
                go_wp2_with fail
                go_roundw
                case rel => exact ⟨i + 1, by omega, by go_num, Lib.hid ⟨_, _, _, _, _, _, _, _, HF3.out.put HD3.out HFi2.out rfl⟩⟩
                case measure => simp [intOf]; omega
          · rw [hlg] at HLg
            rw [hft] at HFt
            unfold RetT at HLg
            dsimp only at HLg
            clear hlg hft
            go_upto_region 15 with fail
            have ne1 : ¬ wr.heap.size = b11 := by omega
            have ne2 : ¬ wr.heap.size = rb := by omega
            go_cut [14, 15] (fun s14 s15 wx => ∃ b B p d B' q d', s14 = .pointer (some ⟨b, 0, none⟩) ∧ s15 = .int .i64 7 ∧ Hid (NewS 31 wr wx b B p d B' q d' (-1) x.slot x.gen x.stamp x.at_ x.no x.live S []))
            case first =>
              go_region_held3 (fun W => W.cell? ⟨b11, 0, none⟩ = some (.slice A n c) ∧ W.cell? ⟨b11, 1, none⟩ = some (.slice A' m c') ∧ W.cell? ⟨b11, 2, none⟩ = some (.int .i64 (-1)) ∧ W.cell? ⟨b11, 3, none⟩ = some (.int .i64 x.slot) ∧ W.cell? ⟨b11, 4, none⟩ = some (.int .i64 x.gen) ∧ W.cell? ⟨b11, 5, none⟩ = some (.int .i64 x.stamp) ∧ W.cell? ⟨b11, 6, none⟩ = some (.int .i64 x.at_) ∧ W.cell? ⟨b11, 7, none⟩ = some (.int .i64 x.no) ∧ W.cell? ⟨b11, 8, none⟩ = some (.bool x.live) ∧ W.cell? ⟨rb, off + i, none⟩ = some (.string xt)) (go_keep)
                (first | (go_at_call 17; ((with_reducible refine (HLg.out _ (by repeat (first | exact Below.refl _ _ | refine Below.push ?_ _ | refine Below.drew ?_))).mono ?_); rintro r w6 ⟨B, p, d, B', q, d', rfl, hd6, hb6⟩; obtain ⟨hc6, hf6⟩ := bcell hb6; have hlt6 := blt hb6; have hbw6 : Below wr.heap.size wr w6 := (Below.call (by repeat (first | exact Below.refl _ _ | refine Below.push ?_ _ | refine Below.drew ?_)) hb6); have qw60 : w6.cell? ⟨b11, 0, none⟩ = some (.slice A n c) := (hbw6.cell (p := ⟨b11, 0, none⟩) hla).trans a0; have qw61 : w6.cell? ⟨b11, 1, none⟩ = some (.slice A' m c') := (hbw6.cell (p := ⟨b11, 1, none⟩) hla).trans a1; have qw62 : w6.cell? ⟨b11, 2, none⟩ = some (.int .i64 (-1)) := (hbw6.cell (p := ⟨b11, 2, none⟩) hla).trans a2; have qw63 : w6.cell? ⟨b11, 3, none⟩ = some (.int .i64 x.slot) := (hbw6.cell (p := ⟨b11, 3, none⟩) hla).trans a3; have qw64 : w6.cell? ⟨b11, 4, none⟩ = some (.int .i64 x.gen) := (hbw6.cell (p := ⟨b11, 4, none⟩) hla).trans a4; have qw65 : w6.cell? ⟨b11, 5, none⟩ = some (.int .i64 x.stamp) := (hbw6.cell (p := ⟨b11, 5, none⟩) hla).trans a5; have qw66 : w6.cell? ⟨b11, 6, none⟩ = some (.int .i64 x.at_) := (hbw6.cell (p := ⟨b11, 6, none⟩) hla).trans a6; have qw67 : w6.cell? ⟨b11, 7, none⟩ = some (.int .i64 x.no) := (hbw6.cell (p := ⟨b11, 7, none⟩) hla).trans a7; have qw68 : w6.cell? ⟨b11, 8, none⟩ = some (.bool x.live) := (hbw6.cell (p := ⟨b11, 8, none⟩) hla).trans a8; have qw69 : w6.cell? ⟨rb, off + i, none⟩ = some (.string xt) := (hbw6.cell (p := ⟨rb, off + i, none⟩) hrw).trans t0; have ne6 : ¬ w6.heap.size = b11 := (by have := hbw6.size; omega); have ne7 : ¬ w6.heap.size = rb := (by have := hbw6.size; omega); have HD6 := Lib.hid hd6; clear hd6)))
              · go_wp2_with fail
                go_meet
                exact ⟨_, _, _, _, _, _, _, rfl, rfl, Lib.hid (NewS.fresh hbw6 HD6.out _ _ _ _ _ _)⟩
              · go_wp2_with fail
                go_meet
                exact ⟨_, _, _, _, _, _, _, rfl, rfl, Lib.hid (NewS.put hbw6 HD6.out ((Sy.new 31 wr none 0 0 none 0 0 0 0 0 0 0 0 false).call (undrew hb6)) (Nat.le_refl _) _ _ _ _ _ _ rfl)⟩
            case rest =>
              obtain ⟨by_, B, p, d, B', q, d', rfl, rfl, HN⟩ := hcut
              have HF2 := Lib.hid (HF.out.call HN.out.bel)
              have hrw2 := Nat.lt_of_lt_of_le hrw HN.out.bel.size
              have t1 := (HN.out.bel.cell (p := ⟨rb, off + i, none⟩) hrw).trans t0
              have hyne : b11 < by_ := by have := HN.out.new; omega
              clear a0 a1 a2 a3 a4 a5 a6 a7 a8 f0 f1 f2 f3 f4 f5 f6 f7 f8 hla t0 ne1 ne2
              obtain ⟨a0, a1, a2, a3, a4, a5, a6, a7, a8⟩ := HF2.out.sy.cells
              have hla := HF2.out.sy.lt
              obtain ⟨y0, y1, y2, y3, y4, y5, y6, y7, y8⟩ := HN.out.st.cells
              have hly := HN.out.st.lt
              have HSm : Hid (∀ W, Below wc.heap.size wc W → Calls Tryz.prog 21 #[TV B p d B' q d' (-1) x, TV A n c A' m c' (-1) x] W fun r w' => r = .returned (.bool true) ∧ Below W.heap.size W w') := Lib.hid (fun W hb => by
                have := ssame_any B p d B' q d' (-1) S [] A n c A' m c' (-1) S [] W (HN.out.dev.below hb) (HF2.out.dev.below hb) x x
                rwa [sameT_refl] at this)
              have HFt2 : Hid (∀ W, Below wc.heap.size wc W → _) := Lib.hid (fun W hb => HFt.out W (HN.out.bel.call hb))
              have hun : undef = Value.tuple #[] := rfl
              go_upto_region 16 with fail
              go_cut [95] (fun s95 wx => s95 = .bool false ∧ Hid (Below wc.heap.size wc wx))
              case first =>
                first
                  | (go_region_held3 (fun W => W.cell? ⟨b11, 0, none⟩ = some (.slice A n c) ∧ W.cell? ⟨b11, 1, none⟩ = some (.slice A' m c') ∧ W.cell? ⟨b11, 2, none⟩ = some (.int .i64 (-1)) ∧ W.cell? ⟨b11, 3, none⟩ = some (.int .i64 x.slot) ∧ W.cell? ⟨b11, 4, none⟩ = some (.int .i64 x.gen) ∧ W.cell? ⟨b11, 5, none⟩ = some (.int .i64 x.stamp) ∧ W.cell? ⟨b11, 6, none⟩ = some (.int .i64 x.at_) ∧ W.cell? ⟨b11, 7, none⟩ = some (.int .i64 x.no) ∧ W.cell? ⟨b11, 8, none⟩ = some (.bool x.live) ∧ W.cell? ⟨by_, 0, none⟩ = some (.slice B p d) ∧ W.cell? ⟨by_, 1, none⟩ = some (.slice B' q d') ∧ W.cell? ⟨by_, 2, none⟩ = some (.int .i64 (-1)) ∧ W.cell? ⟨by_, 3, none⟩ = some (.int .i64 x.slot) ∧ W.cell? ⟨by_, 4, none⟩ = some (.int .i64 x.gen) ∧ W.cell? ⟨by_, 5, none⟩ = some (.int .i64 x.stamp) ∧ W.cell? ⟨by_, 6, none⟩ = some (.int .i64 x.at_) ∧ W.cell? ⟨by_, 7, none⟩ = some (.int .i64 x.no) ∧ W.cell? ⟨by_, 8, none⟩ = some (.bool x.live) ∧ W.cell? ⟨rb, off + i, none⟩ = some (.string xt)) (go_keep)
                      (first
                        | (go_at_call 19; ((with_reducible refine (HFt2.out _ (by repeat (first | exact Below.refl _ _ | refine Below.push ?_ _ | refine Below.drew ?_))).mono ?_); rintro r wa ⟨rfl, hba⟩; have hbwa : Below wc.heap.size wc wa := (Below.call (by repeat (first | exact Below.refl _ _ | refine Below.push ?_ _ | refine Below.drew ?_)) hba); have qwa0 : wa.cell? ⟨b11, 0, none⟩ = some (.slice A n c) := (hbwa.cell (p := ⟨b11, 0, none⟩) hla).trans a0; have qwa1 : wa.cell? ⟨b11, 1, none⟩ = some (.slice A' m c') := (hbwa.cell (p := ⟨b11, 1, none⟩) hla).trans a1; have qwa2 : wa.cell? ⟨b11, 2, none⟩ = some (.int .i64 (-1)) := (hbwa.cell (p := ⟨b11, 2, none⟩) hla).trans a2; have qwa3 : wa.cell? ⟨b11, 3, none⟩ = some (.int .i64 x.slot) := (hbwa.cell (p := ⟨b11, 3, none⟩) hla).trans a3; have qwa4 : wa.cell? ⟨b11, 4, none⟩ = some (.int .i64 x.gen) := (hbwa.cell (p := ⟨b11, 4, none⟩) hla).trans a4; have qwa5 : wa.cell? ⟨b11, 5, none⟩ = some (.int .i64 x.stamp) := (hbwa.cell (p := ⟨b11, 5, none⟩) hla).trans a5; have qwa6 : wa.cell? ⟨b11, 6, none⟩ = some (.int .i64 x.at_) := (hbwa.cell (p := ⟨b11, 6, none⟩) hla).trans a6; have qwa7 : wa.cell? ⟨b11, 7, none⟩ = some (.int .i64 x.no) := (hbwa.cell (p := ⟨b11, 7, none⟩) hla).trans a7; have qwa8 : wa.cell? ⟨b11, 8, none⟩ = some (.bool x.live) := (hbwa.cell (p := ⟨b11, 8, none⟩) hla).trans a8; have qwa9 : wa.cell? ⟨by_, 0, none⟩ = some (.slice B p d) := (hbwa.cell (p := ⟨by_, 0, none⟩) hly).trans y0; have qwa10 : wa.cell? ⟨by_, 1, none⟩ = some (.slice B' q d') := (hbwa.cell (p := ⟨by_, 1, none⟩) hly).trans y1; have qwa11 : wa.cell? ⟨by_, 2, none⟩ = some (.int .i64 (-1)) := (hbwa.cell (p := ⟨by_, 2, none⟩) hly).trans y2; have qwa12 : wa.cell? ⟨by_, 3, none⟩ = some (.int .i64 x.slot) := (hbwa.cell (p := ⟨by_, 3, none⟩) hly).trans y3; have qwa13 : wa.cell? ⟨by_, 4, none⟩ = some (.int .i64 x.gen) := (hbwa.cell (p := ⟨by_, 4, none⟩) hly).trans y4; have qwa14 : wa.cell? ⟨by_, 5, none⟩ = some (.int .i64 x.stamp) := (hbwa.cell (p := ⟨by_, 5, none⟩) hly).trans y5; have qwa15 : wa.cell? ⟨by_, 6, none⟩ = some (.int .i64 x.at_) := (hbwa.cell (p := ⟨by_, 6, none⟩) hly).trans y6; have qwa16 : wa.cell? ⟨by_, 7, none⟩ = some (.int .i64 x.no) := (hbwa.cell (p := ⟨by_, 7, none⟩) hly).trans y7; have qwa17 : wa.cell? ⟨by_, 8, none⟩ = some (.bool x.live) := (hbwa.cell (p := ⟨by_, 8, none⟩) hly).trans y8; have qwa18 : wa.cell? ⟨rb, off + i, none⟩ = some (.string xt) := (hbwa.cell (p := ⟨rb, off + i, none⟩) hrw2).trans t1; have HBl : Hid (Below wc.heap.size wc wa) := Lib.hid hbwa; clear hba))
                        | (go_at_call 21; ((with_reducible refine (HSm.out _ (by repeat (first | exact Below.refl _ _ | exact hbwa | refine Below.push ?_ _ | refine Below.drew ?_))).mono ?_); rintro r wb ⟨rfl, hbb⟩; have hbwb : Below wc.heap.size wc wb := (Below.call (by repeat (first | exact Below.refl _ _ | exact hbwa | refine Below.push ?_ _ | refine Below.drew ?_)) hbb); clear qwa0 qwa1 qwa2 qwa3 qwa4 qwa5 qwa6 qwa7 qwa8 qwa9 qwa10 qwa11 qwa12 qwa13 qwa14 qwa15 qwa16 qwa17 qwa18; have qwb0 : wb.cell? ⟨b11, 0, none⟩ = some (.slice A n c) := (hbwb.cell (p := ⟨b11, 0, none⟩) hla).trans a0; have qwb1 : wb.cell? ⟨b11, 1, none⟩ = some (.slice A' m c') := (hbwb.cell (p := ⟨b11, 1, none⟩) hla).trans a1; have qwb2 : wb.cell? ⟨b11, 2, none⟩ = some (.int .i64 (-1)) := (hbwb.cell (p := ⟨b11, 2, none⟩) hla).trans a2; have qwb3 : wb.cell? ⟨b11, 3, none⟩ = some (.int .i64 x.slot) := (hbwb.cell (p := ⟨b11, 3, none⟩) hla).trans a3; have qwb4 : wb.cell? ⟨b11, 4, none⟩ = some (.int .i64 x.gen) := (hbwb.cell (p := ⟨b11, 4, none⟩) hla).trans a4; have qwb5 : wb.cell? ⟨b11, 5, none⟩ = some (.int .i64 x.stamp) := (hbwb.cell (p := ⟨b11, 5, none⟩) hla).trans a5; have qwb6 : wb.cell? ⟨b11, 6, none⟩ = some (.int .i64 x.at_) := (hbwb.cell (p := ⟨b11, 6, none⟩) hla).trans a6; have qwb7 : wb.cell? ⟨b11, 7, none⟩ = some (.int .i64 x.no) := (hbwb.cell (p := ⟨b11, 7, none⟩) hla).trans a7; have qwb8 : wb.cell? ⟨b11, 8, none⟩ = some (.bool x.live) := (hbwb.cell (p := ⟨b11, 8, none⟩) hla).trans a8; have qwb9 : wb.cell? ⟨by_, 0, none⟩ = some (.slice B p d) := (hbwb.cell (p := ⟨by_, 0, none⟩) hly).trans y0; have qwb10 : wb.cell? ⟨by_, 1, none⟩ = some (.slice B' q d') := (hbwb.cell (p := ⟨by_, 1, none⟩) hly).trans y1; have qwb11 : wb.cell? ⟨by_, 2, none⟩ = some (.int .i64 (-1)) := (hbwb.cell (p := ⟨by_, 2, none⟩) hly).trans y2; have qwb12 : wb.cell? ⟨by_, 3, none⟩ = some (.int .i64 x.slot) := (hbwb.cell (p := ⟨by_, 3, none⟩) hly).trans y3; have qwb13 : wb.cell? ⟨by_, 4, none⟩ = some (.int .i64 x.gen) := (hbwb.cell (p := ⟨by_, 4, none⟩) hly).trans y4; have qwb14 : wb.cell? ⟨by_, 5, none⟩ = some (.int .i64 x.stamp) := (hbwb.cell (p := ⟨by_, 5, none⟩) hly).trans y5; have qwb15 : wb.cell? ⟨by_, 6, none⟩ = some (.int .i64 x.at_) := (hbwb.cell (p := ⟨by_, 6, none⟩) hly).trans y6; have qwb16 : wb.cell? ⟨by_, 7, none⟩ = some (.int .i64 x.no) := (hbwb.cell (p := ⟨by_, 7, none⟩) hly).trans y7; have qwb17 : wb.cell? ⟨by_, 8, none⟩ = some (.bool x.live) := (hbwb.cell (p := ⟨by_, 8, none⟩) hly).trans y8; have qwb18 : wb.cell? ⟨rb, off + i, none⟩ = some (.string xt) := (hbwb.cell (p := ⟨rb, off + i, none⟩) hrw2).trans t1; clear HBl; have HBl : Hid (Below wc.heap.size wc wb) := Lib.hid hbwb; clear hbb))))
                  | fail
                all_goals (
                  go_wp2_with fail
                  go_meet
                  first
                    | exact ⟨rfl, HBl⟩
                    | exact ⟨rfl, Lib.hid HBl.out.drew⟩)
              case rest =>
                clear hun
                obtain ⟨rfl, HBw⟩ := hcut
                have HF3 := Lib.hid (HF2.out.call HBw.out)
                have HY3 := Lib.hid (HN.out.st.call HBw.out)
                have HD3 := Lib.hid (HN.out.dev.below HBw.out)
                clear a0 a1 a2 a3 a4 a5 a6 a7 a8 hla y0 y1 y2 y3 y4 y5 y6 y7 y8 hly t1 hrw2 HN HF2
                obtain ⟨a0, a1, a2, a3, a4, a5, a6, a7, a8⟩ := HF3.out.sy.cells
                obtain ⟨f0, f1, f2, f3, f4, f5, f6, f7, f8⟩ := HF3.out.sy.live
                have hla := HF3.out.sy.lt
                obtain ⟨y0, y1, y2, y3, y4, y5, y6, y7, y8⟩ := HY3.out.cells
                have hly := HY3.out.lt
                go_upto_region 20 with fail
                have hF4 := HF3.out.put HD3.out HF3.out.fi rfl
                generalize (((((((((wc).setCell ⟨b11, 0, none⟩ (.slice B p d)).setCell ⟨b11, 1, none⟩ (.slice B' q d')).setCell ⟨b11, 2, none⟩ (.int .i64 (-1))).setCell ⟨b11, 3, none⟩ (.int .i64 x.slot)).setCell ⟨b11, 4, none⟩ (.int .i64 x.gen)).setCell ⟨b11, 5, none⟩ (.int .i64 x.stamp)).setCell ⟨b11, 6, none⟩ (.int .i64 x.at_)).setCell ⟨b11, 7, none⟩ (.int .i64 x.no)).setCell ⟨b11, 8, none⟩ (.bool x.live) = w7 at *
                have HF4 := Lib.hid hF4
                clear hF4 HF3 HY3 HD3 HSm HFt HFt2 HLg a0 a1 a2 a3 a4 a5 a6 a7 a8 f0 f1 f2 f3 f4 f5 f6 f7 f8 hla y0 y1 y2 y3 y4 y5 y6 y7 y8 hly
                obtain ⟨S2, x2, hsv, hfi2, hsl, hge, hfr⟩ := HF4.out.fi.save (by omega)
                obtain ⟨z0, z1, z2, z3, z4, z5⟩ := x2
                dsimp only at hsl hge hfr
                subst hsl hge
                have hslo : 0 ≤ x.slot ∧ x.slot ≤ 1 := by obtain ⟨k1, G, st, p, n1, rfl, hk, -⟩ := HF4.out.fi.num; dsimp only; omega
                have hws : IntKind.i64.wrap (1 - x.slot) = 1 - x.slot := IntWalk.i64_in _ (by omega)
                have HSv2 := Lib.hid (sav_any B p d B' q d' (-1) S [] w7 HF4.out.dev (Shf.tab_call HT.out HF4.out.bel) x ⟨#[]⟩ (by omega) (by omega))
                rw [hsv] at HSv2
                unfold RetT at HSv2
                dsimp only at HSv2
                obtain ⟨gg, hg1, hg2, hg3, hg4⟩ := full_room hN1 hN2
                rw [← hg4] at hfr
                have hz3 : z3 ≤ 9223372036854775807 := by
                  obtain ⟨k1, G, st, p, n1, he, -, -, -, -, -, -, hp, -⟩ := hfi2.num
                  injection he with _ _ _ e4
                  have := hfi2.n47
                  omega
                have HFi2 := Lib.hid hfi2
                have HFr := Lib.hid hfr
                have HZ3 := Lib.hid hz3
                have HG1 := Lib.hid hg1
                clear hsv hfi2 hfr hg4 hz3 hg1
                obtain ⟨a0, a1, a2, a3, a4, a5, a6, a7, a8⟩ := HF4.out.sy.cells
                have hla := HF4.out.sy.lt
                go_wp2_with fail
                with_reducible refine HSv2.out.mono ?_
                rintro r w8 ⟨C, r_, s_, C', t_, s_', rfl, hd8, b8⟩
                have HF8 := Lib.hid ((HF4.out.call b8).call (new1 w8 (TO 31 C r_ s_ C' t_ s_' (-1) (1 - x.slot) x.stamp z2 z3 z4 z5)))
                have HZ := Lib.hid (Sy.new 31 w8 C r_ s_ C' t_ s_' (-1) (1 - x.slot) x.stamp z2 z3 z4 z5)
                have HDz := Lib.hid (hd8.new (TO 31 C r_ s_ C' t_ s_' (-1) (1 - x.slot) x.stamp z2 z3 z4 z5))
                have hbz : b11 < w8.heap.size := Nat.lt_of_lt_of_le HF4.out.sy.lt b8.size
                clear b8 hd8 HSv2 HF4 a0 a1 a2 a3 a4 a5 a6 a7 a8 hla
                go_upto_region 21 with fail
                generalize w8.heap.size = bz at *
                generalize w8.alloc (TO 31 C r_ s_ C' t_ s_' (-1) (1 - x.slot) x.stamp z2 z3 z4 z5) = w9 at *
                obtain ⟨a0, a1, a2, a3, a4, a5, a6, a7, a8⟩ := HF8.out.sy.cells
                have hla := HF8.out.sy.lt
                obtain ⟨k0, k1, k2, k3, k4, k5, k6, k7, k8⟩ := HZ.out.cells
                have hlz := HZ.out.lt
                obtain ⟨g0, -, -, -, -, -⟩ := HF8.out.st.box
                have hl5 := HF8.out.st.lt
                have hw1 : IntKind.i64.wrap ((N : Int) - gg) = (N : Int) - gg := IntWalk.i64_in _ (by omega)
                have hw2 : IntKind.i64.wrap (37 * ((N : Int) - gg)) = 37 * ((N : Int) - gg) := IntWalk.i64_in _ (by omega)
                have hw3 : IntKind.i64.wrap (37 * ((N : Int) - gg) - 8) = 37 * ((N : Int) - gg) - 8 := IntWalk.i64_in _ (by omega)
                have HBg : Hid (∀ W, Calls Tryz.prog 30 #[.int .i64 (N : Int)] W fun r w' => r = .returned (.int .i64 gg) ∧ W = w') := Lib.hid (fun W => by have := begin_any (N : Int) W; rwa [HG1.out] at this)
                have HFz : Hid (∀ W, Below w9.heap.size w9 W → Calls Tryz.prog 19 #[TV C r_ s_ C' t_ s_' (-1) ⟨1 - x.slot, x.stamp, z2, z3, z4, z5⟩, .int .i64 (37 * ((N : Int) - gg) - 8)] W fun r w' => r = .returned (.bool true) ∧ Below W.heap.size W w') := Lib.hid (fun W hb => by
                  have := sfits_any C r_ s_ C' t_ s_' (-1) S2 [] W (HDz.out.below hb) ⟨1 - x.slot, x.stamp, z2, z3, z4, z5⟩ (37 * ((N : Int) - gg) - 8) HZ3.out
                  rw [HFi2.out.len] at this
                  rwa [HFr.out] at this)
                go_cut [135] (fun s135 wx => s135 = .bool false ∧ Hid (Below w9.heap.size w9 wx))
                case first =>
                  go_region_held3 (fun W => W.cell? ⟨bz, 0, none⟩ = some (.slice C r_ s_) ∧ W.cell? ⟨bz, 1, none⟩ = some (.slice C' t_ s_') ∧ W.cell? ⟨bz, 2, none⟩ = some (.int .i64 (-1)) ∧ W.cell? ⟨bz, 3, none⟩ = some (.int .i64 (1 - x.slot)) ∧ W.cell? ⟨bz, 4, none⟩ = some (.int .i64 x.stamp) ∧ W.cell? ⟨bz, 5, none⟩ = some (.int .i64 z2) ∧ W.cell? ⟨bz, 6, none⟩ = some (.int .i64 z3) ∧ W.cell? ⟨bz, 7, none⟩ = some (.int .i64 z4) ∧ W.cell? ⟨bz, 8, none⟩ = some (.bool z5) ∧ W.cell? ⟨b11, 3, none⟩ = some (.int .i64 x.slot) ∧ W.cell? ⟨b11, 5, none⟩ = some (.int .i64 x.stamp) ∧ W.cell? ⟨b5, 0, none⟩ = some (.slice A1 N c1)) (go_keep)
                    (first
                      | (go_at_call 30; with_reducible refine (HBg.out _).mono ?_; rintro r wa ⟨rfl, rfl⟩)
                      | (go_at_call 19; ((with_reducible refine (HFz.out _ (by repeat (first | exact Below.refl _ _ | refine Below.push ?_ _ | refine Below.drew ?_))).mono ?_); rintro r wb ⟨rfl, hbb⟩; have hbwb : Below w9.heap.size w9 wb := (Below.call (by repeat (first | exact Below.refl _ _ | refine Below.push ?_ _ | refine Below.drew ?_)) hbb); have qwb0 : wb.cell? ⟨bz, 0, none⟩ = some (.slice C r_ s_) := (hbwb.cell (p := ⟨bz, 0, none⟩) hlz).trans k0; have qwb1 : wb.cell? ⟨bz, 1, none⟩ = some (.slice C' t_ s_') := (hbwb.cell (p := ⟨bz, 1, none⟩) hlz).trans k1; have qwb2 : wb.cell? ⟨bz, 2, none⟩ = some (.int .i64 (-1)) := (hbwb.cell (p := ⟨bz, 2, none⟩) hlz).trans k2; have qwb3 : wb.cell? ⟨bz, 3, none⟩ = some (.int .i64 (1 - x.slot)) := (hbwb.cell (p := ⟨bz, 3, none⟩) hlz).trans k3; have qwb4 : wb.cell? ⟨bz, 4, none⟩ = some (.int .i64 x.stamp) := (hbwb.cell (p := ⟨bz, 4, none⟩) hlz).trans k4; have qwb5 : wb.cell? ⟨bz, 5, none⟩ = some (.int .i64 z2) := (hbwb.cell (p := ⟨bz, 5, none⟩) hlz).trans k5; have qwb6 : wb.cell? ⟨bz, 6, none⟩ = some (.int .i64 z3) := (hbwb.cell (p := ⟨bz, 6, none⟩) hlz).trans k6; have qwb7 : wb.cell? ⟨bz, 7, none⟩ = some (.int .i64 z4) := (hbwb.cell (p := ⟨bz, 7, none⟩) hlz).trans k7; have qwb8 : wb.cell? ⟨bz, 8, none⟩ = some (.bool z5) := (hbwb.cell (p := ⟨bz, 8, none⟩) hlz).trans k8; have qwb9 : wb.cell? ⟨b11, 3, none⟩ = some (.int .i64 x.slot) := (hbwb.cell (p := ⟨b11, 3, none⟩) hla).trans a3; have qwb10 : wb.cell? ⟨b11, 5, none⟩ = some (.int .i64 x.stamp) := (hbwb.cell (p := ⟨b11, 5, none⟩) hla).trans a5; have qwb11 : wb.cell? ⟨b5, 0, none⟩ = some (.slice A1 N c1) := (hbwb.cell (p := ⟨b5, 0, none⟩) hl5).trans g0; have HBl : Hid (Below w9.heap.size w9 wb) := Lib.hid hbwb; clear hbb)))
                  all_goals (
                    go_wp2_with fail
                    go_meet
                    first
                      | exact ⟨rfl, HBl⟩
                      | exact ⟨rfl, Lib.hid HBl.out.drew⟩)
                case rest =>
                  obtain ⟨rfl, HBw⟩ := hcut
                  have HF9 := Lib.hid (HF8.out.call HBw.out)
                  have HZ9 := Lib.hid (HZ.out.call HBw.out)
                  have HD9 := Lib.hid (HDz.out.below HBw.out)
                  clear a0 a1 a2 a3 a4 a5 a6 a7 a8 hla k0 k1 k2 k3 k4 k5 k6 k7 k8 hlz g0 hl5 HF8 HZ HDz HBg HFz
                  obtain ⟨a0, a1, a2, a3, a4, a5, a6, a7, a8⟩ := HF9.out.sy.cells
                  obtain ⟨f0, f1, f2, f3, f4, f5, f6, f7, f8⟩ := HF9.out.sy.live
                  have hla := HF9.out.sy.lt
                  obtain ⟨k0, k1, k2, k3, k4, k5, k6, k7, k8⟩ := HZ9.out.cells
                  have hlz := HZ9.out.lt
                  go_wp2_with fail
                  go_roundw
                  case rel => exact ⟨i + 1, by omega, by go_num, Lib.hid ⟨_, _, _, _, _, _, _, _, HF9.out.put (y := ⟨1 - x.slot, x.stamp, z2, z3, z4, z5⟩) HD9.out HFi2.out rfl⟩⟩
                  case measure => simp [intOf]; omega
        · have h5' : (200 : Int) < xt.size := by omega
          go_wp2_with (go_at_call 7; with_reducible refine (HAw.out _ HF.out.bel).mono ?_; rintro r w4 ⟨rfl, b4⟩; have HB4 := Lib.hid (HF.out.bel.call b4); clear b4)
          go_ret
          exact ⟨rfl, HB4.out⟩
      · obtain rfl : i = k := by omega
        have hlive := HF.out.fi.live
        rw [hlive] at a8
        go_wp2_with (go_at_call 7; with_reducible refine (HAw.out _ HF.out.bel).mono ?_; rintro r w4 ⟨rfl, b4⟩; have HB4 := Lib.hid (HF.out.bel.call b4); clear b4)
        go_ret
        exact ⟨rfl, HB4.out⟩
  · have h1' : (20 : Int) < k := by omega
    go_enter Tryz.func6, Tryz.ntmps6
    go_wp2_with (go_at_call 7; with_reducible refine (HAw.out _ (Below.refl _ _)).mono ?_; rintro r w1 ⟨rfl, b1⟩; have HB1 := Lib.hid b1; clear b1)
    go_ret
    exact ⟨rfl, HB1.out⟩

end Go.Proofs.YtkglolnghihegaaGreatDoor.Sto
