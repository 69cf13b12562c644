/- The walk of awake (layer 17). -/
import Derived.Test.YtndbgdapojkfaaaGreatDoorProZ
import Derived.Test.YtndbgdapojkfaaaGreatDoorParAwP
import Derived.Test.YtndbgdapojkfaaaGreatDoorCls
set_option linter.unusedVariables false
namespace Go.Proofs.YtndbgdapojkfaaaGreatDoor.Par
open Go.RowKit Go.Deep Go.Proofs.YtndbgdapojkfaaaGreatDoor.Byt Go.Proofs.YtndbgdapojkfaaaGreatDoor.Utf Go.Proofs.YtndbgdapojkfaaaGreatDoor.Tre Go.Proofs.YtndbgdapojkfaaaGreatDoor.Txt Go.Proofs.YtndbgdapojkfaaaGreatDoor.Ero Go.Proofs.YtndbgdapojkfaaaGreatDoor.Cls

theorem aw_P1 (w : World) : Calls Tryz.prog 8 #[.string ⟨#[59, 120, 61, 97, 44, 34, 98, 59, 99, 34, 59, 89, 45, 50, 61, 94, 94, 94, 110, 94, 39, 94, 120, 58, 118]⟩] w fun r w' => ∃ a c, r = .returned (.tuple #[.slice a 2 c, .int .i64 23, .nilIface]) ∧ (2 : Int) ≤ c ∧ Rd w' (psD 46 [awP, awQ]) (.slice a 2 c) ∧ Below w.heap.size w w' :=
  pp_ok (s := ⟨#[59, 120, 61, 97, 44, 34, 98, 59, 99, 34, 59, 89, 45, 50, 61, 94, 94, 94, 110, 94, 39, 94, 120, 58, 118]⟩) (by decide) (m := 23) aw_prs w
theorem aw_P2 (w : World) : Calls Tryz.prog 8 #[.string ⟨#[59, 88, 61, 34, 97]⟩] w fun r w' => ∃ a c ev, r = .returned (.tuple #[.slice a 0 c, .int .i64 0, ev]) ∧ Ee w' 3 5 ev ∧ Below w.heap.size w w' := by
  refine (pp_no (s := ⟨#[59, 88, 61, 34, 97]⟩) (by decide) (m := 5) (e := 3) (by decide) aw_bad w).mono ?_
  rintro r w' ⟨a, c, ev, rfl, _, h1, h2⟩
  exact ⟨a, c, ev, rfl, h1, h2⟩
theorem aw_PA (a : Option Addr) (c : Nat) (hc : (2 : Int) ≤ c) (w : World) (h : Rd w (psD 46 [awP, awQ]) (.slice a 2 c)) : Calls Tryz.prog 16 #[.slice a 2 c] w fun r w' => r = .returned (.tuple #[.string ⟨#[59, 88, 61, 97, 44, 34, 98, 59, 99, 34, 59, 89, 45, 50, 61, 94, 94, 94, 110, 94, 39, 94, 94, 120]⟩, .int .i64 0]) ∧ Below w.heap.size w w' := by
  have := pprt_may [awP, awQ] aw_prt.1 a c hc w h
  rw [aw_prt.2] at this
  exact this
theorem aw_F (a : Option Addr) (c : Nat) (w : World) (h : Rd w (psD 46 [awP, awQ]) (.slice a 2 c)) : Calls Tryz.prog 18 #[.slice a 2 c, .string ⟨#[89, 45, 50]⟩] w fun r w' => ∃ a' c', r = .returned (.tuple #[.agg #[.string ⟨#[89, 45, 50]⟩, .slice a' 1 c'], .bool true]) ∧ Rd w' (txD (mks awQ.v)) (.slice a' 1 c') ∧ Below w.heap.size w w' := by
  have := pfind_any [awP, awQ] (sm_chk aw_prt.1) ⟨#[89, 45, 50]⟩ (by decide) a c w h
  rw [show fndP [awP, awQ] (ByteArray.mk #[89, 45, 50]).data.toList = awQ by decide, show hasN [awP, awQ] (ByteArray.mk #[89, 45, 50]).data.toList = true by decide] at this
  exact this
theorem aw_S (a : Option Addr) (c : Nat) (w : World) (h : Rd w (psD 46 [awP, awQ]) (.slice a 2 c)) : Calls Tryz.prog 24 #[.slice a 2 c, .slice a 2 c] w fun r w' => r = .returned (.bool true) ∧ Below w.heap.size w w' :=
  psame_self [awP, awQ] (sm_chk aw_prt.1) a a c c w h h
theorem aw_N (a : Option Addr) (c : Nat) (w : World) (h : Rd w (psD 46 [awP, awQ]) (.slice a 2 c)) : Calls Tryz.prog 24 #[.slice a 2 c, .slice none 0 0] w fun r w' => r = .returned (.bool false) ∧ Below w.heap.size w w' := by
  have := psame_any [awP, awQ] [] (sm_chk aw_prt.1) sm_nil a none c 0 w h (.nil _ _ _ _)
  rw [decide_eq_false (by simp)] at this
  exact this
theorem aw_C (w : World) : Calls Tryz.prog 27 #[.agg #[.string ⟨#[88]⟩, .slice none 0 0]] w fun r w' => r = .returned (.int .i64 20) ∧ Below w.heap.size w w' :=
  pchk_any ⟨[88], []⟩ (by refine ⟨by decide, by decide, fun v hv => by cases hv⟩) none 0 w (.nil _ _ _ _)
/-- What awake holds of the first text's parameters. -/
structure Ax (b off c b1 o1 c1 : Nat) (W : World) : Prop where
  ps : Rd W (psD 46 [awP, awQ]) (.slice (some ⟨b, off, none⟩) 2 c)
  n0 : W.cell? ⟨b, off, none⟩ = some (.string ⟨#[88]⟩)
  v0 : W.cell? ⟨b, off + 1, none⟩ = some (.slice (some ⟨b1, o1, none⟩) 2 c1)
  x1 : W.cell? ⟨b1, o1 + 1, none⟩ = some (.string ⟨#[98, 59, 99]⟩)
theorem Ax.call {b off c b1 o1 c1 : Nat} {W W' : World} (h : Ax b off c b1 o1 c1 W) (hb : Below W.heap.size W W') : Ax b off c b1 o1 c1 W' :=
  ⟨h.ps.call hb, (hb.cell (p := ⟨b, off, none⟩) (Byt.cell_lt h.n0)).trans h.n0, (hb.cell (p := ⟨b, off + 1, none⟩) (Byt.cell_lt h.v0)).trans h.v0, (hb.cell (p := ⟨b1, o1 + 1, none⟩) (Byt.cell_lt h.x1)).trans h.x1⟩
theorem Ax.of {W : World} {a : Option Addr} {c : Nat} (h : Rd W (psD 46 [awP, awQ]) (.slice a 2 c)) : ∃ b off b1 o1 c1, a = some ⟨b, off, none⟩ ∧ Ax b off c b1 o1 c1 W := by
  obtain ⟨b, off, rfl, n0, p0, q0, v0, hv⟩ := param_at h (i := 0) (by decide)
  obtain ⟨b1, o1, rfl, x1⟩ := text_in hv (k := 1) (by decide)
  exact ⟨b, off, b1, o1, q0, rfl, h, n0, v0, x1⟩
set_option maxRecDepth 20000 in
set_option maxHeartbeats 4000000 in
theorem awake_any (w : World) (hT : Flt.ETab w) : Calls Tryz.prog 7 #[] w fun r w' => r = .returned (.bool true) ∧ Below w.heap.size w w' := by
  have HT := Lib.hid hT
  clear hT
  have H1 := Lib.hid (fun W => aw_P1 W)
  have H2 := Lib.hid (fun W => aw_P2 W)
  have H3 := Lib.hid (fun a c hc W h => aw_PA a c hc W h)
  have H4 := Lib.hid (fun a c W h => aw_F a c W h)
  have H5 := Lib.hid (fun W v (h : Ee W 3 5 v) hT => code_any h hT)
  have H6 := Lib.hid (fun W v (h : Ee W 3 5 v) hT => place_any h hT (by decide) (by decide) (by decide))
  have H7 := Lib.hid (fun a c W h => aw_S a c W h)
  have H8 := Lib.hid (fun a c W h => aw_N a c W h)
  have H9 := Lib.hid (fun W => aw_C W)
  go_enter Tryz.func7, Tryz.ntmps7
  go_wp2_with (first
    | (go_at_call 8; with_reducible refine (H1.out _).mono ?_; rintro r w1 ⟨a1, c1, rfl, hc, hr, hb⟩; obtain ⟨b, off, b1, o1, q1, rfl, hx⟩ := Ax.of hr; have C1 := Lib.hid hc; have R1 := Lib.hid hx; have B1 := Lib.hid ((Bl.refl w).call hb); clear hc hr hx hb)
    | (go_at_call 16; with_reducible refine (H3.out _ _ C1.out _ R1.out.ps).mono ?_; rintro r w2 ⟨rfl, hb⟩; have R2 := Lib.hid (R1.out.call hb); have B2 := Lib.hid (B1.out.call hb); clear hb)
    | (go_at_call 8; with_reducible refine (H2.out _).mono ?_; rintro r w3 ⟨a3, c3, e3, rfl, hE, hb⟩; have E3 := Lib.hid hE; have R3 := Lib.hid (R2.out.call hb); have B3 := Lib.hid (B2.out.call hb); clear hE hb)
    | (go_at_call 18; with_reducible refine (H4.out _ _ _ R3.out.ps).mono ?_; rintro r w4 ⟨a4, c4, rfl, hq, hb⟩; obtain ⟨b2, o2, rfl, y0⟩ := text_in hq (k := 0) (by decide); have hn := new1 w4 (.cells #[.string ⟨#[89, 45, 50]⟩, .slice (some ⟨b2, o2, none⟩) 1 c4] 46); have E4 := Lib.hid ((E3.out.call hb).call hn); have R4 := Lib.hid ((R3.out.call hb).call hn); have B4 := Lib.hid ((B3.out.call hb).call hn); have x0 := R4.out.n0; have x1 := R4.out.v0; have x2 := R4.out.x1; have x3 := (Tre.Blk.new w4 46 [.string ⟨#[89, 45, 50]⟩, .slice (some ⟨b2, o2, none⟩) 1 c4]).cell (i := 1) rfl; have x4 := (hn.cell (p := ⟨b2, o2, none⟩) (Byt.cell_lt y0)).trans y0; clear hq hb hn y0)
    | (go_at_call 12; with_reducible refine (H5.out _ _ E4.out (HT.out.call B4.out.below)).mono ?_; rintro r w5 ⟨rfl, hb⟩; have E5 := Lib.hid (E4.out.call hb); have R5 := Lib.hid (R4.out.call hb); have B5 := Lib.hid (B4.out.call hb); clear hb)
    | (go_at_call 13; with_reducible refine (H6.out _ _ E5.out (HT.out.call B5.out.below)).mono ?_; rintro r w6 ⟨rfl, hb⟩; have R6 := Lib.hid (R5.out.call hb); have B6 := Lib.hid (B5.out.call hb); clear hb)
    | (go_at_call 24; with_reducible refine (H7.out _ _ _ R6.out.ps).mono ?_; rintro r w7 ⟨rfl, hb⟩; have R7 := Lib.hid (R6.out.call hb); have B7 := Lib.hid (B6.out.call hb); clear hb)
    | (go_at_call 24; with_reducible refine (H8.out _ _ _ R7.out.ps).mono ?_; rintro r w8 ⟨rfl, hb⟩; have B8 := Lib.hid (B7.out.call hb); clear hb)
    | (go_at_call 27; with_reducible refine (H9.out _).mono ?_; rintro r w9 ⟨rfl, hb⟩; have B9 := Lib.hid (B8.out.call hb); clear hb))
  go_ret
  exact ⟨rfl, B9.out.below⟩
end Go.Proofs.YtndbgdapojkfaaaGreatDoor.Par
