/- The walk of ParamTells. -/
import Derived.Test.YtndbgdapojkfaaaGreatDoorParAw
import Derived.Deep.RegionHeld3
import Derived.Deep.DeepCutAuto
set_option linter.unusedVariables false
namespace Go.Proofs.YtndbgdapojkfaaaGreatDoor.Par
open Go.RowKit Go.Deep Go.Proofs.YtndbgdapojkfaaaGreatDoor.Byt Go.Proofs.YtndbgdapojkfaaaGreatDoor.Utf Go.Proofs.YtndbgdapojkfaaaGreatDoor.Tre Go.Proofs.YtndbgdapojkfaaaGreatDoor.Txt Go.Proofs.YtndbgdapojkfaaaGreatDoor.Ero Go.Proofs.YtndbgdapojkfaaaGreatDoor.Cls

/-- A literal of one parameter reads as it. -/
theorem lit_one {W : World} {x : Nat} {T : TypeId} {p : PP} {a : Option Addr} {c : Nat} (hb : Tre.Blk W x T [.string ⟨p.n.toArray⟩, .slice a p.v.length c]) (hv : Rd W (txD (mks p.v)) (.slice a (mks p.v).length c)) : Rd W (psD T [p]) (.slice (some ⟨x, 0, none⟩) ([p] : List PP).length 1) := by
  unfold psD
  refine Rd.of_cells (by simp [pC]) (Nat.le_refl _) (fun _ => hb.lt) (fun j d hd => ?_)
  match j, hd with
  | 0, hd =>
    have hd : Dat.one (.string ⟨p.n.toArray⟩) = d := by simpa [pC] using hd
    subst hd
    exact ⟨_, hb.cell (i := 0) rfl, .one _⟩
  | 1, hd =>
    have hd : txD (mks p.v) = d := by simpa [pC] using hd
    subst hd
    rw [mks_len] at hv
    exact ⟨_, hb.cell (i := 1) rfl, hv⟩
  | j + 2, hd => simp [pC] at hd
/-- What ParamTells holds of its argument. -/
structure Tz (w W : World) (ps qs : List PP) (a b : Option Addr) (c e : Nat) : Prop where
  bl : Bl w W
  tab : Flt.ETab W
  box : Tre.Blk W w.heap.size 37 [.slice a ps.length c, .slice b qs.length e]
  ps : Rd W (psD 49 ps) (.slice a ps.length c)
  qs : Rd W (psD 49 qs) (.slice b qs.length e)
theorem Tz.keep {w W W' : World} {ps qs : List PP} {a b : Option Addr} {c e : Nat} (h : Tz w W ps qs a b c e) (hb : Below W.heap.size W W') : Tz w W' ps qs a b c e :=
  ⟨h.bl.call hb, h.tab.call hb, h.box.kept (hb.block _ h.box.lt), h.ps.call hb, h.qs.call hb⟩
theorem Tz.new {w : World} {ps qs : List PP} {a b : Option Addr} {c e : Nat} (hT : Flt.ETab w) (h1 : Rd w (psD 49 ps) (.slice a ps.length c)) (h2 : Rd w (psD 49 qs) (.slice b qs.length e)) : Tz w (w.alloc (.cells #[.slice a ps.length c, .slice b qs.length e] 37)) ps qs a b c e :=
  ⟨(Bl.refl w).alloc _, hT.call (new1 _ _), Tre.Blk.new w _ _, h1.call (new1 _ _), h2.call (new1 _ _)⟩
theorem fnd_sm {ps : List PP} (h : SmA ps) (n : List UInt8) : SmA [fndP ps n] := by
  refine ⟨by simp, fun p hp => ?_⟩
  have : p = fndP ps n := by simpa using hp
  subst this
  unfold fndP
  rcases hf : ps.find? (fun p => p.n == n) with _ | q
  · rw [hf]
    exact ⟨by simp, by simp, fun v hv => by simp at hv⟩
  · rw [hf]
    exact h.2 q (List.mem_of_find?_eq_some hf)
/-- What ParamTells holds: its argument's box, what was made of the first list, what was found. -/
structure Tw (w W : World) (ps qs : List PP) (p : PP) (a b a1 a2 a3 : Option Addr) (c e c1 c2 c3 gp gq : Nat) : Prop where
  z : Tz w W ps qs a b c e
  own : Rd W (psD 46 ps) (.slice a1 ps.length c1)
  pb : Tre.Blk W gp 46 [.string ⟨p.n.toArray⟩, .slice a2 p.v.length c2]
  qb : Tre.Blk W gq 49 [.string ⟨p.n.toArray⟩, .slice a3 p.v.length c3]
  pv : Rd W (txD (mks p.v)) (.slice a2 (mks p.v).length c2)
  qv : Rd W (txD (mks p.v)) (.slice a3 (mks p.v).length c3)
theorem Tw.keep {w : World} {ps qs : List PP} {p : PP} {a b a1 a2 a3 : Option Addr} {c e c1 c2 c3 gp gq : Nat} {W W' : World} (h : Tw w W ps qs p a b a1 a2 a3 c e c1 c2 c3 gp gq) (hb : Below W.heap.size W W') : Tw w W' ps qs p a b a1 a2 a3 c e c1 c2 c3 gp gq :=
  ⟨h.z.keep hb, h.own.call hb, h.pb.kept (hb.block _ h.pb.lt), h.qb.kept (hb.block _ h.qb.lt), h.pv.call hb, h.qv.call hb⟩
theorem Tw.same {w : World} {ps qs : List PP} {p : PP} {a b a1 a2 a3 : Option Addr} {c e c1 c2 c3 gp gq : Nat} {W : World} (h : Tw w W ps qs p a b a1 a2 a3 c e c1 c2 c3 gp gq) (hp : SmA [p]) :
    Calls Tryz.prog 10 #[.slice (some ⟨W.heap.size, 0, none⟩) 1 1, .slice (some ⟨W.heap.size + 1, 0, none⟩) 1 1] ((W.alloc (.cells #[.string ⟨p.n.toArray⟩, .slice a2 p.v.length c2] 49)).alloc (.cells #[.string ⟨p.n.toArray⟩, .slice a3 p.v.length c3] 49)).drew fun r w' => r = .returned (.bool true) ∧ Below W.heap.size W w' := by
  have hb := ((Below.refl W.heap.size W).alloc (Nat.le_refl _) (.cells #[.string ⟨p.n.toArray⟩, .slice a2 p.v.length c2] 49)).alloc (by simp) (.cells #[.string ⟨p.n.toArray⟩, .slice a3 p.v.length c3] 49)
  have k := h.keep hb
  have x := (Tre.Blk.new W 49 [.string ⟨p.n.toArray⟩, .slice a2 p.v.length c2]).alloc (.cells #[.string ⟨p.n.toArray⟩, .slice a3 p.v.length c3] 49)
  have y := Tre.Blk.new (W.alloc (.cells #[.string ⟨p.n.toArray⟩, .slice a2 p.v.length c2] 49)) 49 [.string ⟨p.n.toArray⟩, .slice a3 p.v.length c3]
  rw [World.size_alloc] at y
  refine (rsame_self [p] hp _ _ 1 1 _ ((lit_one x k.pv).call (Below.refl _ _).drew) ((lit_one y k.qv).call (Below.refl _ _).drew)).mono ?_
  rintro r w' ⟨rfl, h2⟩
  exact ⟨rfl, hb.drew.trans (h2.mono (by simp; omega))⟩
theorem Tw.same2 {w : World} {ps qs : List PP} {p : PP} {a b a1 a2 a3 : Option Addr} {c e c1 c2 c3 gp gq : Nat} {W : World} (h : Tw w W ps qs p a b a1 a2 a3 c e c1 c2 c3 gp gq) (hp : SmA [p]) :
    Calls Tryz.prog 10 #[.slice (some ⟨W.heap.size + 1, 0, none⟩) 1 1, .slice (some ⟨W.heap.size, 0, none⟩) 1 1] ((W.alloc (.cells #[.string ⟨p.n.toArray⟩, .slice a3 p.v.length c3] 49)).alloc (.cells #[.string ⟨p.n.toArray⟩, .slice a2 p.v.length c2] 49)).drew fun r w' => r = .returned (.bool true) ∧ Below W.heap.size W w' := by
  have hb := ((Below.refl W.heap.size W).alloc (Nat.le_refl _) (.cells #[.string ⟨p.n.toArray⟩, .slice a3 p.v.length c3] 49)).alloc (by simp) (.cells #[.string ⟨p.n.toArray⟩, .slice a2 p.v.length c2] 49)
  have k := h.keep hb
  have x := (Tre.Blk.new W 49 [.string ⟨p.n.toArray⟩, .slice a3 p.v.length c3]).alloc (.cells #[.string ⟨p.n.toArray⟩, .slice a2 p.v.length c2] 49)
  have y := Tre.Blk.new (W.alloc (.cells #[.string ⟨p.n.toArray⟩, .slice a3 p.v.length c3] 49)) 49 [.string ⟨p.n.toArray⟩, .slice a2 p.v.length c2]
  rw [World.size_alloc] at y
  refine (rsame_self [p] hp _ _ 1 1 _ ((lit_one y k.pv).call (Below.refl _ _).drew) ((lit_one x k.qv).call (Below.refl _ _).drew)).mono ?_
  rintro r w' ⟨rfl, h2⟩
  exact ⟨rfl, hb.drew.trans (h2.mono (by simp; omega))⟩
/-- A round of ParamTells: a parameter of each list, and where its cells stand. -/
structure Rw (w W : World) (ps qs : List PP) (p : PP) (a b a1 a2 a3 : Option Addr) (c e c1 c2 c3 gp gq : Nat) (q : PP) (d1 d2 d3 d4 : Addr) (v1 : Option Addr) (q1 : Nat) (v2 : Option Addr) (q2 : Nat) : Prop where
  t : Tw w W ps qs p a b a1 a2 a3 c e c1 c2 c3 gp gq
  n1 : W.cell? d1 = some (.string ⟨q.n.toArray⟩)
  x1 : W.cell? d2 = some (.slice v1 q.v.length q1)
  n2 : W.cell? d3 = some (.string ⟨q.n.toArray⟩)
  x2 : W.cell? d4 = some (.slice v2 q.v.length q2)
  hv1 : Rd W (txD (mks q.v)) (.slice v1 (mks q.v).length q1)
  hv2 : Rd W (txD (mks q.v)) (.slice v2 (mks q.v).length q2)
theorem Rw.keep {w W W' : World} {ps qs : List PP} {p : PP} {a b a1 a2 a3 : Option Addr} {c e c1 c2 c3 gp gq : Nat} {q : PP} {d1 d2 d3 d4 : Addr} {v1 : Option Addr} {q1 : Nat} {v2 : Option Addr} {q2 : Nat} (h : Rw w W ps qs p a b a1 a2 a3 c e c1 c2 c3 gp gq q d1 d2 d3 d4 v1 q1 v2 q2) (hb : Below W.heap.size W W') : Rw w W' ps qs p a b a1 a2 a3 c e c1 c2 c3 gp gq q d1 d2 d3 d4 v1 q1 v2 q2 :=
  ⟨h.t.keep hb, (hb.cell (Byt.cell_lt h.n1)).trans h.n1, (hb.cell (Byt.cell_lt h.x1)).trans h.x1, (hb.cell (Byt.cell_lt h.n2)).trans h.n2, (hb.cell (Byt.cell_lt h.x2)).trans h.x2, h.hv1.call hb, h.hv2.call hb⟩
set_option maxRecDepth 100000 in
set_option maxHeartbeats 8000000 in
theorem walk_tells (ps qs : List PP) (a b : Option Addr) (c e : Nat) (s : ByteArray) (w : World) (hT : Flt.ETab w) (hc : (ps.length : Int) ≤ c) (he : (qs.length : Int) ≤ e) (h1 : Rd w (psD 49 ps) (.slice a ps.length c)) (h2 : Rd w (psD 49 qs) (.slice b qs.length e)) :
    Calls Tryz.prog 4 #[.agg #[.slice a ps.length c, .slice b qs.length e], .string s] w fun r w' => r = .returned (.bool true) ∧ Below w.heap.size w w' := by
  have HA := Lib.hid (fun W hW => awake_any W hW)
  have X0 := Lib.hid (Tz.new hT h1 h2)
  have HM1 := Lib.hid (fun W hW => small_any ps a c W hW)
  have HM2 := Lib.hid (fun W hW => small_any qs b e W hW)
  clear hT h1 h2
  have l0 := X0.out.box.cell (i := 0) rfl
  have l1 := X0.out.box.cell (i := 1) rfl
  by_cases hf : FewA ps
  case neg =>
    rw [decide_eq_false hf] at HM1
    go_enter Tryz.func4, Tryz.ntmps4
    go_wp2_with (first
      | (go_at_call 14; with_reducible refine (HM1.out _ X0.out.ps).mono ?_; rintro r w' ⟨rfl, rfl⟩)
      | (go_at_call 14; with_reducible refine (HM2.out _ X0.out.qs).mono ?_; rintro r w' ⟨rfl, rfl⟩)
      | (go_at_call 7; with_reducible refine (HA.out _ X0.out.tab).mono ?_; rintro r w1 ⟨rfl, hb⟩; have B1 := Lib.hid (X0.out.bl.call hb); clear hb))
    go_ret
    exact ⟨rfl, B1.out.below⟩
  rw [decide_eq_true hf] at HM1
  by_cases hg : FewA qs
  case neg =>
    rw [decide_eq_false hg] at HM2
    go_enter Tryz.func4, Tryz.ntmps4
    go_wp2_with (first
      | (go_at_call 14; with_reducible refine (HM1.out _ X0.out.ps).mono ?_; rintro r w' ⟨rfl, rfl⟩)
      | (go_at_call 14; with_reducible refine (HM2.out _ X0.out.qs).mono ?_; rintro r w' ⟨rfl, rfl⟩)
      | (go_at_call 7; with_reducible refine (HA.out _ X0.out.tab).mono ?_; rintro r w1 ⟨rfl, hb⟩; have B1 := Lib.hid (X0.out.bl.call hb); clear hb))
    go_ret
    exact ⟨rfl, B1.out.below⟩
  rw [decide_eq_true hg] at HM2
  by_cases hn : (40 : Int) < s.size
  · clear hf hg
    go_enter Tryz.func4, Tryz.ntmps4
    go_wp2_with (first
      | (go_at_call 14; with_reducible refine (HM1.out _ X0.out.ps).mono ?_; rintro r w' ⟨rfl, rfl⟩)
      | (go_at_call 14; with_reducible refine (HM2.out _ X0.out.qs).mono ?_; rintro r w' ⟨rfl, rfl⟩)
      | (go_at_call 7; with_reducible refine (HA.out _ X0.out.tab).mono ?_; rintro r w1 ⟨rfl, hb⟩; have B1 := Lib.hid (X0.out.bl.call hb); clear hb))
    go_ret
    exact ⟨rfl, B1.out.below⟩
  have hs : s.size ≤ 40 := by omega
  have hp := hf.sm
  have hq := hg.sm
  have hn10 : ps.length ≤ 10 := hf.1
  have HC := Lib.hid hc
  have HO1 := Lib.hid (fun a c W h => own_any ps (by omega) (fun p h => by have := (hp.2 p h).2.1; omega) a c W h)
  have HO2 := Lib.hid (fun a c W h => own_any qs (by have := hq.1; omega) (fun p h => by have := (hq.2 p h).2.1; omega) a c W h)
  have HPp := Lib.hid (fun a c hc W h => pprts_any ps hp a c hc W h)
  have HPr := Lib.hid (fun W h => rprts_any ps hp a c hc W h)
  have HFp := Lib.hid (fun a c W h => pfind_any ps hp s (by omega) a c W h)
  have HFr := Lib.hid (fun W h => rfind_any ps (by omega) s a c W h)
  have hsm := fnd_sm hp s.data.toList
  have HCp := Lib.hid (fun a c hc W h => pchks_any ps hp a c hc W h)
  have HCr := Lib.hid (fun W h => rchks_any ps hp a c hc W h)
  have HNp := Lib.hid (fun W => pname_any s (by omega) W)
  have HNr := Lib.hid (fun W => name_any s (by omega) W)
  have HSp := Lib.hid (fun a b c d W h h' => psame_any ps qs hp hq a b c d W h h')
  have HSr := Lib.hid (fun W h h' => rsame_any ps qs hp hq a b c e W h h')
  have HP := Lib.hid hp
  clear hf hg hc he hp hq
  generalize ByteArray.mk (prtAR ps).1.toArray = y at *
  generalize (prtAR ps).2 = k1 at *
  generalize chkA ps = k2 at *
  generalize nmB s.data.toList = b1 at *
  generalize decide (ps = qs) = b2 at *
  generalize hasN ps s.data.toList = b0 at *
  generalize fndP ps s.data.toList = p at *
  have ty : (y.toList != y.toList) = false := by simp
  have tk1 : (k1 != k1) = false := by simp
  have tk2 : (k2 != k2) = false := by simp
  have tb0 : (b0 != b0) = false := by simp
  have tb1 : (b1 != b1) = false := by simp
  have tb2 : (b2 != b2) = false := by simp
  go_enter Tryz.func4, Tryz.ntmps4
  go_upto_region 8 with (first
    | (go_at_call 14; with_reducible refine (HM1.out _ X0.out.ps).mono ?_; rintro r w' ⟨rfl, rfl⟩)
    | (go_at_call 14; with_reducible refine (HM2.out _ X0.out.qs).mono ?_; rintro r w' ⟨rfl, rfl⟩)
    | (go_at_call 15; with_reducible refine (HO1.out _ _ _ X0.out.ps).mono ?_; rintro r w1 ⟨a1, c1, rfl, hc, hr, hb⟩; have C1 := Lib.hid hc; have R1 := Lib.hid hr; have X1 := Lib.hid (X0.out.keep hb); clear hc hr hb; have l0 := X1.out.box.cell (i := 0) rfl; have l1 := X1.out.box.cell (i := 1) rfl; skip)
    | (go_at_call 16; with_reducible refine (HPp.out _ _ C1.out _ R1.out).mono ?_; rintro r w2 ⟨rfl, hb⟩; have R2 := Lib.hid (R1.out.call hb); have X2 := Lib.hid (X1.out.keep hb); clear hb; have l0 := X2.out.box.cell (i := 0) rfl; have l1 := X2.out.box.cell (i := 1) rfl; skip)
    | (go_at_call 17; with_reducible refine (HPr.out _ X2.out.ps).mono ?_; rintro r w3 ⟨rfl, hb⟩; have R3 := Lib.hid (R2.out.call hb); have X3 := Lib.hid (X2.out.keep hb); clear hb; have l0 := X3.out.box.cell (i := 0) rfl; have l1 := X3.out.box.cell (i := 1) rfl; skip)
    | (go_at_call 18; refine (HFp.out _ _ _ R3.out).mono ?_; rintro r w4 ⟨a2, c2, rfl, hv, hb⟩; have V4 := Lib.hid (hv.call (new1 _ (.cells #[.string ⟨p.n.toArray⟩, .slice a2 p.v.length c2] 46))); have R4 := Lib.hid ((R3.out.call hb).call (new1 _ (.cells #[.string ⟨p.n.toArray⟩, .slice a2 p.v.length c2] 46))); have X4 := Lib.hid ((X3.out.keep hb).keep (new1 _ (.cells #[.string ⟨p.n.toArray⟩, .slice a2 p.v.length c2] 46))); clear hv hb; have G4 := Lib.hid (Tre.Blk.new w4 46 [.string ⟨p.n.toArray⟩, .slice a2 p.v.length c2]); have l0 := X4.out.box.cell (i := 0) rfl; have l1 := X4.out.box.cell (i := 1) rfl; skip)
    | (go_at_call 19; refine (HFr.out _ X4.out.ps).mono ?_; rintro r w5 ⟨a3, c3, rfl, hv, hb⟩; have V5 := Lib.hid (V4.out.call hb); have U5 := Lib.hid hv; have R5 := Lib.hid (R4.out.call hb); have X5 := Lib.hid (X4.out.keep hb); have G5 := Lib.hid (G4.out.kept (hb.block _ G4.out.lt)); clear hv hb; have l0 := X5.out.box.cell (i := 0) rfl; have l1 := X5.out.box.cell (i := 1) rfl; skip))
  have hb5 : Below w5.heap.size w5 (w5.alloc (.cells #[.string ⟨p.n.toArray⟩, .slice a3 p.v.length c3] 49)) := new1 _ _
  have K0 : Hid (Tw w (w5.alloc (.cells #[.string ⟨p.n.toArray⟩, .slice a3 p.v.length c3] 49)) ps qs p a b a1 a2 a3 c e c1 c2 c3 w4.heap.size w5.heap.size) :=
    Lib.hid ⟨X5.out.keep hb5, R5.out.call hb5, G5.out.kept (hb5.block _ G5.out.lt), Tre.Blk.new w5 49 [.string ⟨p.n.toArray⟩, .slice a3 p.v.length c3], V5.out.call hb5, U5.out.call hb5⟩
  have z0 : (w5.alloc (.cells #[.string ⟨p.n.toArray⟩, .slice a3 p.v.length c3] 49)).cell? ⟨w.heap.size, 0, none⟩ = some (.slice a ps.length c) := K0.out.z.box.cell (i := 0) rfl
  have z1 : (w5.alloc (.cells #[.string ⟨p.n.toArray⟩, .slice a3 p.v.length c3] 49)).cell? ⟨w.heap.size, 1, none⟩ = some (.slice b qs.length e) := K0.out.z.box.cell (i := 1) rfl
  have z2 : (w5.alloc (.cells #[.string ⟨p.n.toArray⟩, .slice a3 p.v.length c3] 49)).cell? ⟨w4.heap.size, 0, none⟩ = some (.string ⟨p.n.toArray⟩) := K0.out.pb.cell (i := 0) rfl
  have z3 : (w5.alloc (.cells #[.string ⟨p.n.toArray⟩, .slice a3 p.v.length c3] 49)).cell? ⟨w4.heap.size, 1, none⟩ = some (.slice a2 p.v.length c2) := K0.out.pb.cell (i := 1) rfl
  have z4 : (w5.alloc (.cells #[.string ⟨p.n.toArray⟩, .slice a3 p.v.length c3] 49)).cell? ⟨w5.heap.size, 0, none⟩ = some (.string ⟨p.n.toArray⟩) := K0.out.qb.cell (i := 0) rfl
  have z5 : (w5.alloc (.cells #[.string ⟨p.n.toArray⟩, .slice a3 p.v.length c3] 49)).cell? ⟨w5.heap.size, 1, none⟩ = some (.slice a3 p.v.length c3) := K0.out.qb.cell (i := 1) rfl
  clear hb5
  generalize (w5.alloc (.cells #[.string ⟨p.n.toArray⟩, .slice a3 p.v.length c3] 49)) = w6 at *
  generalize w4.heap.size = gp at *
  generalize w5.heap.size = gq at *
  clear X0 X1 X2 X3 X4 X5 R1 R2 R3 R4 R5 V4 V5 U5 G4 G5 HM1 HM2 HO1 HPp HPr HFp HFr
  have HS1 := Lib.hid (fun W (h : Tw w W ps qs p a b a1 a2 a3 c e c1 c2 c3 gp gq) => h.same hsm)
  have HS2 := Lib.hid (fun W (h : Tw w W ps qs p a b a1 a2 a3 c e c1 c2 c3 gp gq) => h.same2 hsm)
  clear hsm
  go_cut [114] (fun v wx => v = .bool false ∧ Hid (Tw w wx ps qs p a b a1 a2 a3 c e c1 c2 c3 gp gq))
  case first =>
    try simp only [List.append_eq, List.cons_append, List.nil_append]
    go_region_held3 (fun W => W.cell? ⟨w.heap.size, 0, none⟩ = some (.slice a ps.length c) ∧ W.cell? ⟨w.heap.size, 1, none⟩ = some (.slice b qs.length e) ∧ W.cell? ⟨gp, 0, none⟩ = some (.string ⟨p.n.toArray⟩) ∧ W.cell? ⟨gp, 1, none⟩ = some (.slice a2 p.v.length c2) ∧ W.cell? ⟨gq, 0, none⟩ = some (.string ⟨p.n.toArray⟩) ∧ W.cell? ⟨gq, 1, none⟩ = some (.slice a3 p.v.length c3)) (go_keep)
      (first
        | (go_at_call 10; with_reducible refine (HS1.out _ K0.out).mono ?_; rintro r w7 ⟨rfl, hb⟩; have K1 := Lib.hid (K0.out.keep hb); clear hb; have z0 := K1.out.z.box.cell (i := 0) rfl; have z1 := K1.out.z.box.cell (i := 1) rfl; have z2 := K1.out.pb.cell (i := 0) rfl; have z3 := K1.out.pb.cell (i := 1) rfl; have z4 := K1.out.qb.cell (i := 0) rfl; have z5 := K1.out.qb.cell (i := 1) rfl; skip)
        | (go_at_call 10; with_reducible refine (HS2.out _ K0.out).mono ?_; rintro r w7 ⟨rfl, hb⟩; have K1 := Lib.hid (K0.out.keep hb); clear hb; have z0 := K1.out.z.box.cell (i := 0) rfl; have z1 := K1.out.z.box.cell (i := 1) rfl; have z2 := K1.out.pb.cell (i := 0) rfl; have z3 := K1.out.pb.cell (i := 1) rfl; have z4 := K1.out.qb.cell (i := 0) rfl; have z5 := K1.out.qb.cell (i := 1) rfl; skip)
        | (go_at_call 20; with_reducible refine (HCp.out _ _ C1.out _ K1.out.own).mono ?_; rintro r w8 ⟨rfl, hb⟩; have K2 := Lib.hid (K1.out.keep hb); clear hb; have z0 := K2.out.z.box.cell (i := 0) rfl; have z1 := K2.out.z.box.cell (i := 1) rfl; have z2 := K2.out.pb.cell (i := 0) rfl; have z3 := K2.out.pb.cell (i := 1) rfl; have z4 := K2.out.qb.cell (i := 0) rfl; have z5 := K2.out.qb.cell (i := 1) rfl; skip)
        | (go_at_call 21; with_reducible refine (HCr.out _ K2.out.z.ps).mono ?_; rintro r w9 ⟨rfl, hb⟩; have K3 := Lib.hid (K2.out.keep hb); clear hb; have z0 := K3.out.z.box.cell (i := 0) rfl; have z1 := K3.out.z.box.cell (i := 1) rfl; have z2 := K3.out.pb.cell (i := 0) rfl; have z3 := K3.out.pb.cell (i := 1) rfl; have z4 := K3.out.qb.cell (i := 0) rfl; have z5 := K3.out.qb.cell (i := 1) rfl; skip)
        | (go_at_call 22; with_reducible refine (HNp.out _).mono ?_; rintro r w10 ⟨rfl, hb⟩; have K4 := Lib.hid (K3.out.keep hb); clear hb; have z0 := K4.out.z.box.cell (i := 0) rfl; have z1 := K4.out.z.box.cell (i := 1) rfl; have z2 := K4.out.pb.cell (i := 0) rfl; have z3 := K4.out.pb.cell (i := 1) rfl; have z4 := K4.out.qb.cell (i := 0) rfl; have z5 := K4.out.qb.cell (i := 1) rfl; skip)
        | (go_at_call 23; with_reducible refine (HNr.out _).mono ?_; rintro r w11 ⟨rfl, rfl⟩)
        | (go_at_call 15; with_reducible refine (HO2.out _ _ _ K4.out.z.qs).mono ?_; rintro r w12 ⟨a4, c4, rfl, _, hr, hb⟩; have Q5 := Lib.hid hr; have K5 := Lib.hid (K4.out.keep hb); clear hr hb; have z0 := K5.out.z.box.cell (i := 0) rfl; have z1 := K5.out.z.box.cell (i := 1) rfl; have z2 := K5.out.pb.cell (i := 0) rfl; have z3 := K5.out.pb.cell (i := 1) rfl; have z4 := K5.out.qb.cell (i := 0) rfl; have z5 := K5.out.qb.cell (i := 1) rfl; skip)
        | (go_at_call 24; with_reducible refine (HSp.out _ _ _ _ _ K5.out.own Q5.out).mono ?_; rintro r w13 ⟨rfl, hb⟩; have K6 := Lib.hid (K5.out.keep hb); clear hb; have z0 := K6.out.z.box.cell (i := 0) rfl; have z1 := K6.out.z.box.cell (i := 1) rfl; have z2 := K6.out.pb.cell (i := 0) rfl; have z3 := K6.out.pb.cell (i := 1) rfl; have z4 := K6.out.qb.cell (i := 0) rfl; have z5 := K6.out.qb.cell (i := 1) rfl; skip)
        | (go_at_call 10; with_reducible refine (HSr.out _ K6.out.z.ps K6.out.z.qs).mono ?_; rintro r w14 ⟨rfl, hb⟩; have K7 := Lib.hid (K6.out.keep hb); clear hb; have z0 := K7.out.z.box.cell (i := 0) rfl; have z1 := K7.out.z.box.cell (i := 1) rfl; have z2 := K7.out.pb.cell (i := 0) rfl; have z3 := K7.out.pb.cell (i := 1) rfl; have z4 := K7.out.qb.cell (i := 0) rfl; have z5 := K7.out.qb.cell (i := 1) rfl; skip))
    all_goals
      go_wp2_with fail
      go_meet
      exact ⟨rfl, K7⟩
  case rest =>
    obtain ⟨rfl, K8⟩ := hcut
    clear HS1 HS2 HCp HCr HNp HNr HO2 HSp HSr K0 z0 z1 z2 z3 z4 z5
    go_wp2_with fail
    go_loopw [14] (fun iv wr => ∃ k : Nat, k ≤ ps.length ∧ iv = .int .i64 k ∧ Hid (Tw w wr ps qs p a b a1 a2 a3 c e c1 c2 c3 gp gq)) (fun iv _ => ps.length - (intOf iv).toNat)
    case atStart => exact ⟨0, Nat.zero_le _, rfl, K8⟩
    case round =>
      obtain ⟨k, hk, rfl, K⟩ := hrel
      by_cases h : k < ps.length
      · have h' : (k : Int) < ps.length := by omega
        obtain ⟨b1, o1, rfl, n1, v1, q1, x1, hv1⟩ := param_at K.out.own h
        obtain ⟨b2, o2, rfl, n2, v2, q2, x2, hv2⟩ := param_at K.out.z.ps h
        have hsq := HP.out.2 ps[k] (List.getElem_mem h)
        have M0 : Hid (Rw w wr ps qs p (some ⟨b2, o2, none⟩) b (some ⟨b1, o1, none⟩) a2 a3 c e c1 c2 c3 gp gq ps[k] ⟨b1, o1 + k * 2, none⟩ ⟨b1, o1 + k * 2 + 1, none⟩ ⟨b2, o2 + k * 2, none⟩ ⟨b2, o2 + k * 2 + 1, none⟩ v1 q1 v2 q2) := Lib.hid ⟨K.out, n1, x1, n2, x2, hv1, hv2⟩
        clear n1 x1 n2 x2 hv1 hv2
        generalize ps[k] = q at *
        have H1 := Lib.hid (fun a c W h => pprt_any q hsq a c W h)
        have H2 := Lib.hid (fun a c W h => rprt_any q hsq a c W h)
        have H3 := Lib.hid (fun a c W h => pchk_any q hsq a c W h)
        have H4 := Lib.hid (fun a c W h => rchk_any q hsq a c W h)
        generalize ByteArray.mk (prtR q).1.toArray = yq at *
        generalize (prtR q).2 = kq at *
        generalize chkP q = cq at *
        have tyq : (yq.toList != yq.toList) = false := by simp
        have tkq : (kq != kq) = false := by simp
        have tcq : (cq != cq) = false := by simp
        have l0 := M0.out.t.z.box.cell (i := 0) rfl
        have y1 := M0.out.n1
        have y2 := M0.out.x1
        go_wp2_with (first
          | (go_at_call 25; with_reducible refine (H1.out _ _ _ M0.out.hv1).mono ?_; rintro r w7 ⟨rfl, hb⟩; have M1 := Lib.hid (M0.out.keep hb); clear hb; have l0 := M1.out.t.z.box.cell (i := 0) rfl; have y3 := M1.out.n2; have y4 := M1.out.x2)
          | (go_at_call 26; with_reducible refine (H2.out _ _ _ M1.out.hv2).mono ?_; rintro r w8 ⟨rfl, hb⟩; have M2 := Lib.hid (M1.out.keep hb); clear hb))
        have HG := M2.out.keep (Below.refl _ _).drew
        have g0 := fun z : Wd (fun W => Rw w W ps qs p (some ⟨b2, o2, none⟩) b (some ⟨b1, o1, none⟩) a2 a3 c e c1 c2 c3 gp gq q ⟨b1, o1 + k * 2, none⟩ ⟨b1, o1 + k * 2 + 1, none⟩ ⟨b2, o2 + k * 2, none⟩ ⟨b2, o2 + k * 2 + 1, none⟩ v1 q1 v2 q2) => z.ok.t.z.box.cell (i := 0) rfl
        have g1 := fun z : Wd (fun W => Rw w W ps qs p (some ⟨b2, o2, none⟩) b (some ⟨b1, o1, none⟩) a2 a3 c e c1 c2 c3 gp gq q ⟨b1, o1 + k * 2, none⟩ ⟨b1, o1 + k * 2 + 1, none⟩ ⟨b2, o2 + k * 2, none⟩ ⟨b2, o2 + k * 2 + 1, none⟩ v1 q1 v2 q2) => z.ok.n1
        have g2 := fun z : Wd (fun W => Rw w W ps qs p (some ⟨b2, o2, none⟩) b (some ⟨b1, o1, none⟩) a2 a3 c e c1 c2 c3 gp gq q ⟨b1, o1 + k * 2, none⟩ ⟨b1, o1 + k * 2 + 1, none⟩ ⟨b2, o2 + k * 2, none⟩ ⟨b2, o2 + k * 2 + 1, none⟩ v1 q1 v2 q2) => z.ok.x1
        have g3 := fun z : Wd (fun W => Rw w W ps qs p (some ⟨b2, o2, none⟩) b (some ⟨b1, o1, none⟩) a2 a3 c e c1 c2 c3 gp gq q ⟨b1, o1 + k * 2, none⟩ ⟨b1, o1 + k * 2 + 1, none⟩ ⟨b2, o2 + k * 2, none⟩ ⟨b2, o2 + k * 2 + 1, none⟩ v1 q1 v2 q2) => z.ok.n2
        have g4 := fun z : Wd (fun W => Rw w W ps qs p (some ⟨b2, o2, none⟩) b (some ⟨b1, o1, none⟩) a2 a3 c e c1 c2 c3 gp gq q ⟨b1, o1 + k * 2, none⟩ ⟨b1, o1 + k * 2 + 1, none⟩ ⟨b2, o2 + k * 2, none⟩ ⟨b2, o2 + k * 2 + 1, none⟩ v1 q1 v2 q2) => z.ok.x2
        refine wp_region_class (fun W => Rw w W ps qs p (some ⟨b2, o2, none⟩) b (some ⟨b1, o1, none⟩) a2 a3 c e c1 c2 c3 gp gq q ⟨b1, o1 + k * 2, none⟩ ⟨b1, o1 + k * 2 + 1, none⟩ ⟨b2, o2 + k * 2, none⟩ ⟨b2, o2 + k * 2 + 1, none⟩ v1 q1 v2 q2) HG (by kernel_rfl) (by kernel_rfl) ?_
        intro hne
        clear HG l0 y1 y2 y3 y4
        have HK : Hid (∀ W W', Rw w W ps qs p (some ⟨b2, o2, none⟩) b (some ⟨b1, o1, none⟩) a2 a3 c e c1 c2 c3 gp gq q ⟨b1, o1 + k * 2, none⟩ ⟨b1, o1 + k * 2 + 1, none⟩ ⟨b2, o2 + k * 2, none⟩ ⟨b2, o2 + k * 2 + 1, none⟩ v1 q1 v2 q2 → Below W.heap.size W W' → Rw w W' ps qs p (some ⟨b2, o2, none⟩) b (some ⟨b1, o1, none⟩) a2 a3 c e c1 c2 c3 gp gq q ⟨b1, o1 + k * 2, none⟩ ⟨b1, o1 + k * 2 + 1, none⟩ ⟨b2, o2 + k * 2, none⟩ ⟨b2, o2 + k * 2 + 1, none⟩ v1 q1 v2 q2) := Lib.hid (fun W W' h hb => h.keep hb)
        have K3 := Lib.hid (fun z : Wd (fun W => Rw w W ps qs p (some ⟨b2, o2, none⟩) b (some ⟨b1, o1, none⟩) a2 a3 c e c1 c2 c3 gp gq q ⟨b1, o1 + k * 2, none⟩ ⟨b1, o1 + k * 2 + 1, none⟩ ⟨b2, o2 + k * 2, none⟩ ⟨b2, o2 + k * 2 + 1, none⟩ v1 q1 v2 q2) => H3.out _ _ z.W z.ok.hv1)
        have K4 := Lib.hid (fun z : Wd (fun W => Rw w W ps qs p (some ⟨b2, o2, none⟩) b (some ⟨b1, o1, none⟩) a2 a3 c e c1 c2 c3 gp gq q ⟨b1, o1 + k * 2, none⟩ ⟨b1, o1 + k * 2 + 1, none⟩ ⟨b2, o2 + k * 2, none⟩ ⟨b2, o2 + k * 2 + 1, none⟩ v1 q1 v2 q2) => H4.out _ _ z.W z.ok.hv2)
        repeat (first
          | go_big_quiet_step (fail)
          | go_big_quiet_step (exact wd_call HK.out (K3.out _))
          | go_big_quiet_step (exact wd_call HK.out (K4.out _)))
        refine wpQuiet_nil ?_
        rintro _ ⟨z, rfl⟩
        have HZ := Lib.hid z.ok.t
        clear g0 g1 g2 g3 g4 hne
        go_wp2_with fail
        go_roundw
        case rel => exact ⟨k + 1, by omega, by go_num, HZ⟩
        case measure => simp [intOf]; omega
      · obtain rfl : k = ps.length := by omega
        go_wp2_with (go_at_call 7; with_reducible refine (HA.out _ K.out.z.tab).mono ?_; rintro r w7 ⟨rfl, hb⟩; have B7 := Lib.hid (K.out.z.bl.call hb); clear hb)
        go_ret
        exact ⟨rfl, B7.out.below⟩
end Go.Proofs.YtndbgdapojkfaaaGreatDoor.Par
