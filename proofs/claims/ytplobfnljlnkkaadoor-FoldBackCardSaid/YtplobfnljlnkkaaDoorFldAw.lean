/- The walk of awake. -/
import Derived.Test.YtplobfnljlnkkaaDoorFldProU
import Derived.Test.YtplobfnljlnkkaaDoorFldProF
import Derived.Test.YtplobfnljlnkkaaDoorFltPla
import Derived.Test.YtplobfnljlnkkaaDoorCls
import Derived.Deep.RegionHeld3
set_option linter.unusedVariables false
namespace Go.Proofs.YtplobfnljlnkkaaDoor.Fld
open Go.RowKit Go.Deep Go.Proofs.YtplobfnljlnkkaaDoor.Byt Go.Proofs.YtplobfnljlnkkaaDoor.Utf Go.Proofs.YtplobfnljlnkkaaDoor.Tre

def tA : List UInt8 := [97, 98, 13, 10, 32, 99, 10, 100, 13, 10]
def lA : PL := ⟨[97, 98, 99], [(0, 0), (2, 5)]⟩
def lB : PL := ⟨[100], [(0, 7)]⟩
theorem aw_unf : unfR tA = ([lA, lB], 0, 0) := by
  unfold unfR
  rw [if_neg (by decide), unf_new (by decide) (by decide) (by decide), show rowN tA 0 = 4 by decide, unf_on (by decide) (by decide) (by decide) (by decide), show rowN tA 4 = 7 by decide, unf_new (by decide) (by decide) (by decide), show rowN tA 7 = 10 by decide, unf_end (by decide)]
  rfl
def tB : List UInt8 := [97, 98, 13, 99]
theorem aw_bad : unfR tB = ([], 4, 2) := by
  unfold unfR
  rw [if_neg (by decide), unf_bad (by decide) (.inl (by decide)) (by decide)]
  rfl
theorem aw_p2 : plcA lA 2 = 5 := by
  unfold plcA plcR
  show wrap64 (plc ([(0, 0)] ++ [(2, 5)]) (max 0 (min 3 2))) = 5
  rw [show max (0 : Int) (min 3 2) = 2 by decide, plc_snoc, if_pos (by decide)]
  unfold wrap64
  decide
theorem aw_p0 : plcA lB 0 = 7 := by
  unfold plcA plcR
  show wrap64 (plc ([] ++ [(0, 7)]) (max 0 (min 1 0))) = 7
  rw [show max (0 : Int) (min 1 0) = 0 by decide, plc_snoc, if_pos (by decide)]
  unfold wrap64
  decide
theorem cut_ascii : ∀ (l : List UInt8), (∀ b ∈ l, b.toNat < 128) → ∀ n : Nat, cutN n l = min n l.length := by
  intro l
  induction l with
  | nil => intro _ n; rw [cutN_nil]; simp
  | cons b t ih =>
    intro h n
    have h1 : wd (b :: t) = 1 := by
      have hb : at_ (b :: t) 0 < 128 := h b (by simp)
      unfold wd Sz szN
      rw [if_pos hb]
      rfl
    rcases Nat.eq_zero_or_pos n with h0 | h0
    · subst h0
      rw [cutN_stop (by simp) (by rw [h1]; omega)]
      simp
    · rw [cutN_on (by simp) (by rw [h1]; omega), h1]
      show 1 + cutN ((n : Int) - (1 : Nat)) t = _
      rw [show (n : Int) - (1 : Nat) = ((n - 1 : Nat) : Int) by omega, ih (fun x hx => h x (by simp [hx])) (n - 1), List.length_cons]
      omega
theorem fold_ascii {l : List UInt8} (h : ∀ b ∈ l, b.toNat < 128) (h1 : 75 < l.length) (h2 : l.length ≤ 149) : foldL l = l.take 75 ++ [13, 10, 32] ++ l.drop 75 ++ [13, 10] := by
  unfold foldL
  have e1 : cutN 75 l = 75 := by
    have := cut_ascii l h 75
    rw [Nat.min_eq_left (by omega)] at this
    exact this
  have hd : l.drop 75 ≠ [] := by
    intro e
    have := congrArg List.length e
    rw [List.length_drop] at this
    simp at this
    omega
  have e2 : cutN 74 (l.drop 75) = (l.drop 75).length := cutN_all _ _ (by rw [List.length_drop]; omega)
  rw [e1, foldR_on hd, e2, List.take_length, List.drop_length, foldR_nil]
  simp
def tL : List UInt8 := (List.replicate 10 [48, 49, 50, 51, 52, 53, 54, 55, 56, 57]).flatten
theorem aw_join : joinL (lists [⟨#[97]⟩, ⟨#[98]⟩]) = [97, 13, 10, 98, 13, 10] := by
  have e1 : foldL [97] = [97, 13, 10] := by
    unfold foldL
    rw [show cutN 75 [97] = 1 from cutN_all _ _ (by decide)]
    show [97] ++ 13 :: 10 :: foldR [] = _
    rw [foldR_nil]; rfl
  have e2 : foldL [98] = [98, 13, 10] := by
    unfold foldL
    rw [show cutN 75 [98] = 1 from cutN_all _ _ (by decide)]
    show [98] ++ 13 :: 10 :: foldR [] = _
    rw [foldR_nil]; rfl
  show (List.map foldL [[97], [98]]).flatten = _
  rw [List.map_cons, List.map_cons, List.map_nil, e1, e2]
  rfl
theorem aw_u1 (w : World) : Calls Tryd.prog 9 #[.string ⟨#[97, 98, 13, 10, 32, 99, 10, 100, 13, 10]⟩] w fun r w' => ∃ a c, r = .returned (.tuple #[.slice a 2 c, .nilIface]) ∧ Rd w' (lsD 46 61 [lA, lB]) (.slice a [lA, lB].length c) ∧ Below w.heap.size w w' := by
  refine (unf_any ⟨tA.toArray⟩ (by decide) w).mono ?_
  rintro r w' ⟨v, ev, rfl, h1, h2, h3⟩
  rw [show (ByteArray.mk tA.toArray).data.toList = tA from rfl, aw_unf] at h1 h2
  obtain ⟨a, c, rfl, _⟩ := lines_at h1
  have : ev = .nilIface := by
    rcases (show Flt.Er w' 0 ev [] from h2) with _ | ⟨b, l, h⟩
    · rfl
    · cases h
  subst this
  exact ⟨a, c, rfl, h1, h3⟩
theorem aw_u2 (w : World) : Calls Tryd.prog 9 #[.string ⟨#[97, 98, 13, 99]⟩] w fun r w' => ∃ a c b, r = .returned (.tuple #[.slice a 0 c, Flt.FV b]) ∧ Flt.Er w' 4 (Flt.FV b) [2] ∧ Below w.heap.size w w' := by
  refine (unf_any ⟨tB.toArray⟩ (by decide) w).mono ?_
  rintro r w' ⟨v, ev, rfl, h1, h2, h3⟩
  rw [show (ByteArray.mk tB.toArray).data.toList = tB from rfl, aw_bad] at h1 h2
  obtain ⟨a, c, rfl, _⟩ := lines_at h1
  have h2' : Flt.Er w' 4 ev [2] := h2
  obtain ⟨b, rfl⟩ : ∃ b, ev = Flt.FV b := by
    cases h2' with
    | some b l h => exact ⟨b, rfl⟩
  exact ⟨a, c, b, rfl, h2', h3⟩
/-- What awake holds while it tells: its lines, and its error. -/
structure Ak (w W : World) (b off : Nat) (p0 p1 : Option Addr) (c0 c1 : Nat) (e : Nat) : Prop where
  bl : Bl w W
  q0 : W.cell? ⟨b, off, none⟩ = some (.string ⟨#[97, 98, 99]⟩)
  q1 : W.cell? ⟨b, off + 1, none⟩ = some (.slice p0 2 c0)
  q2 : W.cell? ⟨b, off + 2, none⟩ = some (.string ⟨#[100]⟩)
  q3 : W.cell? ⟨b, off + 2 + 1, none⟩ = some (.slice p1 1 c1)
  r0 : Rd W (pD 61 lA.ps) (.slice p0 lA.ps.length c0)
  r1 : Rd W (pD 61 lB.ps) (.slice p1 lB.ps.length c1)
  er : Flt.Er W 4 (Flt.FV e) [2]
  tab : Flt.ETab W
theorem Ak.call {w W W' : World} {b off : Nat} {p0 p1 : Option Addr} {c0 c1 e : Nat} (h : Ak w W b off p0 p1 c0 c1 e) (hb : Below W.heap.size W W') : Ak w W' b off p0 p1 c0 c1 e := by
  have l0 := Byt.cell_lt h.q0
  exact ⟨h.bl.call hb, (hb.cell (p := ⟨b, off, none⟩) l0).trans h.q0, (hb.cell (p := ⟨b, off + 1, none⟩) l0).trans h.q1, (hb.cell (p := ⟨b, off + 2, none⟩) l0).trans h.q2, (hb.cell (p := ⟨b, off + 2 + 1, none⟩) l0).trans h.q3, h.r0.call hb, h.r1.call hb, h.er.call hb, h.tab.call hb⟩
theorem aw_pl1 (W : World) (p : Option Addr) (c : Nat) (h : Rd W (pD 61 lA.ps) (.slice p lA.ps.length c)) : Calls Tryd.prog 19 #[.agg #[.string ⟨#[97, 98, 99]⟩, .slice p 2 c], .int .i64 2] W fun r w' => r = .returned (.int .i64 5) ∧ Below W.heap.size W w' := by
  have := place_any lA (by decide) (by decide) p c 2 (by decide) (by decide) (by decide) W h
  rwa [aw_p2] at this
theorem aw_pl2 (W : World) (p : Option Addr) (c : Nat) (h : Rd W (pD 61 lB.ps) (.slice p lB.ps.length c)) : Calls Tryd.prog 19 #[.agg #[.string ⟨#[100]⟩, .slice p 1 c], .int .i64 0] W fun r w' => r = .returned (.int .i64 7) ∧ Below W.heap.size W w' := by
  have := place_any lB (by decide) (by decide) p c 0 (by decide) (by decide) (by decide) W h
  rwa [aw_p0] at this
theorem aw_code (W : World) (e : Nat) (hT : Flt.ETab W) (h : Flt.Er W 4 (Flt.FV e) [2]) : Calls Tryd.prog 13 #[Flt.FV e] W fun r w' => r = .returned (.int .i64 4) ∧ Below W.heap.size W w' := Flt.code_any 4 (Flt.FV e) [2] W hT h
theorem aw_at (W : World) (e : Nat) (hT : Flt.ETab W) (h : Flt.Er W 4 (Flt.FV e) [2]) : Calls Tryd.prog 14 #[Flt.FV e] W fun r w' => r = .returned (.int .i64 2) ∧ Below W.heap.size W w' := Flt.place_any 4 (Flt.FV e) [2] W hT h ⟨by decide, by decide⟩
theorem aw_jn (W : World) : Calls Tryd.prog 17 #[.slice (some ⟨W.heap.size, 0, none⟩) 2 2] (W.alloc (.cells #[.string ⟨#[97]⟩, .string ⟨#[98]⟩] 9)) fun r w' => r = .returned (.string ⟨#[97, 13, 10, 98, 13, 10]⟩) ∧ Below W.heap.size W w' := by
  have hr : Rd (W.alloc (.cells #[.string ⟨#[97]⟩, .string ⟨#[98]⟩] 9)) (txD [⟨#[97]⟩, ⟨#[98]⟩]) (.slice (some ⟨W.heap.size, 0, none⟩) 2 2) := by
    have := own_new (w := W) (B := W.heap.size) (e := 9) (k := 1) (n := 2) (ones W W.heap.size [.string ⟨#[97]⟩, .string ⟨#[98]⟩]) rfl (Nat.le_refl _) (by omega)
    exact this.rd
  refine (join_any [⟨#[97]⟩, ⟨#[98]⟩] (by decide) (by decide) _ 2 _ hr).mono ?_
  rintro r w' ⟨rfl, hb⟩
  rw [aw_join]
  exact ⟨rfl, ((Bl.refl W).alloc _).call hb |>.below⟩
/-- The long text, folded. -/
theorem aw_fold (x : ByteArray) (hx : x.data.toList = tL) (W : World) : Calls Tryd.prog 15 #[.string x] W fun r w' => r = .returned (.string (x.extract 0 75 ++ ⟨#[13, 10, 32]⟩ ++ x.extract 75 x.size ++ ⟨#[13, 10]⟩)) ∧ Below W.heap.size W w' := by
  have hs : x.size = 100 := by rw [← len_list, hx]; rfl
  refine (fold_any x (by omega) W).mono ?_
  rintro r w' ⟨rfl, hb⟩
  refine ⟨?_, hb⟩
  congr 2
  rw [hx, fold_ascii (by decide) (by decide) (by decide), ← hx]
  rw [← mk_app, ← mk_app, ← mk_app]
  congr 1
  congr 1
  · congr 1
    have : (x.extract 0 75).data.toList = x.data.toList.take 75 := by simp
    rw [← this, mk_list]
  · rw [← Fld.tail_list, mk_list]
set_option maxRecDepth 100000 in
set_option maxHeartbeats 2000000 in
theorem awake_any (w : World) (hT : Flt.ETab w) : Calls Tryd.prog 8 #[] w fun r w' => r = .returned (.bool true) ∧ Below w.heap.size w w' := by
  have HT := Lib.hid hT
  clear hT
  have H1 := Lib.hid (fun W => aw_u1 W)
  have H2 := Lib.hid (fun W => aw_u2 W)
  unfold Flt.FV at H2
  go_enter Tryd.func8, Tryd.ntmps8
  go_wp2_with (first
    | (go_at_call 9; with_reducible refine (H1.out _).mono ?_; rintro r w1 ⟨a, c, rfl, hr, hb⟩; have R1 := Lib.hid hr; have B1 := Lib.hid ((Bl.refl w).call hb); clear hr hb)
    | (go_at_call 9; with_reducible refine (H2.out _).mono ?_; rintro r w2 ⟨a2, c2, e2, rfl, hr, hb⟩; have E2 := Lib.hid hr; have R2 := Lib.hid (R1.out.call hb); have B2 := Lib.hid (B1.out.call hb); clear hr hb))
  have hA : ∃ b off p0 c0 p1 c1, a = some ⟨b, off, none⟩ ∧ Ak w w2.drew b off p0 p1 c0 c1 e2 := by
    have hr := R2.out
    obtain ⟨b, off, e0, q0, p0, c0, q1, r0⟩ := line_at hr (i := 0) (by decide)
    obtain ⟨b', off', e1, q2, p1, c1, q3, r1⟩ := line_at hr (i := 1) (by decide)
    rw [e0] at e1
    injection e1 with e1
    injection e1 with e1 e2' e3'
    subst e1 e2'
    have hk : Ak w w2 b off p0 p1 c0 c1 e2 := ⟨B2.out, q0, q1, q2, q3, r0, r1, E2.out, HT.out.call B2.out.below⟩
    exact ⟨b, off, p0, c0, p1, c1, e0, hk.call (Below.refl _ _).drew⟩
  obtain ⟨b, off, p0, c0, p1, c1, rfl, hk⟩ := hA
  have K0 := Lib.hid hk
  have q0 := hk.q0
  have q1 := hk.q1
  have q2 := hk.q2
  have q3 := hk.q3
  clear R1 R2 B1 B2 E2 H1 H2 hk
  have HP1 := Lib.hid (fun W p c h => aw_pl1 W p c h)
  have HP2 := Lib.hid (fun W p c h => aw_pl2 W p c h)
  have HC := Lib.hid (fun W (h : Ak w W b off p0 p1 c0 c1 e2) => aw_code W e2 h.tab h.er)
  have HF := Lib.hid (fun W (h : Ak w W b off p0 p1 c0 c1 e2) => aw_at W e2 h.tab h.er)
  have HJ := Lib.hid (fun W => aw_jn W)
  unfold Flt.FV at HC HF
  simp only [List.append_eq, List.cons_append, List.nil_append]
  have hx : ∃ x : ByteArray, x = ⟨#[48, 49, 50, 51, 52, 53, 54, 55, 56, 57, 48, 49, 50, 51, 52, 53, 54, 55, 56, 57, 48, 49, 50, 51, 52, 53, 54, 55, 56, 57, 48, 49, 50, 51, 52, 53, 54, 55, 56, 57, 48, 49, 50, 51, 52, 53, 54, 55, 56, 57, 48, 49, 50, 51, 52, 53, 54, 55, 56, 57, 48, 49, 50, 51, 52, 53, 54, 55, 56, 57, 48, 49, 50, 51, 52, 53, 54, 55, 56, 57, 48, 49, 50, 51, 52, 53, 54, 55, 56, 57, 48, 49, 50, 51, 52, 53, 54, 55, 56, 57]⟩ := ⟨_, rfl⟩
  obtain ⟨x, hx⟩ := hx
  rw [← hx]
  have HL := Lib.hid (fun W => aw_fold x (by rw [hx]; rfl) W)
  have hs : x.size = 100 := by rw [hx]; rfl
  clear hx
  go_region_held3 (fun W => W.cell? ⟨b, off, none⟩ = some (.string ⟨#[97, 98, 99]⟩) ∧ W.cell? ⟨b, off + 1, none⟩ = some (.slice p0 2 c0) ∧ W.cell? ⟨b, off + 2, none⟩ = some (.string ⟨#[100]⟩) ∧ W.cell? ⟨b, off + 2 + 1, none⟩ = some (.slice p1 1 c1)) (go_keep)
    (first
      | (go_at_call 19; with_reducible refine (HP1.out _ _ _ K0.out.r0).mono ?_; rintro r w3 ⟨rfl, hb⟩; have K1 := Lib.hid (K0.out.call hb); clear hb; have z0 := K1.out.q0; have z1 := K1.out.q1; have z2 := K1.out.q2; have z3 := K1.out.q3)
      | (go_at_call 19; with_reducible refine (HP2.out _ _ _ K1.out.r1).mono ?_; rintro r w4 ⟨rfl, hb⟩; have K2 := Lib.hid (K1.out.call hb); clear hb; have z0 := K2.out.q0; have z1 := K2.out.q1; have z2 := K2.out.q2; have z3 := K2.out.q3)
      | (go_at_call 13; with_reducible refine (HC.out _ K2.out).mono ?_; rintro r w5 ⟨rfl, hb⟩; have K3 := Lib.hid (K2.out.call hb); clear hb; have z0 := K3.out.q0; have z1 := K3.out.q1; have z2 := K3.out.q2; have z3 := K3.out.q3)
      | (go_at_call 14; with_reducible refine (HF.out _ K3.out).mono ?_; rintro r w6 ⟨rfl, hb⟩; have K4 := Lib.hid (K3.out.call hb); clear hb; have z0 := K4.out.q0; have z1 := K4.out.q1; have z2 := K4.out.q2; have z3 := K4.out.q3)
      | (go_at_call 15; with_reducible refine (HL.out _).mono ?_; rintro r w7 ⟨rfl, hb⟩; have K5 := Lib.hid (K4.out.call hb); clear hb; have z0 := K5.out.q0; have z1 := K5.out.q1; have z2 := K5.out.q2; have z3 := K5.out.q3)
      | (go_at_call 17; with_reducible refine (HJ.out _).mono ?_; rintro r w8 ⟨rfl, hb⟩; have K6 := Lib.hid (K5.out.call hb); clear hb; have z0 := K6.out.q0; have z1 := K6.out.q1; have z2 := K6.out.q2; have z3 := K6.out.q3))
  all_goals
    go_wp2_with fail
    go_ret
    exact ⟨rfl, K6.out.bl.below⟩
end Go.Proofs.YtplobfnljlnkkaaDoor.Fld
