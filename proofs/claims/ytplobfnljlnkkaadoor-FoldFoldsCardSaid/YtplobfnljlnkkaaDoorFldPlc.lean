/- Contract of package fold's Place: slices.Backward over a line's pieces, and the last piece that does not begin behind a place. -/
import Derived.RangeFuncNested
import Derived.RangeFuncBound
import Derived.RangeFuncCalls
import Derived.RangeFuncLeaves
import Derived.Shelf.Abstract
import Derived.Shelf.RegionOpen
import Derived.WalkKit
import Derived.OwnWalkIn
import Derived.TacticsInMore
import Derived.LoopNIn
import Derived.LoopIn
import Derived.Lib.MinMax
import Derived.Test.YtplobfnljlnkkaaDoorFldRefF
set_option linter.unusedVariables false
namespace Go.Proofs.YtplobfnljlnkkaaDoor.Fld
open Go.RowKit Go.Shelf Go.Proofs.YtplobfnljlnkkaaDoor.Byt Go.Proofs.YtplobfnljlnkkaaDoor.Utf Go.Proofs.YtplobfnljlnkkaaDoor.Tre
attribute [local go_sem] Oper.semAt_some

/-- What has come when k rounds of the loop that goes down over the pieces are over. -/
def bwU (ps : List (Int × Int)) (k : Nat) : List (Int × Int × Int) := (List.range k).map fun j : Nat => ((ps.length : Int) - 1 - j, ps.reverse[j]?.getD (0, 0))
theorem bwU_succ (ps : List (Int × Int)) (k : Nat) : bwU ps (k + 1) = bwU ps k ++ [((ps.length : Int) - 1 - k, ps.reverse[k]?.getD (0, 0))] := by simp [bwU, List.range_succ]
theorem bwU_length (ps : List (Int × Int)) (k : Nat) : (bwU ps k).length = k := by simp [bwU]
theorem bwU_snd (ps : List (Int × Int)) {k : Nat} (hk : k ≤ ps.length) : (bwU ps k).map (·.2) = ps.reverse.take k := by
  apply List.ext_getElem
  · simp [bwU]; omega
  · intro i h1 h2
    have hi : i < ps.length := by simp [bwU] at h1; omega
    simp [bwU, hi]
theorem plc_none {ps : List (Int × Int)} {z : Int} (h : ∀ p ∈ ps, ¬ p.1 ≤ z) : plc ps z = 0 := by
  have : ps.reverse.find? (fun p => decide (p.1 ≤ z)) = none := List.find?_eq_none.2 fun p hp => by
    have := h p (List.mem_reverse.1 hp)
    simpa using this
  unfold plc
  rw [this]
theorem plc_some {ps q r : List (Int × Int)} {x : Int × Int} {z : Int} (e : ps.reverse = q ++ x :: r) (h : ∀ p ∈ q, ¬ p.1 ≤ z) (hx : x.1 ≤ z) : plc ps z = x.2 + (z - x.1) := by
  have : ps.reverse.find? (fun p => decide (p.1 ≤ z)) = some x := by
    rw [e, List.find?_append]
    have h0 : q.find? (fun p => decide (p.1 ≤ z)) = none := List.find?_eq_none.2 fun p hp => by simpa using h p hp
    rw [h0, List.find?_cons, decide_eq_true hx]
    rfl
  unfold plc
  rw [this]
theorem bw_any (a : Option Addr) (n c : Nat) (w : World) : Calls Tryd.prog 34 #[.slice a n c] w fun r w' =>
    r = .returned (.func (.func 45) #[] #[.pointer (some ⟨w.heap.size, 0, none⟩)]) ∧ w' = w.alloc (.cells #[.slice a n c] 44) := by
  go_enter Tryd.func34, Tryd.ntmps34
  go_wp2
  go_ret
  exact ⟨rfl, rfl⟩
set_option maxRecDepth 100000 in
set_option maxHeartbeats 1000000 in
/-- The iterator's body. -/
theorem bw1_in (l Bs : Nat) (ps : List (Int × Int)) (hlen : ps.length ≤ 10000) (a : Option Addr) (c : Nat) (w0 : World) (hR : Rd w0 (pD 61 ps) (.slice a ps.length c)) (hs : w0.cell? ⟨Bs, 0, none⟩ = some (.slice a ps.length c))
    (N : Nat) (hN : 1 ≤ N) (J Jx : List (Int × Int × Int) → World → Prop)
    (hY : ∀ pre x W, J pre W → pre.length < ps.length → YieldAt Fence.wide (N - 1) Tryd.prog l #[.int .i64 x.1, .agg #[.int .i64 x.2.1, .int .i64 x.2.2]] W fun e W' =>
      (e = .returned (.bool true) ∧ J (pre ++ [x]) W' ∧ Below w0.heap.size W W') ∨ (e = .returned (.bool false) ∧ Jx (pre ++ [x]) W'))
    (W : World) (hB : Below w0.heap.size w0 W) (h0 : J [] W) :
    CallsIn Fence.wide N Tryd.prog 45 #[.func (.yield l) #[] #[], .pointer (some ⟨Bs, 0, none⟩)] W fun e W' => (∃ v, e = .returned v) ∧
      ((∃ ys, ys = bwU ps ps.length ∧ J ys W') ∨ (∃ pre, (∃ k, k ≤ ps.length ∧ pre = bwU ps k) ∧ Jx pre W')) := by
  have HR := Lib.hid hR
  have hlt := Byt.cell_lt hs
  have HS := Lib.hid (fun W (hb : Below w0.heap.size w0 W) => (hb.cell (p := ⟨Bs, 0, none⟩) hlt).trans hs)
  have HY := Lib.hid hY
  have H0 := Lib.hid h0
  have hs1 := HS.out W hB
  have HB := Lib.hid hB
  clear hR hs hY h0 hB hlt
  refine callsIn_of_wp Tryd.func45 rfl trivial ?_ rfl
  simp only [Tryd.ntmps45, List.size_toArray, List.length_cons, List.length_nil, Nat.reduceAdd, Nat.reduceSub, Array.replicate_succ, Array.replicate_zero, List.push_toArray, List.append_toArray, List.nil_append, List.cons_append]
  gi_wp2
  gi_loopw [3] (fun i wr => ∃ k : Nat, k ≤ ps.length ∧ i = .int .i64 ((ps.length : Int) - 1 - k) ∧ Hid (J (bwU ps k) wr) ∧ Hid (Below w0.heap.size w0 wr)) (fun i _ => (intOf i + 1).toNat)
  case atStart => exact ⟨0, Nat.zero_le _, by simp, H0, HB⟩
  case round =>
    obtain ⟨k, hk, rfl, hJ, hb⟩ := hrel
    have hsr := HS.out wr hb.out
    by_cases hlt : k < ps.length
    · obtain ⟨m, hm, ek⟩ : ∃ m : Nat, m < ps.length ∧ (ps.length : Int) - 1 - k = m := ⟨ps.length - 1 - k, by omega, by omega⟩
      have hx : ps.reverse[k]?.getD (0, 0) = ps[m] := by
        rw [List.getElem?_eq_getElem (by simpa using hlt), List.getElem_reverse]
        simp only [Option.getD_some]
        congr 1
        omega
      have HU := Lib.hid (bwU_succ ps k)
      rw [ek, hx] at HU
      rw [ek]
      have hm' : (m : Int) < ps.length := by omega
      have hm0 : (0 : Int) ≤ m := by omega
      obtain ⟨b, off, rfl, c0, c1⟩ := piece_at (HR.out.call hb.out) hm
      obtain ⟨fn, tmps, assign, body, hy, hR⟩ := HY.out (bwU ps k) ((m : Int), ps[m]) wr hJ.out (by rw [bwU_length]; exact hlt)
      dsimp only at hy
      have HR2 := Lib.hid hR
      clear hR hx
      generalize ps[m] = x at *
      gi_wp2
      refine HR2.out.mono ?_
      rintro e W3 (⟨rfl, hJ3, hk3⟩ | ⟨rfl, hJx3⟩)
      · have HJ3 := Lib.hid hJ3
        have HB3 := Lib.hid (hb.out.trans hk3)
        clear hJ3 hk3
        gi_wp2
        go_roundw
        case rel => exact ⟨k + 1, by omega, by simp; omega, by rw [HU.out]; exact HJ3, HB3⟩
        case measure => simp [intOf]; try omega
      · have HJ3 := Lib.hid hJx3
        clear hJx3
        gi_wp2
        refine bodyPost_ret (results_none rfl _ _ _) rfl ?_
        exact ⟨⟨_, rfl⟩, .inr ⟨_, ⟨k + 1, by omega, rfl⟩, by rw [HU.out]; exact HJ3.out⟩⟩
    · obtain rfl : k = ps.length := by omega
      gi_wp2
      go_end0
      exact ⟨⟨_, rfl⟩, .inl ⟨_, rfl, hJ.out⟩⟩
theorem bw_stops (Bs : Nat) (ps : List (Int × Int)) (hlen : ps.length ≤ 10000) (a : Option Addr) (c : Nat) (w0 : World) (hR : Rd w0 (pD 61 ps) (.slice a ps.length c)) (hs : w0.cell? ⟨Bs, 0, none⟩ = some (.slice a ps.length c)) (N : Nat) (hN : 1 ≤ N) :
    SeqStopsK Fence.wide N Tryd.prog 45 #[.pointer (some ⟨Bs, 0, none⟩)] (fun x : Int × Int × Int => #[Value.int .i64 x.1, .agg #[.int .i64 x.2.1, .int .i64 x.2.2]]) (Below w0.heap.size)
      (fun ys => ys = bwU ps ps.length) (fun pre => ∃ k, k ≤ ps.length ∧ pre = bwU ps k) ps.length w0 := fun l J Jx W hW _ _ hY h0 =>
  bw1_in l Bs ps hlen a c w0 hR hs N hN J Jx hY W hW h0

theorem wrap_mid (a b c : Int) : wrap64 (wrap64 (a + b) - c) = wrap64 (a + (b - c)) := by
  unfold wrap64
  omega
/-- What a round that returns stores. -/
def plV (z : Int) (pre : List (Int × Int × Int)) : Int := match pre.getLast? with | some x => wrap64 (wrap64 (x.2.2 + z) - x.2.1) | none => 0
theorem plV_snoc (z : Int) (q : List (Int × Int × Int)) (x : Int × Int × Int) : plV z (q ++ [x]) = wrap64 (wrap64 (x.2.2 + z) - x.2.1) := by
  unfold plV
  simp
/-- No piece that has come begins at the place or ahead of it; the last one does. -/
def Non (z : Int) (pre : List (Int × Int × Int)) : Prop := ∀ x ∈ pre, ¬ x.2.1 ≤ z
def Fnd (z : Int) (pre : List (Int × Int × Int)) : Prop := ∃ q x, pre = q ++ [x] ∧ Non z q ∧ x.2.1 ≤ z
theorem Non.snoc {z : Int} {pre : List (Int × Int × Int)} {x : Int × Int × Int} (h : Non z pre) (hx : ¬ x.2.1 ≤ z) : Non z (pre ++ [x]) := fun y hy => (List.mem_append.1 hy).elim (h y) (fun e => (show y = x by simpa using e) ▸ hx)
theorem Non.fnd {z : Int} {pre : List (Int × Int × Int)} {x : Int × Int × Int} (h : Non z pre) (hx : x.2.1 ≤ z) : Fnd z (pre ++ [x]) := ⟨pre, x, rfl, h, hx⟩
theorem Non.plc {z : Int} {ps : List (Int × Int)} (h : Non z (bwU ps ps.length)) : plc ps z = 0 := plc_none fun p hp => by
  have h1 := bwU_snd ps (Nat.le_refl _)
  rw [List.take_of_length_le (by simp)] at h1
  have : p ∈ (bwU ps ps.length).map (·.2) := by rw [h1]; exact List.mem_reverse.2 hp
  obtain ⟨x, hx, rfl⟩ := List.mem_map.1 this
  exact h x hx
theorem Fnd.plc {z : Int} {ps : List (Int × Int)} {k : Nat} (hk : k ≤ ps.length) (h : Fnd z (bwU ps k)) : plV z (bwU ps k) = wrap64 (plc ps z) := by
  obtain ⟨q, x, hq, hqn, hx⟩ := h
  have h1 := bwU_snd ps hk
  rw [hq, List.map_append, List.map_singleton] at h1
  have h2 : ps.reverse = q.map (·.2) ++ x.2 :: ps.reverse.drop k := by
    rw [← List.singleton_append, ← List.append_assoc, h1, List.take_append_drop]
  rw [plc_some h2 (fun p hp => by obtain ⟨y, hy, rfl⟩ := List.mem_map.1 hp; exact hqn y hy) hx, ← wrap_mid, hq, plV_snoc]
set_option maxRecDepth 100000 in
set_option maxHeartbeats 4000000 in
theorem place_any (l : PL) (ht : l.t.length ≤ 10000) (hp : l.ps.length ≤ 10000) (a : Option Addr) (c : Nat) (i : Int) (i0 : -9223372036854775808 ≤ i) (i1 : i ≤ 9223372036854775807) (hin : ∀ p ∈ l.ps, (-9223372036854775808 ≤ p.1 ∧ p.1 ≤ 9223372036854775807) ∧ -9223372036854775808 ≤ p.2 ∧ p.2 ≤ 9223372036854775807) (w : World) (hr : Rd w (pD 61 l.ps) (.slice a l.ps.length c)) :
    Calls Tryd.prog 19 #[.agg #[.string ⟨l.t.toArray⟩, .slice a l.ps.length c], .int .i64 i] w fun r w' => r = .returned (.int .i64 (plcA l i)) ∧ Below w.heap.size w w' := by
  have HR := Lib.hid hr
  have hsz : (ByteArray.mk l.t.toArray).size = l.t.length := size_mk l.t
  unfold plcA plcR
  rw [← hsz]
  have htx : (ByteArray.mk l.t.toArray).size ≤ 10000 := by omega
  clear hr hin hsz
  generalize ByteArray.mk l.t.toArray = tx at *
  generalize l.ps = ps at *
  have HZ : ∃ z : Int, max 0 (min (tx.size : Int) i) = z ∧ min (max i 0) (tx.size : Int) = z ∧ 0 ≤ z ∧ z ≤ tx.size := ⟨_, rfl, by omega, by omega, by omega⟩
  obtain ⟨z, hz, hz2, z0, z1⟩ := HZ
  rw [hz]
  clear hz
  have fB : Fence.wide.fn 34 := trivial
  refine (callsIn_wide (n := 3)).1 ?_
  refine callsIn_of_wp_marks Tryd.func19 rfl trivial ?_ rfl
  simp only [Tryd.ntmps19, List.size_toArray, List.length_cons, List.length_nil, Nat.reduceAdd, Nat.reduceSub, Array.replicate_succ, Array.replicate_zero, List.push_toArray, List.append_toArray, List.nil_append, List.cons_append]
  gi_wp2_with (gi_at_call 34; refine (callsIn_wide.2 (bw_any _ _ _ _)).mono ?_; rintro e w' ⟨rfl, rfl⟩)
  have hR0 := HR.out.call ((((Below.refl _ w).alloc (Nat.le_refl _) (.cells #[.string tx, .slice a ps.length c] 46)).alloc (by simp) (.cells #[.int .i64 z] 3)).alloc (by simp; omega) (.cells #[.int .i64 0] 3) |>.alloc (by simp; omega) (.cells #[.slice a ps.length c] 44))
  have hB0 := (((Below.refl _ w).alloc (Nat.le_refl _) (.cells #[.string tx, .slice a ps.length c] 46)).alloc (by simp) (.cells #[.int .i64 z] 3)).alloc (by simp; omega) (.cells #[.int .i64 0] 3) |>.alloc (by simp; omega) (.cells #[.slice a ps.length c] 44)
  have bZ := ((Boxed.new (w.alloc (.cells #[.string tx, .slice a ps.length c] 46)) 3 (.int .i64 z)).alloc (.cells #[.int .i64 0] 3)).alloc (.cells #[.slice a ps.length c] 44)
  have bR := (Boxed.new ((w.alloc (.cells #[.string tx, .slice a ps.length c] 46)).alloc (.cells #[.int .i64 z] 3)) 3 (.int .i64 0)).alloc (.cells #[.slice a ps.length c] 44)
  have bS := Boxed.new (((w.alloc (.cells #[.string tx, .slice a ps.length c] 46)).alloc (.cells #[.int .i64 z] 3)).alloc (.cells #[.int .i64 0] 3)) 44 (.slice a ps.length c)
  simp only [World.size_alloc] at bZ bR bS
  have hsz : ((((w.alloc (.cells #[.string tx, .slice a ps.length c] 46)).alloc (.cells #[.int .i64 z] 3)).alloc (.cells #[.int .i64 0] 3)).alloc (.cells #[.slice a ps.length c] 44)).heap.size = w.heap.size + 4 := by simp
  obtain ⟨W0, hW0⟩ : ∃ W0, (((w.alloc (.cells #[.string tx, .slice a ps.length c] 46)).alloc (.cells #[.int .i64 z] 3)).alloc (.cells #[.int .i64 0] 3)).alloc (.cells #[.slice a ps.length c] 44) = W0 := ⟨_, rfl⟩
  rw [hW0] at hR0 hB0 bZ bR bS hsz ⊢
  clear hW0
  refine wpIn_rangeFunc_ownH rfl (by omega) (gf := 45) (lb := #[.pointer (some ⟨w.heap.size + 1 + 1 + 1, 0, none⟩)]) rfl trivial (enters_of Tryd.func45 (by kernel_rfl) rfl)
    (bw_stops (w.heap.size + 1 + 1 + 1) ps hp a c W0 hR0 bS.cell 2 (by omega)) belowK_t (belowK_b (by omega)) (Below.refl _ _) (fun _ => rfl)
    (fun pre W => ((Non z pre ∧ Boxed W (w.heap.size + 1) 3 (.int .i64 z)) ∧ Boxed W (w.heap.size + 1 + 1) 3 (.int .i64 0)) ∧ Below W0.heap.size W0 W)
    (fun c pre W => ((c = .ret ∧ Fnd z pre) ∧ Boxed W (w.heap.size + 1 + 1) 3 (.int .i64 (plV z pre))) ∧ Below w.heap.size w W)
    (OwnFrom.and (OwnFrom.and (OwnFrom.and (ownFrom_pure _ _) (Own.from (boxed_own _ _ _) _)) (Own.from (boxed_own _ _ _) _)) (ownFrom_below (Nat.le_refl _) (Nat.le_refl _)))
    (fun c => OwnFrom.and (OwnFrom.and (ownFrom_pure _ _) (Own.from (boxed_own _ _ (fun pre => .int .i64 (plV z pre))) _)) (ownFrom_below (Nat.le_refl _) (by omega)))
    ⟨⟨⟨(by intro x hx; cases hx), bZ⟩, bR⟩, Below.refl _ _⟩
    (fun x a' W => ∃ Bx, W.cell? ⟨Bx, 0, none⟩ = some (.int .i64 x.2.1) ∧ W.cell? ⟨Bx, 1, none⟩ = some (.int .i64 x.2.2) ∧ a' = { tmps := #[.agg #[.string tx, .slice a ps.length c], .int .i64 i, .pointer (some ⟨w.heap.size, 0, none⟩), .pointer (some ⟨w.heap.size + 1, 0, none⟩), .pointer (some ⟨w.heap.size + 1 + 1, 0, none⟩), undef, .pointer (some ⟨Bx, 0, none⟩), .int .i64 i,
      .int .i64 (max i 0), .pointer (some ⟨w.heap.size, 0, none⟩), .string tx, .int .i64 tx.size, .int .i64 z, .pointer (some ⟨w.heap.size, 1, none⟩), .slice a ps.length c, .func (.func 45) #[] #[.pointer (some ⟨w.heap.size + 1 + 1 + 1, 0, none⟩)], .int .i64 x.1, .agg #[.int .i64 x.2.1, .int .i64 x.2.2], undef, undef, undef, undef, undef, undef, undef, undef, undef, undef, undef], defers := [] })
    (fun x a' _ X Y row hs hg hr => by obtain ⟨Bx, e1, e2, e3⟩ := hs; exact ⟨Bx, cell_kept e1 hg (fun r e => (hr r e).2), cell_kept e2 hg (fun r e => (hr r e).2), e3⟩)
    ?assign ?body ?done ?stop
  case assign =>
    rintro l pre x W K ⟨⟨⟨hp1, bZ1⟩, bR1⟩, hB1⟩ hK
    have hle := hB1.size
    have kx := Tre.Blk.new W 61 [.int .i64 x.2.1, .int .i64 x.2.2]
    gi_wp2
    exact hK _ _ ((KeepsOthers.alloc _ _).from _) ((Below.refl _ W).alloc hle _) ⟨⟨⟨hp1, bZ1.alloc _⟩, bR1.alloc _⟩, hB1.alloc hle _⟩ ⟨W.heap.size, kx.cell (i := 0) rfl, kx.cell (i := 1) rfl, rfl⟩
  case body =>
    rintro l pre x a' W hl ⟨r, hr⟩ ⟨⟨⟨hp1, bZ1⟩, bR1⟩, hB1⟩ ⟨Bx, e1, e2, rfl⟩ hlt
    have cZ := bZ1.cell
    have cR := bR1.cell
    have fR := bR1.frozen
    have HB1 := Lib.hid (hB0.trans (hB1.mono (by omega)))
    have HB2 := Lib.hid hB1
    clear hB1
    by_cases hx : x.2.1 ≤ z
    · have HF := Lib.hid (hp1.fnd hx)
      have HV := Lib.hid (plV_snoc z pre x)
      gi_wp2
      exact ⟨(KeepsOthers.setCell _ _ _).from _, ⟨⟨rfl, HF.out⟩, by rw [HV.out]; exact bR1.set _⟩, HB1.out.setCell (p := ⟨w.heap.size + 1 + 1, 0, none⟩) (by simp; omega) _⟩
    · have HF := Lib.hid (hp1.snoc hx)
      gi_wp2
      exact ⟨KeepsFrom.refl _ _, Below.refl _ _, ⟨⟨HF.out, bZ1⟩, bR1⟩, by have := HB2.out; rwa [hsz] at this⟩
  case done =>
    rintro D ys W hD rfl ⟨⟨⟨hp1, bZ1⟩, bR1⟩, hB1⟩ hK
    have cR := bR1.cell
    have fR := bR1.frozen
    have HB1 := Lib.hid (hB0.trans (hB1.mono (by omega)))
    have HZ := Lib.hid hp1.plc
    clear hB1 hp1
    gi_wp2
    have hK' := (KeepsOthers.setCell W ⟨w.heap.size + 1 + 1, 0, none⟩ (.int .i64 0)).same D _ hK rfl
    refine ⟨by simp, .inl ⟨_, _, rfl, run_takeDeferred hK', ?_⟩⟩
    have hc5 := cell_kept (bR1.set (.int .i64 0)).cell (grownBy_putObj' _ D (.deferred none)) (fun r e => by cases e; exact ⟨_, hK', rfl⟩)
    refine ⟨.int .i64 0, ?_, by rw [HZ.out, wrap_zero], (HB1.out.setCell (p := ⟨w.heap.size + 1 + 1, 0, none⟩) (by simp; omega) _).trans (belowK_b (w := w) (Nat.le_refl _) _ D _ _ (by omega) hK' rfl rfl)⟩
    simp [results, Tryd.results19, go_sem, hc5]
  case stop =>
    rintro D c pre W hD ⟨k, hk, rfl⟩ ⟨⟨⟨rfl, hf⟩, bR1⟩, hB1⟩ hK
    have HZ := Lib.hid (hf.plc hk)
    rw [HZ.out] at bR1
    have HB1 := Lib.hid hB1
    clear hB1 hf
    gi_wp2
    refine ⟨by simp, .inl ⟨_, _, rfl, run_takeDeferred hK, ?_⟩⟩
    have hc5 := cell_kept bR1.cell (grownBy_putObj' _ D (.deferred none)) (fun r e => by cases e; exact ⟨_, hK, rfl⟩)
    refine ⟨.int .i64 (wrap64 (plc ps z)), ?_, rfl, HB1.out.trans (belowK_b (w := w) (Nat.le_refl _) W D _ _ (by omega) hK rfl rfl)⟩
    simp [results, Tryd.results19, go_sem, hc5]
end Go.Proofs.YtplobfnljlnkkaaDoor.Fld
