/- Contract of the laws' same: the document's fault, its places appended one by one. -/
import Derived.Test.YtihhdognjcmbkaaDoorFltMade
import Derived.WalkLawsBesides
import Derived.WalkSpells
import Derived.Outline
import Derived.Laws.OwnMore
import Derived.Laws.Rows
import Derived.Deep.Draws
import Derived.Deep.RegionLaw
import Derived.Maps.AppendAt
namespace Go.Proofs.YtihhdognjcmbkaaDoor.Flt
open Go.RowKit

theorem add_none (b off i : Nat) : (⟨b, off, none⟩ : Addr).add i = ⟨b, off + i, none⟩ := by by_cases h0 : i = 0 <;> simp [Addr.add, h0]
/-- A slice of n elements of k cells each reads as these values. -/
def RV (w : World) (a : Option Addr) (n k : Nat) (vs : List Value) : Prop :=
  vs.length = n * k ∧ (0 < n → ∃ b off, a = some ⟨b, off, none⟩ ∧ b < w.heap.size ∧ ∀ i, (hi : i < vs.length) → w.cell? ⟨b, off + i, none⟩ = some vs[i])
theorem Blk.rv {w : World} {g : Nat} {t : TypeId} {vs : List Value} (h : Blk w g t vs) {n k : Nat} (hl : vs.length = n * k) : RV w (some ⟨g, 0, none⟩) n k vs :=
  ⟨hl, fun _ => ⟨g, 0, rfl, h.lt, fun i hi => by rw [Nat.zero_add]; exact h.cell hi⟩⟩
theorem Blk.of_block {w w' : World} {g : Nat} {t : TypeId} {vs : List Value} (h : Blk w g t vs) (e : w'.heap[g]? = w.heap[g]?) : Blk w' g t vs := e.trans h
theorem RV.of_own {w : World} {base : Nat} {e : TypeId} {k n c : Nat} {a : Option Addr} {vs : List Value} (h : w.ownsRow base e k (.slice a n c) n vs) : RV w a n k vs := by
  refine ⟨h.1, fun hn => ?_⟩
  rcases h.2 with ⟨-, rfl⟩ | ⟨g, cap, cur, hv, -, hh, hnc, hm, hs, ht⟩
  · omega
  · injection hv with hA _ _
    subst hA
    have hl : g < w.heap.size := by
      by_cases hl : g < w.heap.size
      · exact hl
      · rw [Array.getElem?_eq_none (by omega)] at hh; cases hh
    refine ⟨g, 0, rfl, hl, fun i hi => ?_⟩
    have := h.cells (g := g) rfl i vs[i] (List.getElem?_eq_getElem hi)
    rwa [add_none] at this
/-- An append of whatever slice onto a row of the call's own, run. -/
theorem append_rv {P : Program} {w : World} {base : Nat} {t ty e : TypeId} {z : Value} {k bytes : Nat} (ht : P.underlying t = some (.slice e)) (hinfo : (P.info? e).map (fun i => (i.zero, i.size, i.bytes)) = some (some z, k, bytes))
    (hzs : z.cells.size = k) (hk : 0 < k) {v : Value} {n : Nat} {xs : List Value} (hown : w.ownsRow base e k v n xs) {a : Addr} {m : Nat} (c : Nat) {news : List Value} (hR : RV w (some a) m k news) (h1 : ∀ u ∈ news, u.oneCell' = true)
    (h63 : n + m ≤ 1000000) (hby : bytes ≤ 1000) (hbase : base ≤ w.heap.size) :
    ∃ v' w', (Builtin.append_ #[t, t] ty #[v, .slice (some a) m c]).run P w = .ok v' w' ∧ w'.ownsRow base e k v' (n + m) (xs ++ news) ∧ w.grownBy w' v.ownBlock ∧ (v'.ownBlock = v.ownBlock ∨ v'.ownBlock = some w.heap.size) := by
  obtain ⟨i, hi, hz⟩ := Option.map_eq_some_iff.1 hinfo
  simp only [Prod.mk.injEq] at hz
  obtain ⟨hz1, hz2, hz3⟩ := hz
  have hb : (n + m) * bytes ≤ 140737488355328 := Nat.le_trans (Nat.mul_le_mul h63 hby) (by decide)
  have h0 : m = 0 → news = [] := fun hm => List.eq_nil_of_length_eq_zero (by rw [hR.1, hm]; simp)
  obtain ⟨v', w', hrun, h2, h3, _, h5⟩ := run_append_own_at (P := P) w base t ty e i z k bytes ht hi hz1 hz2 hz3 hzs hk v n xs hown a m c news hR.1 (fun j u hu => by
    obtain ⟨hj, rfl⟩ := List.getElem?_eq_some_iff.1 hu
    by_cases hm : 0 < m
    · obtain ⟨b, off, h, -, hc⟩ := hR.2 hm
      injection h with h
      subst h
      rw [add_none]; exact hc j hj
    · rw [h0 (by omega)] at hj; simp at hj) h1 (by unfold maxLen; omega) hb hbase
  exact ⟨v', w', hrun, h2, h3, h5⟩
/-- An append by its run, in a region that draws its order. -/
theorem step_append_run {P : Program} {w : World} {ops : Array Oper} {o : Oper} {a : Act} {K : Act → World → Prop} {Q : Exit → Act → World → Prop} {E : Prop} (hgd : o.guard = none) (d s : Operand) (dT sT : TypeId)
    (ho : o.op = .call { callee := .builtin .append, args := #[d, s], argTypes := #[dT, sT] }) (vd vs : Value) (hd : a.eval d = vd) (hs : a.eval s = vs) (v' : Value) (w' : World)
    (hrun : (Builtin.append_ #[dT, sT] o.type #[vd, vs]).run P w = .ok v' w') (h : K (a.put o.dst v') w') :
    if Region.wanted o (yielded ops a.tmps) = true then Oper.wp P o a w K Q else E := by
  have hw : Region.wanted o (yielded ops a.tmps) = true := by simp [Region.wanted, hgd]
  rw [if_pos hw]
  unfold Oper.wp
  simp [execOp, ho, resolve, invoke, builtin, hd, hs, hrun, Result.andThen]
  exact h
theorem info3 : (Tryd.prog.info? 3).map (fun i => (i.zero, i.size, i.bytes)) = some (some (.int .i64 0), 1, 8) := by kernel_rfl
def IV (zs : List Int) : List Value := zs.map (.int .i64)
theorem IV_next (zs : List Int) (k : Nat) (h : k < zs.length) : IV (zs.take k) ++ [.int .i64 (zs.getD k 0)] = IV (zs.take (k + 1)) := by
  unfold IV
  rw [List.take_succ_eq_append_getElem h, List.map_append]
  simp [List.getD_eq_getElem?_getD, List.getElem?_eq_getElem h]
/-- Where same stands behind k places. -/
structure SK (w wr : World) (e : Int) (v : Value) (k : Nat) (zs : List Int) : Prop where
  bl : Bl w wr
  res : Blk wr w.heap.size 30 [.int .i64 0, .slice none 0 0]
  var : Blk wr (w.heap.size + 1) 30 [.int .i64 e, v]
  own : wr.ownsRow (w.heap.size + 2) 3 1 v k (IV (zs.take k))
theorem own_val {w : World} {base e k n : Nat} {v : Value} {xs : List Value} (h : w.ownsRow base e k v n xs) : ∃ a c, v = .slice a n c := by
  rcases h.2 with ⟨rfl, rfl⟩ | ⟨g, cap, cur, rfl, _⟩
  · exact ⟨_, _, rfl⟩
  · exact ⟨_, _, rfl⟩
theorem SK.new (w : World) (e : Int) (zs : List Int) : SK w ((w.alloc (.cells #[.int .i64 0, .slice none 0 0] 30)).alloc (.cells #[.int .i64 e, .slice none 0 0] 30)) e (.slice none 0 0) 0 zs := by
  have h2 := Blk.new (w.alloc (.cells #[.int .i64 0, .slice none 0 0] 30)) 30 #[.int .i64 e, .slice none 0 0]
  rw [World.size_alloc] at h2
  exact ⟨((Bl.refl w).call (new1 _ _)).call (new1 _ _), (Blk.new w 30 #[.int .i64 0, .slice none 0 0]).call (new1 _ _), h2, World.ownsRow_nil _ _ _ _⟩

theorem base_of_own {w : World} {base e k n : Nat} {v : Value} {xs : List Value} (h : w.ownsRow base e k v n xs) : ∀ g, v.ownBlock = some g → base ≤ g := fun g hg => (h.lt g hg).1
theorem Bl.grown {w w1 w2 : World} {o : Option Nat} (h : Bl w w1) (hg : w1.grownBy w2 o) (ho : ∀ g, o = some g → w.heap.size ≤ g) : Bl w w2 :=
  ⟨h.below.grown hg h.below.size ho, Nat.le_trans h.le hg.size⟩
theorem SK.step {w wr wx w' : World} {e : Int} {v v' : Value} {k : Nat} {zs : List Int} (h : SK w wr e v k zs) (hk : k < zs.length) (hb : Below wr.heap.size wr wx) (hown : w'.ownsRow (w.heap.size + 2) 3 1 v' (k + 1) (IV (zs.take k) ++ [.int .i64 (zs.getD k 0)])) (hg : wx.grownBy w' v.ownBlock) :
    SK w (w'.setCell ⟨w.heap.size + 1, 1, none⟩ v') e v' (k + 1) zs := by
  have hl : ∀ g, v.ownBlock = some g → w.heap.size + 2 ≤ g := base_of_own h.own
  have b0 := (h.res.call hb).of_block (hg.block _ (h.res.call hb).lt (fun e => by have := hl _ e.symm; omega))
  have b1 := (h.var.call hb).of_block (hg.block _ (h.var.call hb).lt (fun e => by have := hl _ e.symm; omega))
  have bb := (h.bl.call hb).grown hg (fun g hg => by have := hl g hg; omega)
  rw [IV_next zs k hk] at hown
  refine ⟨⟨bb.below.setCell (by simp) _, by simpa using bb.le⟩, b0.of_block (Below.heap_setCell _ _ _ _ (by simp)), by simpa using b1.set_ 1 v', ownsRow_setCell_below hown (by simp) _⟩

set_option maxRecDepth 100000 in
set_option maxHeartbeats 1000000 in
theorem same_any (e : Int) (e0 : -32768 ≤ e) (e1 : e ≤ 32767) (a : Option Addr) (n c : Nat) (zs : List Int) (w : World) (hz : R32 w a n zs) (hn : n ≤ 40) :
    Calls Tryd.prog 9 #[.int .i16 e, .slice a n c] w fun r w' => ∃ a' c', r = .returned (.agg #[.int .i64 e, .slice a' n c']) ∧ RV w' a' n 1 (IV zs) ∧ Below w.heap.size w w' := by
  have HZ := Lib.hid hz
  have HL := Lib.hid hz.len
  have HS := Lib.hid (SK.new w e zs)
  have hn1 : (n : Int) ≤ 40 := by omega
  have HN := Lib.hid hn
  clear hz hn
  go_enter Tryd.func9, Tryd.ntmps9
  go_wp2_with fail
  generalize (w.alloc (.cells #[.int .i64 0, .slice none 0 0] 30)).alloc (.cells #[.int .i64 e, .slice none 0 0] 30) = w0 at *
  go_loopw [6] (fun i wr => ∃ (k : Nat) (v : Value), k ≤ n ∧ i = .int .i64 k ∧ Hid (SK w wr e v k zs)) (fun i _ => n - (intOf i).toNat)
  case atStart => exact ⟨0, _, Nat.zero_le _, rfl, HS⟩
  case round =>
    obtain ⟨k, v, hk, rfl, HK⟩ := hrel
    obtain ⟨av, capv, rfl⟩ := own_val HK.out.own
    have x0 := HK.out.var.cell (i := 0) (by simp)
    have x1 := HK.out.var.cell (i := 1) (by simp)
    have y0 := HK.out.var.frozen 0
    have y1 := HK.out.var.frozen 1
    have hzz : w.heap.size + 1 < wr.heap.size := HK.out.var.lt
    have hz0 : w.heap.size < wr.heap.size := by omega
    dsimp only [List.getElem_cons_zero, List.getElem_cons_succ] at x0 x1
    by_cases hlt : k < n
    · have hl : k < zs.length := by have := HL.out; omega
      obtain ⟨z0, z1⟩ := HZ.out.in' k hl
      obtain ⟨b, off, rfl, hb, hc⟩ := HZ.out.at' (by omega)
      have zw : IntKind.i64.wrap (zs.getD k 0) = zs.getD k 0 := IntWalk.i64_in _ (by omega)
      have hc0 : wr.cell? ⟨b, off + k, none⟩ = some (.int .i32 (zs.getD k 0)) := (HK.out.bl.below.cell (p := ⟨b, off + k, none⟩) hb).trans (hc k hl)
      clear hc
      have HStep := Lib.hid (fun wx w' v' hb ho hg => HK.out.step (wx := wx) (w' := w') (v' := v') hl hb ho hg)
      have hb5 := (new1 wr (.cells #[.int .i64 (zs.getD k 0)] 3))
      obtain ⟨v', w', hap, hown, hgr, -⟩ := append_rv (P := Tryd.prog) (w := (wr.alloc (.cells #[.int .i64 (zs.getD k 0)] 3)).drew) (ty := 28) Tryd.underlying28 info3 rfl (by omega) (HK.out.own.alloc _) 1 ((Blk.new wr 3 #[.int .i64 (zs.getD k 0)]).rv (n := 1) (k := 1) rfl) (by simp [Value.oneCell']) (by have := HN.out; omega) (by omega) (by have := HK.out.var.lt; simp; omega)
      obtain ⟨av', capv', rfl⟩ := own_val hown
      have HAP := Lib.hid hap
      have HST := Lib.hid (HStep.out _ _ _ hb5.drew hown hgr)
      have B1 := ((HK.out.var.call hb5.drew).of_block (hgr.block _ (HK.out.var.call hb5.drew).lt (fun e => by have := base_of_own HK.out.own _ e.symm; omega)))
      have q1 := B1.cell (i := 1) (by simp)
      have t1 := B1.frozen 1
      dsimp only [List.getElem_cons_zero, List.getElem_cons_succ] at q1
      have i1 : (k : Int) < (n : Int) := by omega
      clear hap hown hgr HStep hl hb5 B1
      generalize zs.getD k 0 = z at *
      go_wp2_with fail
      go_region_law (refine step_append_run rfl (.tmp 17) (.tmp 23) 28 28 rfl _ _ rfl rfl _ w' HAP.out ?_)
      all_goals
        go_wp2
        go_roundw
        case rel => exact ⟨k + 1, _, by omega, by go_num, HST.out⟩
        case measure => simp [intOf]; omega
    · obtain rfl : n = k := by omega
      have hWk : zs.take n = zs := List.take_of_length_le (by have := HL.out; omega)
      have HO := Lib.hid HK.out.own
      rw [hWk] at HO
      clear hWk
      have r0 := HK.out.res.cell (i := 0) (by simp)
      have r1 := HK.out.res.cell (i := 1) (by simp)
      have s0 := HK.out.res.frozen 0
      have s1 := HK.out.res.frozen 1
      dsimp only [List.getElem_cons_zero, List.getElem_cons_succ] at r0 r1
      go_wp2
      have hB : Below w.heap.size w ((wr.setCell ⟨w.heap.size, 0, none⟩ (.int .i64 e)).setCell ⟨w.heap.size, 1, none⟩ (.slice av n capv)) := (HK.out.bl.below.setCell (by simp) _).setCell (by simp) _
      have hO := ownsRow_setCell_below (ownsRow_setCell_below HO.out (a := ⟨w.heap.size, 0, none⟩) (by simp) (.int .i64 e)) (a := ⟨w.heap.size, 1, none⟩) (by simp) (.slice av n capv)
      exact bodyPost_ret (v := .agg #[.int .i64 e, .slice av n capv]) (by simp [results, Tryd.results9, go_sem, *]) rfl ⟨av, capv, rfl, RV.of_own hO, hB⟩
end Go.Proofs.YtihhdognjcmbkaaDoor.Flt
