/- The walk of FoldFolds. -/
import Derived.Test.YtplobfnljlnkkaaDoorFldAw
set_option linter.unusedVariables false
namespace Go.Proofs.YtplobfnljlnkkaaDoor.Fld
open Go.RowKit Go.Deep Go.Proofs.YtplobfnljlnkkaaDoor.Byt Go.Proofs.YtplobfnljlnkkaaDoor.Utf Go.Proofs.YtplobfnljlnkkaaDoor.Tre Go.Proofs.YtplobfnljlnkkaaDoor.Cls

/-- Texts that are not too long. -/
def Fits4 (ts : List ByteArray) : Prop := ∀ t ∈ ts, t.size ≤ 400
/-- What FoldFolds holds: its line's box, the texts and the pieces that came in. -/
structure Fz (w W : World) (ts : List ByteArray) (a : Option Addr) (c : Nat) (tx : ByteArray) (ps : List (Int × Int)) (pa : Option Addr) (pc : Nat) : Prop where
  bl : Bl w W
  box : Tre.Blk W w.heap.size 40 [.string tx, .slice pa ps.length pc]
  tx : Rd W (txD ts) (.slice a ts.length c)
  ps : Rd W (pD 60 ps) (.slice pa ps.length pc)
  tab : Flt.ETab W
theorem Fz.keep {w : World} {ts : List ByteArray} {a : Option Addr} {c : Nat} {tx : ByteArray} {ps : List (Int × Int)} {pa : Option Addr} {pc : Nat} : ∀ W W', Fz w W ts a c tx ps pa pc → Below W.heap.size W W' → Fz w W' ts a c tx ps pa pc :=
  fun _ _ h hb => ⟨h.bl.call hb, h.box.kept (hb.block _ h.box.lt), h.tx.call hb, h.ps.call hb, h.tab.call hb⟩
theorem Fz.new {w : World} {ts : List ByteArray} {a : Option Addr} {c : Nat} {tx : ByteArray} {ps : List (Int × Int)} {pa : Option Addr} {pc : Nat} (hT : Flt.ETab w) (ht : Rd w (txD ts) (.slice a ts.length c)) (hp : Rd w (pD 60 ps) (.slice pa ps.length pc)) :
    Fz w (w.alloc (.cells #[.string tx, .slice pa ps.length pc] 40)) ts a c tx ps pa pc := ⟨(Bl.refl w).alloc _, Tre.Blk.new w _ [.string tx, .slice pa ps.length pc], ht.call (new1 _ _), hp.call (new1 _ _), hT.call (new1 _ _)⟩

set_option maxRecDepth 100000 in
set_option maxHeartbeats 2000000 in
theorem walk_folds (ts : List ByteArray) (a : Option Addr) (c : Nat) (l : PL) (pa : Option Addr) (pc : Nat) (i : Int) (w : World) (hT : Flt.ETab w) (ha : Rd w (txD ts) (.slice a ts.length c)) (hp : Rd w (pD 60 l.ps) (.slice pa l.ps.length pc))
    (i0 : -9223372036854775808 ≤ i) (i1 : i ≤ 9223372036854775807) (hin : ∀ p ∈ l.ps, (-9223372036854775808 ≤ p.1 ∧ p.1 ≤ 9223372036854775807) ∧ -9223372036854775808 ≤ p.2 ∧ p.2 ≤ 9223372036854775807) :
    Calls Tryd.prog 4 #[.slice a ts.length c, .agg #[.string ⟨l.t.toArray⟩, .slice pa l.ps.length pc], .int .i64 i] w fun r w' => r = .returned (.bool true) ∧ Below w.heap.size w w' := by
  have HT := Lib.hid hT
  have HA := Lib.hid (fun W hW => awake_any W hW)
  have Z0 := Lib.hid (Fz.new (tx := ⟨l.t.toArray⟩) hT ha hp)
  have hsz : (ByteArray.mk l.t.toArray).size = l.t.length := size_mk l.t
  have HSZ := Lib.hid hsz
  have x0 := Z0.out.box.cell (i := 0) rfl
  have x1 := Z0.out.box.cell (i := 1) rfl
  by_cases hn : (10 : Int) < ts.length ∨ ((400 : Int) < (ByteArray.mk l.t.toArray).size ∨ (30 : Int) < l.ps.length)
  · clear hT ha hp i0 i1 hin hsz
    generalize ByteArray.mk l.t.toArray = tx at *
    generalize l.ps = ps at *
    have hb := Z0.out.bl.below
    have htab := Z0.out.tab
    generalize hw1 : w.alloc (.cells #[.string tx, .slice pa ps.length pc] 40) = w1 at *
    have HA1 := Lib.hid (fun W (hW : W = w1) => (HA.out W (hW ▸ htab) : Calls Tryd.prog 8 #[] W fun r w' => r = .returned (.bool true) ∧ Below W.heap.size W w'))
    have HB := Lib.hid hb
    clear hb htab Z0 HA HT HSZ
    by_cases c1 : (10 : Int) < ts.length
    · clear hn
      go_enter Tryd.func4, Tryd.ntmps4
      go_wp2_with (go_at_call 8; with_reducible refine (HA1.out _ rfl).mono ?_; rintro r w2 ⟨rfl, hb⟩; have B1 := Lib.hid ((Bl.mk HB.out HB.out.size).call hb); clear hb)
      go_ret
      exact ⟨rfl, B1.out.below⟩
    · by_cases c2 : (400 : Int) < tx.size
      · clear hn
        go_enter Tryd.func4, Tryd.ntmps4
        go_wp2_with (go_at_call 8; with_reducible refine (HA1.out _ rfl).mono ?_; rintro r w2 ⟨rfl, hb⟩; have B1 := Lib.hid ((Bl.mk HB.out HB.out.size).call hb); clear hb)
        go_ret
        exact ⟨rfl, B1.out.below⟩
      · have c3 : (30 : Int) < ps.length := by omega
        clear hn
        go_enter Tryd.func4, Tryd.ntmps4
        go_wp2_with (go_at_call 8; with_reducible refine (HA1.out _ rfl).mono ?_; rintro r w2 ⟨rfl, hb⟩; have B1 := Lib.hid ((Bl.mk HB.out HB.out.size).call hb); clear hb)
        go_ret
        exact ⟨rfl, B1.out.below⟩
  · have hn1 : ts.length ≤ 10 := by omega
    have hn2 : (ByteArray.mk l.t.toArray).size ≤ 400 := by omega
    have hn3 : l.ps.length ≤ 30 := by omega
    have HO := Lib.hid (fun W h => own_any l (by omega) pa pc W h)
    have HR := Lib.hid (fun W h => rplace_any l (by omega) (by omega) pa pc i i0 i1 hin W h)
    have HP := Lib.hid (fun a' c' W h => place_any l (by omega) (by omega) a' c' i i0 i1 hin W h)
    clear hT ha hp hn i0 i1 hin hsz
    generalize plcA l i = d at *
    generalize ByteArray.mk l.t.toArray = tx at *
    generalize l.ps = ps at *
    have td : (d == d) = true := by simp
    go_enter Tryd.func4, Tryd.ntmps4
    go_wp2_with fail
    clear x0 x1
    generalize w.alloc (.cells #[.string tx, .slice pa ps.length pc] 40) = w1 at *
    go_loopw [7] (fun v wr => ∃ k : Nat, k ≤ ts.length ∧ v = .int .i64 k ∧ Hid (Fits4 (ts.take k)) ∧ Hid (Fz w wr ts a c tx ps pa pc)) (fun v _ => ts.length - (intOf v).toNat)
    case atStart => exact ⟨0, Nat.zero_le _, rfl, Lib.hid (fun t ht => by simp at ht), Z0⟩
    case round =>
      obtain ⟨k, hk, rfl, hf, hz⟩ := hrel
      by_cases h : k < ts.length
      · have h' : (k : Int) < ts.length := by omega
        obtain ⟨b, off, rfl, c0⟩ := text_at hz.out.tx h
        have l0 := Byt.cell_lt c0
        have HN := Lib.hid (fun (hs : ts[k].size ≤ 400) => (by
          rw [List.take_succ_eq_append_getElem h]
          intro t ht
          rcases List.mem_append.1 ht with ht | ht
          · exact hf.out t ht
          · have : t = ts[k] := by simpa using ht
            subst this
            exact hs : Fits4 (ts.take (k + 1))))
        generalize ts[k] = t at *
        by_cases hl : (400 : Int) < t.size
        · have Z1 := fun q => Lib.hid (Fz.keep _ _ hz.out (Joins.below_draws wr.heap.size wr q))
          go_wp2_with fail
          go_quiet (fail)
          have Z2 := Z1 nq
          have c1 := (Joins.below_draws wr.heap.size wr nq).cell (p := ⟨b, off + k, none⟩) l0 |>.trans c0
          go_wp2_with (go_at_call 8; with_reducible refine (HA.out _ Z2.out.tab).mono ?_; rintro r w2 ⟨rfl, hb⟩; have B1 := Lib.hid (Z2.out.bl.call hb); clear hb)
          go_ret
          exact ⟨rfl, B1.out.below⟩
        · have hs4 : t.size ≤ 400 := by omega
          have HG : Fz w wr.drew ts (some ⟨b, off, none⟩) c tx ps pa pc ∧ wr.drew.cell? ⟨b, off + k, none⟩ = some (.string t) := ⟨Fz.keep _ _ hz.out (Below.refl _ _).drew, c0⟩
          have hkeep : ∀ W W', (Fz w W ts (some ⟨b, off, none⟩) c tx ps pa pc ∧ W.cell? ⟨b, off + k, none⟩ = some (.string t)) → Below W.heap.size W W' → (Fz w W' ts (some ⟨b, off, none⟩) c tx ps pa pc ∧ W'.cell? ⟨b, off + k, none⟩ = some (.string t)) :=
            fun W W' h hb => ⟨Fz.keep _ _ h.1 hb, (hb.cell (p := ⟨b, off + k, none⟩) (Byt.cell_lt h.2)).trans h.2⟩
          have HK := Lib.hid hkeep
          have y0 := fun z : Wd (fun W => Fz w W ts (some ⟨b, off, none⟩) c tx ps pa pc ∧ W.cell? ⟨b, off + k, none⟩ = some (.string t)) => z.ok.2
          have K1 := Lib.hid (fun W => fold_any t (by omega) W)
          have K2 := Lib.hid (fun W => rfold_any t (by omega) W)
          generalize ByteArray.mk (foldL t.data.toList).toArray = y at *
          have ty : (y.toList != y.toList) = false := by simp
          go_wp2_with fail
          have tl : ((400 : Int) < t.size) = False := eq_false (by omega)
          refine wp_region_class (fun W => Fz w W ts (some ⟨b, off, none⟩) c tx ps pa pc ∧ W.cell? ⟨b, off + k, none⟩ = some (.string t)) HG (by kernel_rfl) (by kernel_rfl) ?_
          intro hne
          clear HG c0 hkeep
          repeat (first
            | go_big_quiet_step (fail)
            | go_big_quiet_step (exact wd_call HK.out (K1.out _))
            | go_big_quiet_step (exact wd_same (K2.out _)))
          refine wpQuiet_nil ?_
          rintro _ ⟨z, rfl⟩
          have HZ := Lib.hid z.ok.1
          have HN2 := Lib.hid (HN.out hs4)
          clear y0 hne
          go_wp2_with fail
          go_roundw
          case rel => exact ⟨k + 1, by omega, by go_num, HN2, HZ⟩
          case measure => simp [intOf]; omega
      · obtain rfl : k = ts.length := by omega
        rw [List.take_of_length_le (Nat.le_refl _)] at hf
        have HJ := Lib.hid (fun W h => join_any ts hn1 hf.out a c W h)
        have HQ := Lib.hid (fun W h => rjoin_any ts hn1 hf.out a c W h)
        generalize ByteArray.mk (joinL (lists ts)).toArray = y at *
        have ty : (y.toList == y.toList) = true := by simp
        have K0 := Lib.hid (Fz.keep _ _ hz.out (Below.refl _ _).drew)
        have q0 := K0.out.box.cell (i := 0) rfl
        have q1 := K0.out.box.cell (i := 1) rfl
        go_wp2_with fail
        go_region_held3 (fun W => W.cell? ⟨w.heap.size, 0, none⟩ = some (.string tx) ∧ W.cell? ⟨w.heap.size, 1, none⟩ = some (.slice pa ps.length pc)) (go_keep)
          (first
            | (go_at_call 17; with_reducible refine (HJ.out _ K0.out.tx).mono ?_; rintro r w3 ⟨rfl, hb⟩; have K1 := Lib.hid (Fz.keep _ _ K0.out hb); clear hb; have z0 := K1.out.box.cell (i := 0) rfl; have z1 := K1.out.box.cell (i := 1) rfl)
            | (go_at_call 18; with_reducible refine (HQ.out _ K1.out.tx).mono ?_; rintro r w4 ⟨rfl, rfl⟩)
            | (go_at_call 20; with_reducible refine (HO.out _ K1.out.ps).mono ?_; rintro r w5 ⟨a5, c5, rfl, hr, hb⟩; have K2 := Lib.hid (Fz.keep _ _ K1.out hb); have R2 := Lib.hid hr; clear hb hr; have z0 := K2.out.box.cell (i := 0) rfl; have z1 := K2.out.box.cell (i := 1) rfl)
            | (go_at_call 19; with_reducible refine (HP.out _ _ _ R2.out).mono ?_; rintro r w6 ⟨rfl, hb⟩; have K3 := Lib.hid (Fz.keep _ _ K2.out hb); clear hb; have z0 := K3.out.box.cell (i := 0) rfl; have z1 := K3.out.box.cell (i := 1) rfl)
            | (go_at_call 21; with_reducible refine (HR.out _ K3.out.ps).mono ?_; rintro r w7 ⟨rfl, hb⟩; have K4 := Lib.hid (Fz.keep _ _ K3.out hb); clear hb; have z0 := K4.out.box.cell (i := 0) rfl; have z1 := K4.out.box.cell (i := 1) rfl)
            | (go_at_call 8; with_reducible refine (HA.out _ K4.out.tab).mono ?_; rintro r w8 ⟨rfl, hb⟩; have K5 := Lib.hid (Fz.keep _ _ K4.out hb); clear hb; have z0 := K5.out.box.cell (i := 0) rfl; have z1 := K5.out.box.cell (i := 1) rfl))
        all_goals
          go_wp2_with fail
          go_ret
          exact ⟨rfl, K5.out.bl.below⟩
end Go.Proofs.YtplobfnljlnkkaaDoor.Fld
