/- Contracts of the document's Put. -/
import Derived.Test.YtgjhiekcdcicgaaRefE
namespace Go.Proofs.Ytgjhiekcdcicgaa
open Go.RowKit

/-- An append by its run, in a region that draws its order. -/
theorem step_append_run {P : Program} {w : World} {ops : Array Oper} {o : Oper} {a : Act} {K : Act → World → Prop} {Q : Exit → Act → World → Prop} {E : Prop} (hgd : o.guard = none) (d s : Operand) (dT sT : TypeId)
    (ho : o.op = .call { callee := .builtin .append, args := #[d, s], argTypes := #[dT, sT] }) (vd vs : Value) (hd : a.eval d = vd) (hs : a.eval s = vs) (v' : Value) (w' : World)
    (hrun : (Builtin.append_ #[dT, sT] o.type #[vd, vs]).run P w = .ok v' w') (h : K (a.put o.dst v') w') :
    if Region.wanted o (yielded ops a.tmps) = true then Oper.wp P o a w K Q else E := by
  have hw : Region.wanted o (yielded ops a.tmps) = true := by simp [Region.wanted, hgd]
  rw [if_pos hw]
  unfold Oper.wp
  simp [execOp, ho, resolve, invoke, builtin, hd, hs, hrun, Result.andThen]
  exact h

theorem rput2 (A : Option Addr) (n c : Nat) (A' : Option Addr) (m c' : Nat) (f : Int) (S : List ByteArray) (W : List Wr) (p : Int) (s : ByteArray) (w : World) (hD : Dev w A n c A' m c' f S W) (h : ¬ chk S W f = 0) :
    Calls Try.prog 12 #[DV A n c A' m c' f, .int .i64 p, .string s] w (RetDE w S W f 2) := by
  have HC := Lib.hid (rcheck_any A n c A' m c' f S W _ ((hD.new (D25 A n c A' m c' f)).new (D25 none 0 0 none 0 0 0)))
  have HD := Lib.hid hD
  have hne := neq0 h
  generalize chk S W f = e0 at *
  clear hD h
  go_enter Try.func12, Try.ntmps12
  go_wp2_with fail
  refine HC.out.mono ?_
  rintro e w1 ⟨rfl, hb1⟩
  have HB := Lib.hid (((new1 w _).push _).call hb1)
  obtain ⟨hc, hf⟩ := bcell hb1
  clear hb1
  go_wp2
  have HB3 := ((HB.out.setCell (p := ⟨w.heap.size + 1, 0, none⟩) (by simp) (.slice A n c)).setCell (p := ⟨w.heap.size + 1, 1, none⟩) (by simp) (.slice A' m c')).setCell (p := ⟨w.heap.size + 1, 2, none⟩) (by simp) (.int .i64 f)
  exact bodyPost_ret (v := .tuple #[DV A n c A' m c' f, .int .i64 2]) (by simp [results, Try.results12, go_sem, hc]) rfl ⟨A, n, c, A', m, c', rfl, HD.out.below HB3, HB3⟩

set_option maxRecDepth 100000 in
theorem rput_bad (A : Option Addr) (n c : Nat) (A' : Option Addr) (m c' : Nat) (f : Int) (S : List ByteArray) (W : List Wr) (p : Int) (s : ByteArray) (w : World) (hD : Dev w A n c A' m c' f S W) (h : chk S W f = 0) (z : Int)
    (hz : (decide (p < 0) = true ∧ z = 8) ∨ (decide (p < 0) = false ∧ decide ((n : Int) ≤ p) = true ∧ z = 8) ∨ (decide (p < 0) = false ∧ decide ((n : Int) ≤ p) = false ∧ ((s.size : Int) != 64) = true ∧ z = 5) ∨
      (decide (p < 0) = false ∧ decide ((n : Int) ≤ p) = false ∧ ((s.size : Int) != 64) = false ∧ (f == 0) = true ∧ z = 21) ∨ (decide (p < 0) = false ∧ decide ((n : Int) ≤ p) = false ∧ ((s.size : Int) != 64) = false ∧ (f == 0) = false ∧ ((m : Int) == 1024) = true ∧ z = 20)) :
    Calls Try.prog 12 #[DV A n c A' m c' f, .int .i64 p, .string s] w (RetDE w S W f z) := by
  have hc := rcheck_any A n c A' m c' f S W _ ((hD.new (D25 A n c A' m c' f)).new (D25 none 0 0 none 0 0 0))
  rw [h] at hc
  have HC := Lib.hid hc
  have HD := Lib.hid hD
  clear hD h hc
  have fin : ∀ w1, Below w.heap.size w w1 → Below w.heap.size w (((w1.setCell ⟨w.heap.size + 1, 0, none⟩ (.slice A n c)).setCell ⟨w.heap.size + 1, 1, none⟩ (.slice A' m c')).setCell ⟨w.heap.size + 1, 2, none⟩ (.int .i64 f)) :=
    fun w1 hb => ((hb.setCell (p := ⟨w.heap.size + 1, 0, none⟩) (by simp) (.slice A n c)).setCell (p := ⟨w.heap.size + 1, 1, none⟩) (by simp) (.slice A' m c')).setCell (p := ⟨w.heap.size + 1, 2, none⟩) (by simp) (.int .i64 f)
  have HFin := Lib.hid fin
  clear fin
  rcases hz with ⟨h1, hzz⟩ | ⟨h1, h2, hzz⟩ | ⟨h1, h2, h3, hzz⟩ | ⟨h1, h2, h3, h4, hzz⟩ | ⟨h1, h2, h3, h4, h5, hzz⟩
  all_goals
    have HZ := Lib.hid hzz
    clear hzz
    go_enter Try.func12, Try.ntmps12
    go_wp2_with fail
    refine HC.out.mono ?_
    rintro e w1 ⟨rfl, hb1⟩
    have HB := Lib.hid (((new1 w _).push _).call hb1)
    obtain ⟨hc, hf⟩ := bcell hb1
    clear hb1
    go_wp2
    have HB3 := HFin.out w1 HB.out
    obtain rfl := HZ.out
    exact bodyPost_ret (v := .tuple #[DV A n c A' m c' f, _]) (by simp [results, Try.results12, go_sem, hc]) rfl ⟨A, n, c, A', m, c', rfl, HD.out.below HB3, HB3⟩

set_option maxRecDepth 100000 in
set_option maxHeartbeats 1000000 in
theorem rput_yes (A : Option Addr) (n c : Nat) (A' : Option Addr) (m c' : Nat) (f : Int) (S : List ByteArray) (W : List Wr) (p : Int) (s : ByteArray) (w : World) (hD : Dev w A n c A' m c' f S W) (h : putE S W f p s = 0) :
    Calls Try.prog 12 #[DV A n c A' m c' f, .int .i64 p, .string s] w (RetDE w S (W ++ [(p, s)]) (burnt f) 0) := by
  obtain ⟨h0, hp0, hp1, hs, hf0, hw⟩ := putE_ok h
  have hc := rcheck_any A n c A' m c' f S W _ ((hD.new (D25 A n c A' m c' f)).new (D25 none 0 0 none 0 0 0))
  rw [h0] at hc
  have HC := Lib.hid hc
  have HD := Lib.hid hD
  have hS := hD.sec.sec
  have hW := hD.wr.wr
  have HW := Lib.hid hW
  have HWL := Lib.hid hw
  have e1 : decide (p < 0) = false := by simp; omega
  have e2 : decide ((n : Int) ≤ p) = false := by simp; omega
  have e3 : ((s.size : Int) != 64) = false := by simp; omega
  have e4 : (f == 0) = false := by simpa using hf0
  have e5 : ((m : Int) == 1024) = false := by simp; omega
  have hm : m ≤ 1024 := by omega
  have HM := Lib.hid hm
  clear hD h hc h0 hp0 hp1 hs hf0 hw hS hW hm
  go_enter Try.func12, Try.ntmps12
  go_wp2_with fail
  refine HC.out.mono ?_
  rintro e w1 ⟨rfl, hb1⟩
  have HB := Lib.hid (((new1 w _).push _).call hb1)
  have HX := Lib.hid (((Box.new w (.slice A n c) (.slice A' m c') (.int .i64 f) 25).alloc (D25 none 0 0 none 0 0 0)).call hb1)
  have HY := Lib.hid (by have := (St.new (w.alloc (D25 A n c A' m c' f)) none 0 0 none 0 0 0 25).call hb1; rwa [World.size_alloc] at this)
  have hzz : w.heap.size + 1 < w1.heap.size := HY.out.lt
  obtain ⟨c0, c1, c2, f0, f1, f2⟩ := HX.out
  clear hb1
  obtain ⟨v1, w2, hap, hown, hgr, -⟩ := append_rv (P := Try.prog) (ty := 23) Try.underlying23 info27 rfl (by omega) (World.ownsRow_nil w1 w1.heap.size 27 2) c' (HD.out.wr.below HB.out) (WV_one W) (by have := HM.out; omega) (by omega) (Nat.le_refl _)
  have hb12 : Below w1.heap.size w1 w2 := (Below.refl _ _).grown hgr (Nat.le_refl _) (by simp [Value.ownBlock])
  obtain ⟨av, capv, rfl⟩ := own_val hown
  rw [Nat.zero_add] at hap hown
  rw [List.nil_append] at hown
  have HAP1 := Lib.hid hap
  have hcx : RV (w2.alloc (.cells #[.int .i64 p, .string s] 27)).drew (some ⟨w2.heap.size, 0, none⟩) 1 2 (WV [(p, s)]) := by
    have := (Blk.new w2 27 #[.int .i64 p, .string s]).rv (n := 1) (k := 2) rfl
    exact this
  have hown2 : (w2.alloc (.cells #[.int .i64 p, .string s] 27)).drew.ownsRow w1.heap.size 27 2 (.slice av m capv) m (WV W) := hown.alloc _
  obtain ⟨v3, w3, hap3, hown3, hgr3, -⟩ := append_rv (P := Try.prog) (ty := 23) Try.underlying23 info27 rfl (by omega) hown2 1 hcx (WV_one _) (by have := HM.out; omega) (by omega) (by have := hb12.size; simp; omega)
  rw [← WV_append] at hown3
  obtain ⟨a3, cap3, rfl⟩ := own_val hown3
  have HAP3 := Lib.hid hap3
  have hb13 : Below w1.heap.size w1 w3 := ((hb12.push (.cells #[.int .i64 p, .string s] 27)).drew).grown hgr3 (by have := hb12.size; simp; omega) (fun g hg => (hown2.lt g hg).1)
  have HO3 := Lib.hid hown3
  have HB13 := Lib.hid hb13
  have HU := Lib.hid (fun W => rburnt_any f W HD.out.lo HD.out.hi)
  have x2 := (HX.out.call hb12)
  have x3 := (HX.out.call hb13)
  obtain ⟨z0, z1, z2, v0, v1, v2⟩ := (HY.out.call hb13).box
  have HX2 := Lib.hid x2
  have HX3 := Lib.hid x3
  have hl2 : w.heap.size + 1 < w2.heap.size := by have := hb12.size; omega
  have n1 : ¬ w2.heap.size = w.heap.size := by omega
  have n2 : ¬ w.heap.size + 1 = w.heap.size := by omega
  clear hap hown hgr hcx hown2 hap3 hown3 hgr3 hb12 hb13 HC x2 x3
  go_wp2_with (at_builtin; refine wpList_append_run rfl (.tmp 36) (.tmp 38) 23 23 rfl _ _ rfl rfl _ w2 HAP1.out ?_)
  clear c0 c1 c2 f0 f1 f2
  obtain ⟨c0, c1, c2, f0, f1, f2⟩ := HX2.out
  obtain ⟨q0, q1, q2, k0, k1, k2⟩ := HX3.out
  go_region_held3 (fun W => W.cell? ⟨w.heap.size, 0, none⟩ = some (.slice A n c) ∧ W.cell? ⟨w.heap.size, 2, none⟩ = some (.int .i64 f)) (go_keep)
    (first
      | (refine step_append_run rfl (.tmp 42) (.tmp 46) 23 23 rfl _ _ rfl rfl _ w3 HAP3.out ?_)
      | (go_at_call 33; ((with_reducible refine (HU.out _).mono ?_)); rintro r w5 ⟨rfl, rfl⟩))
  all_goals
    go_wp2_with fail
    have hg5 := grown_set3 w3 (w.heap.size + 1) (.slice A n c) (.slice a3 (m + 1) cap3) (.int .i64 (burnt f))
    have hB5 := (HB.out.call HB13.out).grown hg5 (HB.out.call HB13.out).size (by simp)
    have hD5 := (HD.out.below (HB.out.call HB13.out)).only (HY.out.call HB13.out).ns hg5
    have hO5 := HO3.out.kept (row := some (w.heap.size + 1)) hg5 (.inr (by intro e; have := (HO3.out.lt _ e).1; omega))
    refine bodyPost_ret (v := .tuple #[DV A n c a3 (m + 1) cap3 (burnt f), .int .i64 0]) (by simp [results, Try.results12, go_sem, z0, z1, z2]) rfl ⟨A, n, c, a3, m + 1, cap3, rfl, ⟨hD5.sec, RV.of_own hO5, burnt_lo HD.out.lo, burnt_hi HD.out.hi, HD.out.ns, ?_⟩, hB5⟩
    have := HWL.out
    rw [List.length_append]
    simp
    omega

theorem rput_any (A : Option Addr) (n c : Nat) (A' : Option Addr) (m c' : Nat) (f : Int) (S : List ByteArray) (W : List Wr) (p : Int) (s : ByteArray) (w : World) (hD : Dev w A n c A' m c' f S W) :
    Calls Try.prog 12 #[DV A n c A' m c' f, .int .i64 p, .string s] w (RetDE w S (if putE S W f p s = 0 then W ++ [(p, s)] else W) (if putE S W f p s = 0 then burnt f else f) (putE S W f p s)) := by
  by_cases h : putE S W f p s = 0
  · rw [if_pos h, if_pos h, h]; exact rput_yes A n c A' m c' f S W p s w hD h
  · rw [if_neg h, if_neg h]
    have hS := hD.sec.sec
    have hW := hD.wr.wr
    by_cases hc : chk S W f = 0
    · refine rput_bad A n c A' m c' f S W p s w hD hc _ ?_
      unfold putE at h ⊢
      rw [if_pos hc] at h ⊢
      by_cases hp : 0 ≤ p ∧ p < S.length
      · rw [if_pos hp] at h ⊢
        have e1 : decide (p < 0) = false := by simp; omega
        have e2 : decide ((n : Int) ≤ p) = false := by simp; omega
        by_cases hs : s.size = 64
        · rw [if_pos hs] at h ⊢
          have e3 : ((s.size : Int) != 64) = false := by simp; omega
          by_cases hf : f = 0
          · rw [if_pos hf]; exact .inr (.inr (.inr (.inl ⟨e1, e2, e3, by simpa using hf, rfl⟩)))
          · rw [if_neg hf] at h ⊢
            by_cases hw : W.length = 1024
            · rw [if_pos hw]; exact .inr (.inr (.inr (.inr ⟨e1, e2, e3, by simpa using hf, by simp; omega, rfl⟩)))
            · rw [if_neg hw] at h; exact absurd rfl h
        · rw [if_neg hs]; exact .inr (.inr (.inl ⟨e1, e2, by simp; omega, rfl⟩))
      · rw [if_neg hp]
        by_cases hp0 : p < 0
        · exact .inl ⟨by simpa using hp0, rfl⟩
        · exact .inr (.inl ⟨by simpa using hp0, by simp; omega, rfl⟩)
    · have e : putE S W f p s = 2 := by unfold putE; rw [if_neg hc]
      rw [e]
      exact rput2 A n c A' m c' f S W p s w hD hc

end Go.Proofs.Ytgjhiekcdcicgaa
