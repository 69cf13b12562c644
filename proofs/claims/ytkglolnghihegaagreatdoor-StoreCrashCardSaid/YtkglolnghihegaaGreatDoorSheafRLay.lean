/- Contract of Lay of the document's answer (errandref05). -/
import Derived.Test.YtkglolnghihegaaGreatDoorSheafLay
import Derived.Deep.RegionHeld3
import Derived.Deep.RegionLaw
import Derived.Deep.DeepCutAuto
namespace Go.Proofs.YtkglolnghihegaaGreatDoor.Shf
open Go.RowKit Go.Proofs.YtkglolnghihegaaGreatDoor.Oct Go.Proofs.YtkglolnghihegaaGreatDoor.Crc
open Go.Proofs.YtkglolnghihegaaGreatDoor.Dsk (RV SV SV_length SV_append SV_one Blk info9 append_rv base_of_own)

theorem step_append_run {P : Program} {w : World} {ops : Array Oper} {o : Oper} {a : Act} {K : Act → World → Prop} {Q : Exit → Act → World → Prop} {E : Prop} (hgd : o.guard = none) (d s : Operand) (dT sT : TypeId)
    (ho : o.op = .call { callee := .builtin .append, args := #[d, s], argTypes := #[dT, sT] }) (vd vs : Value) (hd : a.eval d = vd) (hs : a.eval s = vs) (v' : Value) (w' : World)
    (hrun : (Builtin.append_ #[dT, sT] o.type #[vd, vs]).run P w = .ok v' w') (h : K (a.put o.dst v') w') :
    if Region.wanted o (yielded ops a.tmps) = true then Oper.wp P o a w K Q else E := by
  have hw : Region.wanted o (yielded ops a.tmps) = true := by simp [Region.wanted, hgd]
  rw [if_pos hw]
  unfold Oper.wp
  simp [execOp, ho, resolve, invoke, builtin, hd, hs, hrun, Result.andThen]
  exact h

theorem row_one (w : World) (k : Nat) (hk : k < 256) : Row (w.alloc (.cells #[.int .u8 k] 5)) w.heap.size (beB 1 k) := by
  unfold Row
  have e : (bv (beB 1 k)).toArray = #[Value.int .u8 k] := by
    have : (UInt8.ofNat k).toNat = k := by rw [UInt8.toNat_ofNat']; exact Nat.mod_eq_of_lt hk
    simp [bv, beB]
    omega
  rw [e]
  exact heap_alloc_new w _

theorem rput_one (w : World) (k g : Nat) (hk : k < 256) (hg : g < 281474976710656) :
    Calls Tryz.prog 140 #[.slice (some ⟨w.heap.size, 0, none⟩) 1 1, .int .i64 6, .int .i64 g] (w.alloc (.cells #[.int .u8 k] 5)) (RetL (w.alloc (.cells #[.int .u8 k] 5)) (beB 1 k ++ beB 6 g)) := by
  have h := (row_one w k hk).reads
  rw [beB_length] at h
  exact rput_l _ 1 1 (beB 1 k) 6 g _ h (by omega) (by omega) (by omega) hg (by omega)
theorem rput_one2 (w : World) (k g : Nat) (hk : k < 256) (hg : g < 281474976710656) :
    Calls Tryz.prog 140 #[.slice (some ⟨w.heap.size, 0, none⟩) 1 1, .int .i64 6, .int .i64 g] (w.alloc (.cells #[.int .u8 k] 5)).drew (RetL (w.alloc (.cells #[.int .u8 k] 5)).drew (beB 1 k ++ beB 6 g)) :=
  rput_one w.drew k g hk hg

theorem own_weak {w : World} {B B' : Nat} {v : Value} {l : List UInt8} (h : OwnB w B v l) (hb : B' ≤ B) : OwnB w B' v l := by
  refine ⟨h.1, ?_⟩
  rcases h.2 with h2 | ⟨g, cap, cur, e, hB, h3⟩
  · exact .inl h2
  · exact .inr ⟨g, cap, cur, e, Nat.le_trans hb hB, h3⟩

/-- What is kept in the loop: what lay before it, and the bodies so far. -/
structure InvR (a wr : World) (F : Nat → ByteArray) (j : Nat) (v : Value) : Prop where
  bel : Below a.heap.size a wr
  own : wr.ownsRow a.heap.size 9 1 v j (SV ((List.range j).map F))
theorem own_below {w w' : World} {B : Nat} {e k n : Nat} {v : Value} {xs : List Value} (h : w.ownsRow B e k v n xs) (hb : Below w.heap.size w w') : w'.ownsRow B e k v n xs :=
  h.kept (row := none) ⟨hb.os, hb.tape, hb.output, hb.size, fun j hj _ => hb.block j hj⟩ (by cases v.ownBlock <;> simp)
theorem InvR.call {a wr w' : World} {F : Nat → ByteArray} {j : Nat} {v : Value} (h : InvR a wr F j v) (hb : Below wr.heap.size wr w') : InvR a w' F j v := ⟨h.bel.call hb, own_below h.own hb⟩
theorem InvR.val {a wr : World} {F : Nat → ByteArray} {j : Nat} {v : Value} (h : InvR a wr F j v) : ∃ ad c, v = .slice ad j c ∧ j ≤ c := by
  rcases h.own.2 with ⟨rfl, h0⟩ | ⟨g, cap, cur, rfl, _⟩
  · exact ⟨none, 0, by rw [h0], by omega⟩
  · rename_i hnc
    exact ⟨_, _, rfl, hnc.2.2.1⟩
theorem InvR.rv {a wr : World} {F : Nat → ByteArray} {j c : Nat} {ad : Option Addr} (h : InvR a wr F j (.slice ad j c)) : RV wr ad j 1 (SV ((List.range j).map F)) := RV.of_own h.own

/-- An append of one more body. -/
theorem InvR.more {a wr : World} {F : Nat → ByteArray} {j : Nat} {v : Value} (h : InvR a wr F j v) (hj : (j : Int) ≤ 1000) {s : ByteArray} (hs : F j = s) :
    ∃ v' w', (Builtin.append_ #[22, 22] 22 #[v, .slice (some ⟨wr.heap.size, 0, none⟩) 1 1]).run Tryz.prog (wr.alloc (.cells #[.string s] 9)).drew = .ok v' w' ∧ InvR a w' F (j + 1) v' := by
  subst hs
  have hb5 : Below wr.heap.size wr (wr.alloc (.cells #[.string (F j)] 9)) := (Below.refl _ _).push _
  obtain ⟨v', w', hap, hown, hgr, -⟩ := append_rv (P := Tryz.prog) (w := (wr.alloc (.cells #[.string (F j)] 9)).drew) (ty := 22) Tryz.underlying22 info9 rfl (by omega) (own_below h.own hb5.drew) 1 ((Blk.new wr 9 #[.string (F j)]).rv (n := 1) (k := 1) (vs := SV [F j]) rfl) (SV_one _) (by omega) (by omega) (by have h1 := h.bel.size; have h2 := hb5.size; exact Nat.le_trans h1 h2)
  refine ⟨v', w', hap, (h.bel.push (.cells #[.string (F j)] 9)).drew.grown hgr (by have h1 := h.bel.size; have h2 := hb5.size; exact Nat.le_trans h1 h2) (base_of_own h.own), ?_⟩
  rw [List.range_succ, List.map_append, SV_append]
  exact hown

set_option maxHeartbeats 1000000 in
theorem rlay_any (k : Nat) (g n : Int) (t : ByteArray) (w : World) (hk : k < 256) :
    Calls Tryz.prog 117 #[HV k g n, .string t] w (RetLay k g n t w) := by
  have HM := Lib.hid (fun W => fine_any k g n W)
  by_cases hf : fineH g n = true
  · rw [hf] at HM
    obtain ⟨h1, h2, h3, h4⟩ := fine_nat hf
    by_cases hl : (t.size : Int) ≤ 16000
    · have HE : Hid (errL g n t = 0) := Lib.hid (by unfold errL; rw [if_pos hf, if_pos hl])
      obtain ⟨g, rfl⟩ := Int.eq_ofNat_of_zero_le (show 0 ≤ g by omega)
      obtain ⟨n, rfl⟩ := Int.eq_ofNat_of_zero_le h3
      have hd : decide ((16000 : Int) < t.size) = false := decide_eq_false (by omega)
      have hn : (t.size : Int) + 8 ≤ cntN t.size * 37 := by unfold cntN; omega
      have hn2 : (cntN t.size : Int) ≤ 500 := by unfold cntN; omega
      have HLD := Lib.hid (fun W => rload_any t W hl)
      have hLs : (loadT t).size = cntN t.size * 37 := by unfold loadT; rw [size_mk]; exact loadB_len _ _ (by simp; omega)
      have HLS : Hid (layS k g n t = (List.range (cntN t.size)).map (bodyAt k g n (cntN t.size) (loadT t))) := Lib.hid (by unfold layS; rw [HE.out, if_pos rfl]; rfl)
      rw [show (⟨(loadB t.data.toList (cntN t.size)).toArray⟩ : ByteArray) = loadT t from rfl] at HLD
      generalize cntN t.size = N at *
      generalize loadT t = L at *
      have HLs := Lib.hid hLs
      have hq : (L.size : Int) / 37 = N := by omega
      have HN2 := Lib.hid hn2
      have hL0 : (0 : Int) ≤ L.size := by omega
      have P1 := Lib.hid (fun W => rput_one W k g hk (by omega))
      have P1d := Lib.hid (fun W => rput_one2 W k g hk (by omega))
      have P2 : Hid (∀ W B v, OwnB W B v (beB 1 k ++ beB 6 g) → Calls Tryz.prog 140 #[v, .int .i64 4, .int .i64 n] W (RetL W (beB 1 k ++ beB 6 g ++ beB 4 n))) := Lib.hid (fun W B v h => rput_own h (by simp [beB_length]) 4 n (by omega) (by omega) (by omega) (by omega))
      have P3 : Hid (∀ W B v (j : Nat), (j : Int) ≤ 500 → OwnB W B v (beB 1 k ++ beB 6 g ++ beB 4 n) → Calls Tryz.prog 140 #[v, .int .i64 2, .int .i64 j] W (RetL W (beB 1 k ++ beB 6 g ++ beB 4 n ++ beB 2 j))) := Lib.hid (fun W B v j hj h => rput_own h (by simp [beB_length]) 2 j (by omega) (by omega) (by omega) (by omega))
      have P4 : Hid (∀ W B v (j : Nat), OwnB W B v (beB 1 k ++ beB 6 g ++ beB 4 n ++ beB 2 j) → Calls Tryz.prog 140 #[v, .int .i64 2, .int .i64 N] W (RetL W (beB 1 k ++ beB 6 g ++ beB 4 n ++ beB 2 j ++ beB 2 N))) := Lib.hid (fun W B v j h => rput_own h (by simp [beB_length]) 2 N (by omega) (by omega) (by omega) (by omega))
      clear hf hk h1 h2 h3 h4 hl hn hLs
      go_enter Tryz.func117, Tryz.ntmps117
      go_wp2_with fail
      with_reducible refine (HM.out _).mono ?_
      rintro r w1 ⟨rfl, b1⟩
      have X1 := (Box.new w (.int .u8 k) (.int .i64 g) (.int .i64 n) 139).below b1 (by simp)
      have HB1 := Lib.hid (((Below.refl _ w).push _).call b1)
      clear b1 HM
      go_wp2_with fail
      with_reducible refine (HLD.out _).mono ?_
      rintro r w2 ⟨rfl, b2⟩
      have X2 := X1.below b2 (cell_lt X1.c0)
      have hz0 := cell_lt X2.c0
      simp only at hz0
      have HB2 := Lib.hid (HB1.out.call b2)
      have HX2 := Lib.hid X2
      have HI : Hid (InvR w2 w2 (bodyAt k g n N L) 0 (.slice none 0 0)) := Lib.hid ⟨Below.refl _ _, World.ownsRow_nil _ _ _ _⟩
      clear X1 X2 b2 HB1 HLD
      go_wp2_with fail
      go_loopw [8, 9] (fun s8 s9 wr => ∃ j : Nat, j ≤ N ∧ s9 = .int .i64 j ∧ Hid (InvR w2 wr (bodyAt k g n N L) j s8)) (fun _ s9 _ => N - (intOf s9).toNat)
      case atStart => exact ⟨0, Nat.zero_le _, rfl, HI⟩
      case round =>
        obtain ⟨j, hj, rfl, HI⟩ := hrel
        obtain ⟨a0, a1, a2, -, -, -⟩ := HX2.out.below HI.out.bel hz0
        have hzr : w.heap.size < wr.heap.size := Nat.lt_of_lt_of_le hz0 HI.out.bel.size
        by_cases hlt : j < N
        · go_upto_region 11 with fail
          go_cut [10] (fun s10 wx => ∃ v, s10 = v ∧ Hid (OwnB wx wr.heap.size v (beB 1 k ++ beB 6 g ++ beB 4 n) ∧ Below wr.heap.size wr wx))
          case first =>
            have ne0 : ¬ wr.heap.size = w.heap.size := by omega
            go_region_held3 (fun W => W.cell? ⟨w.heap.size, 0, none⟩ = some (.int .u8 k) ∧ W.cell? ⟨w.heap.size, 1, none⟩ = some (.int .i64 g) ∧ W.cell? ⟨w.heap.size, 2, none⟩ = some (.int .i64 n)) (go_keep)
              (first
                | (go_at_call 140; (first | (with_reducible refine (P1.out _).mono ?_) | (with_reducible refine (P1d.out _).mono ?_)); rintro r w4 ⟨v4, rfl, hown4, hb4⟩; (first | (have B4 : Below wr.heap.size wr w4 := (((Below.refl _ wr).push _).call hb4)) | (have B4 : Below wr.heap.size wr w4 := (((Below.refl _ wr).push _).drew.call hb4))); have HO4 := Lib.hid hown4; have q0 : w4.cell? ⟨w.heap.size, 0, none⟩ = some (.int .u8 k) := (by rw [B4.cell (p := ⟨w.heap.size, 0, none⟩) hzr]; exact a0); have q1 : w4.cell? ⟨w.heap.size, 1, none⟩ = some (.int .i64 g) := (by rw [B4.cell (p := ⟨w.heap.size, 1, none⟩) hzr]; exact a1); have q2 : w4.cell? ⟨w.heap.size, 2, none⟩ = some (.int .i64 n) := (by rw [B4.cell (p := ⟨w.heap.size, 2, none⟩) hzr]; exact a2); clear hown4)
                | (go_at_call 140; ((with_reducible refine (P2.out _ _ _ HO4.out).mono ?_)); rintro r w5 ⟨v5, rfl, hown5, hb5⟩; have B5 : Below wr.heap.size wr w5 := B4.call hb5; have HO5 := Lib.hid hown5; have p0 : w5.cell? ⟨w.heap.size, 0, none⟩ = some (.int .u8 k) := (by rw [B5.cell (p := ⟨w.heap.size, 0, none⟩) hzr]; exact a0); have p1 : w5.cell? ⟨w.heap.size, 1, none⟩ = some (.int .i64 g) := (by rw [B5.cell (p := ⟨w.heap.size, 1, none⟩) hzr]; exact a1); have p2 : w5.cell? ⟨w.heap.size, 2, none⟩ = some (.int .i64 n) := (by rw [B5.cell (p := ⟨w.heap.size, 2, none⟩) hzr]; exact a2); clear hown5))
            go_wp2_with fail
            go_meet
            exact ⟨_, rfl, Lib.hid ⟨own_weak HO5.out (B4.size), B5⟩⟩
          case rest =>
            obtain ⟨v, rfl, hh⟩ := hcut
            have HO := Lib.hid hh.out.1
            have HB := Lib.hid hh.out.2
            have HI2 := Lib.hid (HI.out.call HB.out)
            have hjb : (j : Int) ≤ 500 := by omega
            clear hh HI a0 a1 a2
            go_wp2_with fail
            with_reducible refine (P3.out _ _ _ j hjb HO.out).mono ?_
            rintro r w6 ⟨v6, rfl, hown6, hb6⟩
            have HI6 := Lib.hid (HI2.out.call hb6)
            have HO6 := Lib.hid hown6
            clear hown6 hb6 HI2 HO HB
            go_wp2_with fail
            with_reducible refine (P4.out _ _ _ j HO6.out).mono ?_
            rintro r w7 ⟨v7, rfl, hown7, hb7⟩
            have HI7 := Lib.hid (HI6.out.call hb7)
            have hcv := conv_own (w := w7.drew) hown7
            clear hown7 hb7 HI6 HO6
            have hhi : ((j : Int) + 1) * 37 ≤ L.size := by have := HLs.out; omega
            have hlo : (j : Int) * 37 ≤ ((j : Int) + 1) * 37 := by omega
            have h0' : (0 : Int) ≤ (j : Int) * 37 := by omega
            have e1 : ((j : Int) * 37).toNat = j * 37 := by omega
            have e2 : (((j : Int) + 1) * 37).toNat = (j + 1) * 37 := by omega
            have hds : (L.extract (j * 37) ((j + 1) * 37)).size = 37 := by rw [ByteArray.size_extract]; omega
            have hbd : bodyAt k g n N L j = (⟨(beB 1 k ++ beB 6 g ++ beB 4 n ++ beB 2 j ++ beB 2 N).toArray⟩ : ByteArray) ++ L.extract (j * 37) ((j + 1) * 37) := by rw [app_str]; rfl
            have hXs : (⟨(beB 1 k ++ beB 6 g ++ beB 4 n ++ beB 2 j ++ beB 2 N).toArray⟩ : ByteArray).size = 15 := by rw [size_mk]; simp [beB_length]
            generalize (⟨(beB 1 k ++ beB 6 g ++ beB 4 n ++ beB 2 j ++ beB 2 N).toArray⟩ : ByteArray) = X at *
            obtain ⟨v', w', hap, hI⟩ := HI7.out.more (by omega) hbd
            have HAP := Lib.hid hap
            have HI8 := Lib.hid hI
            clear hap hI hbd HI7
            have k4 : (0 : Int) ≤ ((j : Int) + 1) * 37 := by omega
            have k5 : (j : Int) ≤ (j : Int) + 1 := by omega
            have k1 : IntKind.i64.wrap ((j : Int) * 37) = (j : Int) * 37 := IntWalk.i64_in _ (by omega)
            have k2 : IntKind.i64.wrap ((j : Int) + 1) = (j : Int) + 1 := IntWalk.i64_in _ (by omega)
            have k3 : IntKind.i64.wrap (((j : Int) + 1) * 37) = ((j : Int) + 1) * 37 := IntWalk.i64_in _ (by omega)
            go_wp2_with fail
            go_region_law (refine step_append_run rfl (.tmp 41) (.tmp 52) 22 22 rfl _ _ rfl rfl _ w' HAP.out ?_)
            all_goals
              clear k1 k2 k3 k4 k5 hhi hlo h0' e1 e2
              go_wp2
              go_roundw
              case rel => exact ⟨j + 1, by omega, by go_num, HI8.out⟩
              case measure => simp [intOf]; omega
        · obtain rfl : j = N := by omega
          obtain ⟨ad, c, rfl, hjc⟩ := HI.out.val
          have HJC := Lib.hid hjc
          clear hjc
          have HR := Lib.hid HI.out.rv
          have HBw := Lib.hid (HB2.out.call HI.out.bel)
          clear HLs HN2 a0 a1 a2 hz0 hzr
          go_wp2
          go_ret2
          refine ⟨ad, j, c, ?_, by rw [HLS.out]; exact HR.out, HBw.out, HJC.out⟩
          rw [HE.out]
          rfl
    · have HE : Hid (errL g n t = 5) := Lib.hid (by unfold errL; rw [if_pos hf, if_neg hl])
      have hd : decide ((16000 : Int) < t.size) = true := decide_eq_true (by omega)
      clear hf hk h1 h2 h3 h4 hl
      go_enter Tryz.func117, Tryz.ntmps117
      go_wp2_with fail
      with_reducible refine (HM.out _).mono ?_
      rintro r w1 ⟨rfl, b1⟩
      have HB1 := Lib.hid (((Below.refl _ w).push _).call b1)
      clear b1 HM
      go_wp2_with fail
      go_ret2
      exact RetLay.no HE.out (by decide) HB1.out
  · have HE : Hid (errL g n t = 8) := Lib.hid (by unfold errL; rw [if_neg hf])
    rw [show fineH g n = false by simpa using hf] at HM
    clear hf hk
    go_enter Tryz.func117, Tryz.ntmps117
    go_wp2_with fail
    with_reducible refine (HM.out _).mono ?_
    rintro r w1 ⟨rfl, b1⟩
    have HB1 := Lib.hid (((Below.refl _ w).push _).call b1)
    clear b1 HM
    go_wp2_with fail
    go_ret2
    exact RetLay.no HE.out (by decide) HB1.out

end Go.Proofs.YtkglolnghihegaaGreatDoor.Shf
