/- Contract of Lay of package sheaf. -/
import Derived.Test.YtkglolnghihegaaGreatDoorSheafLoad
import Derived.Test.YtkglolnghihegaaGreatDoorSheafRefL
import Derived.Test.YtkglolnghihegaaGreatDoorDskA
namespace Go.Proofs.YtkglolnghihegaaGreatDoor.Shf
open Go.RowKit Go.Proofs.YtkglolnghihegaaGreatDoor.Oct Go.Proofs.YtkglolnghihegaaGreatDoor.Crc
open Go.Proofs.YtkglolnghihegaaGreatDoor.Dsk (RV SV SV_length SV_append Blk info9)

/-- The body at a place of a load of N parts. -/
def bodyAt (k g n N : Nat) (L : ByteArray) (j : Nat) : ByteArray := ⟨(bodyB k g n j N (L.extract (j * 37) ((j + 1) * 37)).data.toList).toArray⟩
/-- The load of a text. -/
def loadT (t : ByteArray) : ByteArray := ⟨(loadB t.data.toList (cntN t.size)).toArray⟩
/-- The bodies of a text. -/
def bodiesT (k g n : Nat) (t : ByteArray) : List ByteArray := (List.range (cntN t.size)).map (bodyAt k g n (cntN t.size) (loadT t))
/-- The error of laying, and the bodies that are laid. -/
def errL (g n : Int) (t : ByteArray) : Int := if fineH g n = true then (if (t.size : Int) ≤ 16000 then 0 else 5) else 8
def layS (k : Nat) (g n : Int) (t : ByteArray) : List ByteArray := if errL g n t = 0 then bodiesT k g.toNat n.toNat t else []
def RetLay (k : Nat) (g n : Int) (t : ByteArray) (w : World) (r : Ending) (w' : World) : Prop :=
  ∃ A m c, r = .returned (.tuple #[.slice A m c, .int .i64 (errL g n t)]) ∧ RV w' A m 1 (SV (layS k g n t)) ∧ Below w.heap.size w w' ∧ m ≤ c

theorem RetLay.no {k : Nat} {g n e : Int} {t : ByteArray} {w w' : World} (he : errL g n t = e) (h0 : ¬ e = 0) (hb : Below w.heap.size w w') :
    RetLay k g n t w (.returned (.tuple #[.slice none 0 0, .int .i64 e])) w' := by
  subst he
  refine ⟨none, 0, 0, rfl, ?_, hb, Nat.le_refl _⟩
  unfold layS
  rw [if_neg h0]
  exact RV.nil _ _ _

theorem fine_nat {g n : Int} (h : fineH g n = true) : 1 ≤ g ∧ g ≤ 1099511627776 ∧ 0 ≤ n ∧ n ≤ 4294967295 := by
  unfold fineH at h
  simpa [and_assoc] using h

theorem loadB_len (l : List UInt8) (n : Nat) (h : l.length + 8 ≤ n * 37) : (loadB l n).length = n * 37 := by
  unfold loadB restB
  simp only [List.length_append, beB_length, List.length_replicate]
  omega

theorem set_step (F : Nat → ByteArray) (N j : Nat) (h : j < N) :
    (SV ((List.range j).map F) ++ List.replicate (N - j) (Value.string ⟨#[]⟩)).set j (Value.string (F j)) = SV ((List.range (j + 1)).map F) ++ List.replicate (N - (j + 1)) (.string ⟨#[]⟩) := by
  have hl : (SV ((List.range j).map F)).length = j := by rw [SV_length]; simp
  rw [List.set_append_right _ _ (by omega), hl, Nat.sub_self, show N - j = (N - (j + 1)) + 1 by omega, List.replicate_succ, List.set_cons_zero, List.range_succ, List.map_append, SV_append]
  simp [SV]

theorem makeT (n : Nat) (h : (n : Int) ≤ 2000) (w : World) : (Instr.makeSlice 22 (.int .i64 n) (.int .i64 n)).run Tryz.prog w = .ok (.slice (some ⟨w.heap.size, 0, none⟩) n n) (w.alloc (.cells (madeCells #[.string ByteArray.empty] n) 9)) :=
  run_make_row' (P := Tryz.prog) 22 9 (.string ByteArray.empty) 16 Tryz.underlying22 info9 rfl .i64 .i64 n (by omega) (by omega) w

theorem made_blk (w : World) (F : Nat → ByteArray) (n : Nat) : Blk (w.alloc (.cells (madeCells #[.string ByteArray.empty] n) 9)) w.heap.size 9 (SV ((List.range 0).map F) ++ List.replicate (n - 0) (.string ⟨#[]⟩)) := by
  have h := Blk.new w 9 (madeCells #[.string ByteArray.empty] n)
  rw [toList_madeCells_one] at h
  exact h

/-- What is kept in the loop. -/
structure InvL (a wr : World) (F : Nat → ByteArray) (N j : Nat) : Prop where
  bel : Below a.heap.size a wr
  blk : Blk wr a.heap.size 9 (SV ((List.range j).map F) ++ List.replicate (N - j) (.string ⟨#[]⟩))
theorem InvL.call {a wr w' : World} {F : Nat → ByteArray} {N j : Nat} (h : InvL a wr F N j) (hb : Below wr.heap.size wr w') : InvL a w' F N j := ⟨h.bel.call hb, h.blk.call hb⟩
theorem InvL.step {a wr : World} {F : Nat → ByteArray} {N j : Nat} (h : InvL a wr F N j) (hj : j < N) {s : ByteArray} (hs : F j = s) : InvL a (wr.setCell ⟨a.heap.size, j, none⟩ (.string s)) F N (j + 1) := by
  subst hs
  refine ⟨h.bel.setCell (Nat.le_refl _) _, ?_⟩
  have := h.blk.set_ j (.string (F j))
  rwa [set_step F N j hj] at this

theorem InvL.cell {a wr : World} {F : Nat → ByteArray} {N j : Nat} (h : InvL a wr F N j) (hj : j < N) : (∃ v, wr.cell? ⟨a.heap.size, j, none⟩ = some v) ∧ wr.frozen? ⟨a.heap.size, j, none⟩ = false :=
  ⟨⟨_, h.blk.cell (i := j) (by rw [List.length_append, SV_length, List.length_map, List.length_range, List.length_replicate]; omega)⟩, h.blk.frozen j⟩

theorem InvL.rv {a wr : World} {F : Nat → ByteArray} {N : Nat} (h : InvL a wr F N N) : RV wr (some ⟨a.heap.size, 0, none⟩) N 1 (SV ((List.range N).map F)) := by
  have := h.blk
  rw [Nat.sub_self, List.replicate_zero, List.append_nil] at this
  exact this.rv (by rw [SV_length]; simp)

set_option maxHeartbeats 1000000 in
theorem lay_any (k : Nat) (g n : Int) (t : ByteArray) (w : World) (hk : k < 256) (hT : Tab w) :
    Calls Tryz.prog 135 #[HV k g n, .string t] w (RetLay k g n t w) := by
  have HM := Lib.hid (fun W => mayBe_any k g n W)
  by_cases hf : fineH g n = true
  · rw [hf] at HM
    obtain ⟨h1, h2, h3, h4⟩ := fine_nat hf
    by_cases hl : (t.size : Int) ≤ 16000
    · have HE : Hid (errL g n t = 0) := Lib.hid (by unfold errL; rw [if_pos hf, if_pos hl])
      obtain ⟨g, rfl⟩ := Int.eq_ofNat_of_zero_le (show 0 ≤ g by omega)
      obtain ⟨n, rfl⟩ := Int.eq_ofNat_of_zero_le h3
      have hd : decide ((16000 : Int) < t.size) = false := decide_eq_false (by omega)
      have HC := Lib.hid (fun W => count_any t.size W)
      rw [cnt_eq _ hl] at HC
      have hn : (t.size : Int) + 8 ≤ cntN t.size * 37 := by unfold cntN; omega
      have hn2 : (cntN t.size : Int) ≤ 500 := by unfold cntN; omega
      have HLD := Lib.hid (fun W h => loaded_any t (cntN t.size) W hl hn hn2 h)
      have hLs : (loadT t).size = cntN t.size * 37 := by unfold loadT; rw [size_mk]; exact loadB_len _ _ (by simp; omega)
      have HB : Hid (∀ (j : Nat) (d : ByteArray) W, (j : Int) < cntN t.size → d.size = 37 → Calls Tryz.prog 159 #[PV k g n j (cntN t.size) d] W fun r w' => r = .returned (.string ⟨(bodyB k g n j (cntN t.size) d.data.toList).toArray⟩) ∧ Below W.heap.size W w') := Lib.hid (fun j d W hj hds => bodyOf_any k g n j (cntN t.size) d W hk (by omega) (by omega) (by omega) (by omega) (by omega))
      have HK := Lib.hid (fun W => makeT (cntN t.size) (by omega) W)
      have HLS : Hid (layS k g n t = (List.range (cntN t.size)).map (bodyAt k g n (cntN t.size) (loadT t))) := Lib.hid (by unfold layS; rw [HE.out, if_pos rfl]; rfl)
      rw [show (⟨(loadB t.data.toList (cntN t.size)).toArray⟩ : ByteArray) = loadT t from rfl] at HLD
      generalize cntN t.size = N at *
      generalize loadT t = L at *
      have HT := Lib.hid hT
      have HLs := Lib.hid hLs
      have HN2 := Lib.hid hn2
      clear hf hk h1 h2 h3 h4 hl hn hn2 hLs hT
      go_enter Tryz.func135, Tryz.ntmps135
      go_wp2_with fail
      with_reducible refine (HM.out _).mono ?_
      rintro r w1 ⟨rfl, b1⟩
      have X1 := (Box.new w (.int .u8 k) (.int .i64 g) (.int .i64 n) 132).below b1 (by simp)
      have HB1 := Lib.hid (((Below.refl _ w).push _).call b1)
      clear b1 HM
      go_wp2_with fail
      with_reducible refine (HC.out _).mono ?_
      rintro r w1' ⟨rfl, rfl⟩
      have hmk := HK.out w1
      have HI0 := Lib.hid (InvL.mk ((Below.refl w1.heap.size w1).push _) (made_blk w1 (bodyAt k g n N L) N))
      clear HC HK
      go_wp2_with fail
      have HT1 := Lib.hid (tab_call HT.out (HB1.out.push (.cells (madeCells #[.string ByteArray.empty] N) 9)))
      with_reducible refine (HLD.out _ HT1.out).mono ?_
      rintro r w2 ⟨rfl, b2⟩
      have HI := Lib.hid (HI0.out.call b2)
      have X2 := (X1.alloc (cell_lt X1.c0) (.cells (madeCells #[.string ByteArray.empty] N) 9)).below b2 (by have := cell_lt X1.c0; simp at this ⊢; omega)
      have hz0 := cell_lt X1.c0
      simp only at hz0
      have HX1 := Lib.hid X1
      clear HT HT1 HI0 HLD X1 X2 b2 hmk
      go_wp2_with fail
      go_loopw [26] (fun s26 wr => ∃ j : Nat, j ≤ N ∧ s26 = .int .i64 j ∧ Hid (InvL w1 wr (bodyAt k g n N L) N j)) (fun s26 _ => N - (intOf s26).toNat)
      case atStart => exact ⟨0, Nat.zero_le _, rfl, HI⟩
      case round =>
        obtain ⟨j, hj, rfl, HI⟩ := hrel
        obtain ⟨a0, a1, a2, -, -, -⟩ := HX1.out.below HI.out.bel hz0
        by_cases hlt : j < N
        · have hhi : ((j : Int) + 1) * 37 ≤ L.size := by have := HLs.out; omega
          have hlo : (j : Int) * 37 ≤ ((j : Int) + 1) * 37 := by omega
          have hjb : (j : Int) ≤ 500 := by have := HN2.out; omega
          have h0' : (0 : Int) ≤ (j : Int) * 37 := by omega
          have e1 : ((j : Int) * 37).toNat = j * 37 := by omega
          have e2 : (((j : Int) + 1) * 37).toNat = (j + 1) * 37 := by omega
          have hds : (L.extract (j * 37) ((j + 1) * 37)).size = 37 := by rw [ByteArray.size_extract]; omega
          have HBj := Lib.hid (HB.out j (L.extract (j * 37) ((j + 1) * 37)))
          have HDS := Lib.hid hds
          clear hds
          go_wp2_with fail
          with_reducible refine (HBj.out _ (by omega) HDS.out).mono ?_
          rintro r w3 ⟨rfl, b3⟩
          have HI3 := Lib.hid (HI.out.call b3)
          obtain ⟨⟨v, hv⟩, hfz⟩ := HI3.out.cell hlt
          have HI4 := Lib.hid (HI3.out.step hlt (s := ⟨(bodyB k g n j N (L.extract (j * 37) ((j + 1) * 37)).data.toList).toArray⟩) rfl)
          generalize (⟨(bodyB k g n j N (L.extract (j * 37) ((j + 1) * 37)).data.toList).toArray⟩ : ByteArray) = bd at *
          clear HBj HDS hhi hlo h0' e1 e2 b3 HI HI3
          go_wp2
          go_roundw
          case rel => exact ⟨j + 1, by omega, by go_num, HI4.out⟩
          case measure => simp [intOf]; omega
        · obtain rfl : j = N := by omega
          have HR := Lib.hid HI.out.rv
          have HBw := Lib.hid (HB1.out.call HI.out.bel)
          clear HLs HN2 HB a0 a1 a2 hz0
          go_wp2
          go_ret2
          refine ⟨some ⟨w1.heap.size, 0, none⟩, j, j, ?_, by rw [HLS.out]; exact HR.out, HBw.out, Nat.le_refl _⟩
          rw [HE.out]
          rfl
    · have HE : Hid (errL g n t = 5) := Lib.hid (by unfold errL; rw [if_pos hf, if_neg hl])
      have hd : decide ((16000 : Int) < t.size) = true := decide_eq_true (by omega)
      clear hf hk h1 h2 h3 h4 hl hT
      go_enter Tryz.func135, Tryz.ntmps135
      go_wp2_with fail
      with_reducible refine (HM.out _).mono ?_
      rintro r w1 ⟨rfl, b1⟩
      have HB1 := Lib.hid (((Below.refl _ w).push _).call b1)
      clear b1 HM
      go_wp2_with fail
      go_ret2
      exact RetLay.no HE.out (by decide) HB1.out
  · have HE : Hid (errL g n t = 8) := Lib.hid (by unfold errL; rw [if_neg hf])
    rw [show fineH g n = false by simpa using hf] at HM
    clear hf hk hT
    go_enter Tryz.func135, Tryz.ntmps135
    go_wp2_with fail
    with_reducible refine (HM.out _).mono ?_
    rintro r w1 ⟨rfl, b1⟩
    have HB1 := Lib.hid (((Below.refl _ w).push _).call b1)
    clear b1 HM
    go_wp2_with fail
    go_ret2
    exact RetLay.no HE.out (by decide) HB1.out

end Go.Proofs.YtkglolnghihegaaGreatDoor.Shf
