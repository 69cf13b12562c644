/- Contracts of Flush of package disk. -/
import Derived.Test.YtaafkkmcpedeaaaDiskGoes
namespace Go.Proofs.Ytaafkkmcpedeaaa.Dsk
open Go.RowKit

/-- What is kept while writes go: the device and the answer's cells, the variable that the function keeps, and the row of sectors. -/
structure Kept (w : World) (x y z : Value) (bx g n cap : Nat) (T : List ByteArray) (wr : World) : Prop where
  bel : Below w.heap.size w wr
  st : Box wr w.heap.size x y z
  res : Box wr (w.heap.size + 1) (.slice none 0 0) (.slice none 0 0) (.int .i64 0)
  bxc : wr.cell? ⟨bx, 0, none⟩ = some (.slice (some ⟨g, 0, none⟩) n cap)
  own : wr.ownsRow (w.heap.size + 2) 9 1 (.slice (some ⟨g, 0, none⟩) n cap) n (SV T)
  hbx : w.heap.size + 2 ≤ bx
  ne : g ≠ bx
theorem own_base {w : World} {base base' e k n : Nat} {v : Value} {xs : List Value} (h : w.ownsRow base e k v n xs) (hb : base' ≤ base) : w.ownsRow base' e k v n xs := by
  refine ⟨h.1, ?_⟩
  rcases h.2 with h | ⟨g, cap, cur, x1, x2, x3⟩
  · exact .inl h
  · exact .inr ⟨g, cap, cur, x1, by omega, x3⟩
theorem Kept.base {w : World} {x y z : Value} {bx g n cap : Nat} {T : List ByteArray} {wr : World} (h : Kept w x y z bx g n cap T wr) : w.heap.size + 2 ≤ g := base_of_own h.own g rfl
theorem Kept.push {w : World} {x y z : Value} {bx g n cap : Nat} {T : List ByteArray} {wr : World} (h : Kept w x y z bx g n cap T wr) (o : Obj) : Kept w x y z bx g n cap T (wr.alloc o) :=
  ⟨h.bel.push o, h.st.alloc o, h.res.alloc o, ((new1 wr o).cell (p := ⟨bx, 0, none⟩) (cell_lt h.bxc)).trans h.bxc, h.own.alloc o, h.hbx, h.ne⟩
theorem Kept.drew {w : World} {x y z : Value} {bx g n cap : Nat} {T : List ByteArray} {wr : World} (h : Kept w x y z bx g n cap T wr) : Kept w x y z bx g n cap T wr.drew :=
  ⟨h.bel.drew, h.st.drew, h.res.drew, h.bxc, h.own, h.hbx, h.ne⟩
theorem Kept.goes {w : World} {x y z : Value} {bx g n cap : Nat} {T T' : List ByteArray} {wr w' : World} (h : Kept w x y z bx g n cap T wr) (ho : w'.ownsRow (w.heap.size + 2) 9 1 (.slice (some ⟨g, 0, none⟩) n cap) n (SV T')) (hg : wr.grownBy w' (some g)) : Kept w x y z bx g n cap T' w' := by
  have hb := h.base
  refine ⟨h.bel.grown hg h.bel.size (fun k hk => by injection hk with hk; omega), h.st.of_block (hg.block _ h.st.lt (by simp; omega)), h.res.of_block (hg.block _ h.res.lt (by simp; omega)), ?_, ho, h.hbx, h.ne⟩
  exact (World.cell?_of_block (a := ⟨bx, 0, none⟩) (hg.block bx (cell_lt h.bxc) (by simp; exact fun e => h.ne e.symm))).trans h.bxc
theorem Kept.bcall {w : World} {x y z : Value} {bx g n cap : Nat} {T : List ByteArray} {wr w' : World} (h : Kept w x y z bx g n cap T wr) (hb : Below wr.heap.size wr w') : Kept w x y z bx g n cap T w' :=
  ⟨h.bel.call hb, h.st.call hb, h.res.call hb, (hb.cell (p := ⟨bx, 0, none⟩) (cell_lt h.bxc)).trans h.bxc, h.own.kept ⟨hb.os, hb.tape, hb.output, hb.size, fun k hk _ => hb.block k hk⟩ (row := none) (.inr (by simp [Value.ownBlock])), h.hbx, h.ne⟩

theorem flush2 (A : Option Addr) (n c : Nat) (A' : Option Addr) (m c' : Nat) (f : Int) (S : List ByteArray) (W : List Wr) (w : World) (hD : Dev w A n c A' m c' f S W) (h : ¬ chk S W f = 0) :
    Calls Try.prog 19 #[DV A n c A' m c' f] w (RetDE w S W f 2) := by
  have HC := Lib.hid (check_any A n c A' m c' f S W _ ((hD.new (D33 A n c A' m c' f)).new (D33 none 0 0 none 0 0 0)))
  have HD := Lib.hid hD
  have hne := neq0 h
  generalize chk S W f = e0 at *
  clear hD h
  go_enter Try.func19, Try.ntmps19
  go_wp2_with fail
  refine HC.out.mono ?_
  rintro e w1 ⟨rfl, hb1⟩
  have HB := Lib.hid (((new1 w _).push _).call hb1)
  obtain ⟨hc, hf⟩ := bcell hb1
  clear hb1
  go_wp2
  have HB3 := ((HB.out.setCell (p := ⟨w.heap.size + 1, 0, none⟩) (by simp) (.slice A n c)).setCell (p := ⟨w.heap.size + 1, 1, none⟩) (by simp) (.slice A' m c')).setCell (p := ⟨w.heap.size + 1, 2, none⟩) (by simp) (.int .i64 f)
  exact bodyPost_ret (v := .tuple #[DV A n c A' m c' f, .int .i64 2]) (by simp [results, Try.results19, go_sem, hc]) rfl ⟨A, n, c, A', m, c', rfl, HD.out.below HB3, HB3⟩

theorem flush21 (A : Option Addr) (n c : Nat) (A' : Option Addr) (m c' : Nat) (S : List ByteArray) (W : List Wr) (w : World) (hD : Dev w A n c A' m c' 0 S W) (h : chk S W 0 = 0) :
    Calls Try.prog 19 #[DV A n c A' m c' 0] w (RetDE w S W 0 21) := by
  have hc := check_any A n c A' m c' 0 S W _ ((hD.new (D33 A n c A' m c' 0)).new (D33 none 0 0 none 0 0 0))
  rw [h] at hc
  have HC := Lib.hid hc
  have HD := Lib.hid hD
  clear hD h hc
  go_enter Try.func19, Try.ntmps19
  go_wp2_with fail
  refine HC.out.mono ?_
  rintro e w1 ⟨rfl, hb1⟩
  have HB := Lib.hid (((new1 w _).push _).call hb1)
  obtain ⟨hc, hf⟩ := bcell hb1
  clear hb1
  go_wp2
  have HB3 := ((HB.out.setCell (p := ⟨w.heap.size + 1, 0, none⟩) (by simp) (.slice A n c)).setCell (p := ⟨w.heap.size + 1, 1, none⟩) (by simp) (.slice A' m c')).setCell (p := ⟨w.heap.size + 1, 2, none⟩) (by simp) (.int .i64 0)
  exact bodyPost_ret (v := .tuple #[DV A n c A' m c' 0, .int .i64 21]) (by simp [results, Try.results19, go_sem, hc]) rfl ⟨A, n, c, A', m, c', rfl, HD.out.below HB3, HB3⟩

set_option maxRecDepth 100000 in
set_option maxHeartbeats 1000000 in
theorem flush0 (A : Option Addr) (n c : Nat) (A' : Option Addr) (m c' : Nat) (f : Int) (S : List ByteArray) (W : List Wr) (w : World) (hD : Dev w A n c A' m c' f S W) (h : chk S W f = 0) (hf0 : ¬ f = 0) :
    Calls Try.prog 19 #[DV A n c A' m c' f] w (RetDE w (goAll S W fun _ => 64) [] (burnt f) 0) := by
  have hc := check_any A n c A' m c' f S W _ ((hD.new (D33 A n c A' m c' f)).new (D33 none 0 0 none 0 0 0))
  rw [h] at hc
  have HC := Lib.hid hc
  obtain ⟨⟨hn1, hn2, -⟩, hso, hm1, hwo⟩ := chk_ok h
  have HD := Lib.hid hD
  have HS := Lib.hid hD.sec.sec
  have HW := Lib.hid hD.wr.wr
  have HOK := Lib.hid (fun k => goAll_ok (c := fun _ => 64) hso hwo (fun _ => Nat.le_refl _) k)
  have HWO := Lib.hid hwo
  have hm : (m : Int) ≤ 1024 := by have := hD.wr.wr; omega
  have hn : 16 ≤ n ∧ n ≤ 512 := by have := hD.sec.sec; omega
  have HN := Lib.hid hn
  have hfb : (f == 0) = false := by simpa using hf0
  clear hD h hc hn hn1 hn2 hso hm1 hwo hf0
  go_enter Try.func19, Try.ntmps19
  go_wp2_with fail
  refine HC.out.mono ?_
  rintro e w1 ⟨rfl, hb1⟩
  have HB := Lib.hid (((new1 w _).push _).call hb1)
  have HX := Lib.hid (((Box.new w (.slice A n c) (.slice A' m c') (.int .i64 f) 42).alloc (D33 none 0 0 none 0 0 0)).call hb1)
  have HY := Lib.hid (by have := (Box.new (w.alloc (D33 A n c A' m c' f)) (.slice none 0 0) (.slice none 0 0) (.int .i64 0) 42).call hb1; rwa [World.size_alloc] at this)
  have hzz : w.heap.size + 1 < w1.heap.size := HY.out.lt
  obtain ⟨c0, c1, c2, f0, f1, f2⟩ := HX.out
  clear hb1
  go_wp2_with fail
  refine (clone_any A n c S _ (HD.out.sec.below HB.out) (by have := HN.out; omega)).mono ?_
  rintro e w2 ⟨v, rfl, hown, hb2⟩
  obtain ⟨g, cap, rfl⟩ : ∃ g cap, v = .slice (some ⟨g, 0, none⟩) n cap := by
    rcases hown.2 with ⟨rfl, h0⟩ | ⟨g, cap, cur, rfl, _⟩
    · have := HN.out; omega
    · exact ⟨g, cap, rfl⟩
  clear c0 c1 c2 f0 f1 f2
  go_wp2_with fail
  refine (goes_any _ _ _ _).mono ?_
  rintro e w3 ⟨rfl, rfl⟩
  have hK : Kept w (.slice A n c) (.slice A' m c') (.int .i64 f) w2.heap.size g n cap S (w2.alloc (.cells #[.slice (some ⟨g, 0, none⟩) n cap] 39)) :=
    ⟨(HB.out.call hb2).push _, (HX.out.call hb2).alloc _, (HY.out.call hb2).alloc _, by simp [go_sem], (own_base hown (by omega)).alloc _, by have := hb2.size; omega, by have := (hown.lt g rfl).2; omega⟩
  have HK := Lib.hid hK
  obtain ⟨c0, c1, c2, f0, f1, f2⟩ := hK.st
  clear hK hown hb2
  generalize (w2.alloc (.cells #[.slice (some ⟨g, 0, none⟩) n cap] 39)) = w3 at *
  go_wp2_with fail
  clear c0 c1 c2 f0 f1 f2
  go_loopw [24] (fun i wr => ∃ k : Nat, k ≤ m ∧ i = .int .i64 k ∧ Hid (Kept w (.slice A n c) (.slice A' m c') (.int .i64 f) w2.heap.size g n cap (goAll S (W.take k) fun _ => 64) wr)) (fun i _ => m - (intOf i).toNat)
  case atStart => exact ⟨0, Nat.zero_le _, rfl, HK.out⟩
  case round =>
    obtain ⟨k, hk, rfl, HK2⟩ := hrel
    by_cases hlt : k < m
    · have hl : k < W.length := by have := HW.out; omega
      obtain ⟨b, off, rfl, hb, hc0, hc1⟩ := (HD.out.wr.below HK2.out.bel).wrAt hlt hl
      have HT := Lib.hid (goAll_take S W k hl (fun _ => 64))
      have hx := (wrOk_iff _ _).1 (List.all_eq_true.1 HWO.out _ (List.getElem_mem hl))
      generalize W[k] = x at *
      obtain ⟨p, s⟩ := x
      dsimp only at hc0 hc1 hx
      obtain ⟨p, rfl⟩ := Int.eq_ofNat_of_zero_le hx.1
      have HP := Lib.hid (show p < n by have := HS.out; omega)
      have HSZ := Lib.hid hx.2.2
      clear hx hl
      go_wp2_with fail
      refine (let_any w2.heap.size g n cap _ _ p 64 s _ (HK2.out.push _).bxc (HK2.out.push _).own HP.out HSZ.out (HOK.out k).1 (Nat.le_refl _)).mono ?_
      rintro e w4 ⟨rfl, ho4, hg4⟩
      have HK3 := Lib.hid ((HK2.out.push _).goes ho4 hg4)
      clear ho4 hg4
      go_wp2
      go_roundw
      case rel => exact ⟨k + 1, by omega, by go_num, by rw [HT.out]; exact HK3.out⟩
      case measure => simp [intOf]; omega
    · have hk2 : W.take k = W := List.take_of_length_le (by have := HW.out; omega)
      rw [hk2] at HK2
      have HE := Lib.hid (by have := HOK.out k; rwa [hk2] at this)
      clear hk2
      obtain ⟨c0, c1, c2, f0, f1, f2⟩ := HK2.out.st
      obtain ⟨d0, d1, d2, e0, e1, e2⟩ := HK2.out.res
      have hgb := HK2.out.base
      have HU := Lib.hid (fun W => burnt_any f W HD.out.lo HD.out.hi)
      go_wp2_with (go_at_call 32; ((with_reducible refine (HU.out _).mono ?_)); rintro r w5 ⟨rfl, rfl⟩)
      have HB5 := ((HK2.out.bel.setCell (p := ⟨w.heap.size + 1, 0, none⟩) (by simp) (.slice (some ⟨g, 0, none⟩) n cap)).setCell (p := ⟨w.heap.size + 1, 1, none⟩) (by simp) (.slice none 0 0)).setCell (p := ⟨w.heap.size + 1, 2, none⟩) (by simp) (.int .i64 (burnt f))
      have O5 := ownsRow_setCell_below (ownsRow_setCell_below (ownsRow_setCell_below HK2.out.own (a := ⟨w.heap.size + 1, 0, none⟩) (by simp) (.slice (some ⟨g, 0, none⟩) n cap)) (a := ⟨w.heap.size + 1, 1, none⟩) (by simp) (.slice none 0 0)) (a := ⟨w.heap.size + 1, 2, none⟩) (by simp) (.int .i64 (burnt f))
      exact bodyPost_ret (v := .tuple #[DV (some ⟨g, 0, none⟩) n cap none 0 0 (burnt f), .int .i64 0]) (by simp [results, Try.results19, go_sem, *]) rfl ⟨_, n, cap, none, 0, 0, rfl, ⟨RV.of_own O5, RV.nil _ _ _, burnt_lo HD.out.lo, burnt_hi HD.out.hi, by rw [HE.out.2]; exact HD.out.ns, by simp⟩, HB5⟩

theorem flush_any (A : Option Addr) (n c : Nat) (A' : Option Addr) (m c' : Nat) (f : Int) (S : List ByteArray) (W : List Wr) (w : World) (hD : Dev w A n c A' m c' f S W) :
    Calls Try.prog 19 #[DV A n c A' m c' f] w (RetDE w (if flushE S W f = 0 then goAll S W (fun _ => 64) else S) (if flushE S W f = 0 then [] else W) (if flushE S W f = 0 then burnt f else f) (flushE S W f)) := by
  by_cases h : chk S W f = 0
  · by_cases hf : f = 0
    · have e : flushE S W f = 21 := by unfold flushE; rw [if_pos h, if_pos hf]
      rw [e]
      subst hf
      exact flush21 A n c A' m c' S W w hD h
    · have e : flushE S W f = 0 := by unfold flushE; rw [if_pos h, if_neg hf]
      rw [e]
      exact flush0 A n c A' m c' f S W w hD h hf
  · have e : flushE S W f = 2 := by unfold flushE; rw [if_neg h]
    rw [e]
    exact flush2 A n c A' m c' f S W w hD h

end Go.Proofs.Ytaafkkmcpedeaaa.Dsk
