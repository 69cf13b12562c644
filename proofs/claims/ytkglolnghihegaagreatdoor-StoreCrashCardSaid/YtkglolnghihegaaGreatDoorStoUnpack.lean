/- Contract of unpack. -/
import Derived.Test.YtkglolnghihegaaGreatDoorStoPack
import Derived.Test.YtkglolnghihegaaGreatDoorDskB
namespace Go.Proofs.YtkglolnghihegaaGreatDoor.Sto
open Go.RowKit Go.Proofs.YtkglolnghihegaaGreatDoor.Dsk Go.Proofs.YtkglolnghihegaaGreatDoor.Shf Go.Proofs.YtkglolnghihegaaGreatDoor.Slt
open Go.Proofs.YtkglolnghihegaaGreatDoor.Oct (CV leftR takeR)

theorem unL_go {s : ByteArray} {r : Nat} {p e : Int} (h : 0 < leftR s p e) : unL s (r + 1) p e = (takeR s p e).2.2 :: unL s r (takeR s p e).1 (takeR s p e).2.1 := if_pos h
theorem unL_stop {s : ByteArray} {r : Nat} {p e : Int} (h : ¬ 0 < leftR s p e) : unL s r p e = [] := by
  cases r with
  | zero => rfl
  | succ r => exact if_neg h
theorem own_val {w : World} {B n : Nat} {v : Value} {xs : List Value} (h : w.ownsRow B 9 1 v n xs) : ∃ ad c, v = .slice ad n c := by
  rcases h.2 with ⟨rfl, h0⟩ | ⟨g, cap, cur, rfl, _⟩
  · exact ⟨none, 0, by rw [h0]⟩
  · exact ⟨_, _, rfl⟩

/-- What holds ahead of each round: the texts so far, and the cursor. -/
structure UnI (w wr : World) (b : Nat) (s : ByteArray) (p e : Int) (L : List ByteArray) (v : Value) : Prop where
  bel : Below w.heap.size w wr
  new : w.heap.size ≤ b
  lt : b < wr.heap.size
  box : Box wr b (.string s) (.int .i64 p) (.int .i64 e)
  own : wr.ownsRow (b + 1) 9 1 v L.length (SV L)
theorem UnI.call {w wr w' : World} {b : Nat} {s : ByteArray} {p e : Int} {L : List ByteArray} {v : Value} (h : UnI w wr b s p e L v) (hb : Below wr.heap.size wr w') : UnI w w' b s p e L v :=
  ⟨h.bel.call hb, h.new, Nat.lt_of_lt_of_le h.lt hb.size, h.box.of_block (hb.block b h.lt), own_below_ h.own hb⟩
/-- The cursor goes on, and a text more. -/
theorem UnI.step {w wr : World} {b : Nat} {s : ByteArray} {p e : Int} {L : List ByteArray} {v : Value} (h : UnI w wr b s p e L v) (hL : L.length ≤ 1000) (p' e' : Int) (t : ByteArray) :
    ∃ ad c w', (Builtin.append_ #[22, 22] 22 #[v, .slice (some ⟨wr.heap.size, 0, none⟩) 1 1]).run Tryz.prog ((((wr.setCell ⟨b, 0, none⟩ (.string s)).setCell ⟨b, 1, none⟩ (.int .i64 p')).setCell ⟨b, 2, none⟩ (.int .i64 e')).alloc (.cells #[.string t] 9)) = .ok (.slice ad (L.length + 1) c) w' ∧
      UnI w w' b s p' e' (L ++ [t]) (.slice ad (L.length + 1) c) := by
  have hsz : (((wr.setCell ⟨b, 0, none⟩ (.string s)).setCell ⟨b, 1, none⟩ (.int .i64 p')).setCell ⟨b, 2, none⟩ (.int .i64 e')).heap.size = wr.heap.size := by simp
  have hbel : Below w.heap.size w (((wr.setCell ⟨b, 0, none⟩ (.string s)).setCell ⟨b, 1, none⟩ (.int .i64 p')).setCell ⟨b, 2, none⟩ (.int .i64 e')) :=
    ((h.bel.setCell (p := ⟨b, 0, none⟩) h.new _).setCell (p := ⟨b, 1, none⟩) h.new _).setCell (p := ⟨b, 2, none⟩) h.new _
  have hbox := h.box.set3 (.string s) (.int .i64 p') (.int .i64 e')
  have hown := ownsRow_setCell_below (ownsRow_setCell_below (ownsRow_setCell_below h.own (a := ⟨b, 0, none⟩) (Nat.lt_succ_self b) (.string s)) (a := ⟨b, 1, none⟩) (Nat.lt_succ_self b) (.int .i64 p')) (a := ⟨b, 2, none⟩) (Nat.lt_succ_self b) (.int .i64 e')
  rw [← hsz]
  have hlt : b < (((wr.setCell ⟨b, 0, none⟩ (.string s)).setCell ⟨b, 1, none⟩ (.int .i64 p')).setCell ⟨b, 2, none⟩ (.int .i64 e')).heap.size := by rw [hsz]; exact h.lt
  generalize ((wr.setCell ⟨b, 0, none⟩ (.string s)).setCell ⟨b, 1, none⟩ (.int .i64 p')).setCell ⟨b, 2, none⟩ (.int .i64 e') = wd at *
  have hW := new1 wd (.cells #[.string t] 9)
  have hown2 := own_below_ hown hW
  obtain ⟨v', w', hap, hown', hgr, -⟩ := append_rv (P := Tryz.prog) (w := wd.alloc (.cells #[.string t] 9)) (ty := 22) Tryz.underlying22 info9 rfl (by omega) hown2 1 ((Blk.new wd 9 #[.string t]).rv (n := 1) (k := 1) (vs := SV [t]) rfl) (SV_one _) (by omega) (by omega) (by have := hW.size; omega)
  obtain ⟨ad, c, rfl⟩ := own_val hown'
  have hbo := base_of_own hown2
  refine ⟨ad, c, w', hap, (hbel.push _).grown hgr (by have := h.bel.size; have := h.new; have := hW.size; omega) (fun g hg => by have := hbo g hg; have := h.new; omega), h.new, Nat.lt_of_lt_of_le hlt (Nat.le_trans hW.size hgr.size), ?_, ?_⟩
  · exact (hbox.of_block (hW.block b hlt)).of_block (hgr.block b (Nat.lt_of_lt_of_le hlt hW.size) (fun e => by have := hbo b e.symm; omega))
  · rw [SV_append, List.length_append]
    exact hown'

set_option maxRecDepth 100000 in
set_option maxHeartbeats 2000000 in
theorem unpack_any (s : ByteArray) (A : Option Addr) (m c : Nat) (M : List ByteArray) (w : World) (hM : RV w A m 1 (SV M)) (hs : s.size ≤ 100000) (hm : (m : Int) ≤ 2000) :
    Calls Tryz.prog 29 #[.string s, .slice A m c] w fun r w' => ∃ B d c', r = .returned (.slice B d c') ∧ RV w' B d 1 (SV (un s ++ M)) ∧ Below w.heap.size w w' := by
  have hmx : s.size ≤ maxLen := by unfold maxLen; omega
  have HNew := Lib.hid (fun W => Oct.new_any s W)
  have HLe := Lib.hid (fun (p e : Int) W => Oct.left_any s p e W hmx)
  have HTa := Lib.hid (fun (p e : Int) W => Oct.take_any s p e W hmx)
  have HM := Lib.hid hM
  have HMl := Lib.hid hM.sec
  clear hM hmx hs
  go_enter Tryz.func29, Tryz.ntmps29
  go_wp2_with (go_at_call 59; with_reducible refine (HNew.out _).mono ?_; rintro r w1 ⟨rfl, hb1⟩; have HB1 := Lib.hid hb1; clear hb1)
  have H0 : Hid (UnI w (w1.alloc (.cells #[.string s, .int .i64 0, .int .i64 0] 116)) w1.heap.size s 0 0 [] (.slice none 0 0)) := Lib.hid
    ⟨HB1.out.push _, HB1.out.size, by simp, Box.new _ _ _ _ _, World.ownsRow_nil _ _ _ _⟩
  generalize w1.alloc (.cells #[.string s, .int .i64 0, .int .i64 0] 116) = w2 at *
  generalize w1.heap.size = b at *
  clear HB1 HNew
  go_loopw [5] (fun s5 wr => ∃ (k r : Nat) (p e : Int) (L : List ByteArray) (ad : Option Addr) (c' : Nat), (k : Int) + r = 1000 ∧ s5 = .slice ad k c' ∧ Hid (UnI w wr b s p e L s5 ∧ L.length = k ∧ L ++ unL s r p e = un s)) (fun s5 _ => 1000 - (match s5 with | .slice _ k _ => k | _ => 0))
  case atStart => exact ⟨0, 1000, 0, 0, [], none, 0, by omega, rfl, Lib.hid ⟨H0.out, rfl, rfl⟩⟩
  case round =>
    obtain ⟨k, r, p, e, L, ad, c', hkr, rfl, HI⟩ := hrel
    obtain ⟨b0, b1, b2, g0, g1, g2⟩ := HI.out.1.box
    have hlb := HI.out.1.lt
    clear H0
    by_cases hl : 0 < leftR s p e
    · by_cases hr : (k : Int) < 1000
      · obtain ⟨r, rfl⟩ : ∃ r', r = r' + 1 := ⟨r - 1, by omega⟩
        have HUn := Lib.hid (unL_go (r := r) hl)
        have HTa' := Lib.hid (fun W => HTa.out p e W)
        have HLe' := Lib.hid (fun W => HLe.out p e W)
        generalize leftR s p e = lf at *
        generalize (takeR s p e).1 = p' at *
        generalize (takeR s p e).2.1 = e' at *
        generalize (takeR s p e).2.2 = t at *
        go_wp2_with (go_at_call 60; with_reducible refine (HLe'.out _).mono ?_; rintro r w3 ⟨rfl, hb3⟩; have HI3 := Lib.hid (HI.out.1.call hb3); clear hb3 b0 b1 b2 g0 g1 g2 hlb; obtain ⟨b0, b1, b2, g0, g1, g2⟩ := HI3.out.box; have hlb := HI3.out.lt)
        with_reducible refine (HTa'.out _).mono ?_
        rintro r w4 ⟨rfl, hb4⟩
        have HI4 := Lib.hid ((HI3.out.call hb4).call (new1 w4 (.cells #[.string s, .int .i64 p', .int .i64 e'] 116)))
        have HX4 := Lib.hid (Box.new w4 (.string s) (.int .i64 p') (.int .i64 e') 116)
        clear hb4 b0 b1 b2 g0 g1 g2 hlb HI3
        go_upto_region 5 with fail
        generalize w4.alloc (.cells #[.string s, .int .i64 p', .int .i64 e'] 116) = w5 at *
        generalize w4.heap.size = xb at *
        obtain ⟨b0, b1, b2, g0, g1, g2⟩ := HI4.out.box
        have hlb := HI4.out.lt
        obtain ⟨x0, x1, x2, -, -, -⟩ := HX4.out
        obtain ⟨ad', c'', w6, hap, hst⟩ := HI4.out.step (by have := HI.out.2.1; omega) p' e' t
        rw [HI.out.2.1] at hap hst
        have HAP := Lib.hid hap
        have HS6 := Lib.hid hst
        clear hap hst
        go_wp2_with (at_builtin; refine wpList_append_run rfl (.tmp 25) (.tmp 27) 22 22 rfl _ _ rfl rfl (.slice ad' (k + 1) c'') w6 HAP.out ?_)
        go_roundw
        case rel => exact ⟨k + 1, r, p', e', L ++ [t], ad', c'', by omega, rfl, Lib.hid ⟨HS6.out, by rw [List.length_append, List.length_singleton, HI.out.2.1], by rw [List.append_assoc, List.singleton_append, ← HUn.out]; exact HI.out.2.2⟩⟩
        case measure => dsimp only; omega
      · obtain rfl : r = 0 := by omega
        have HL : Hid (L = un s) := Lib.hid (by have := HI.out.2.2; rwa [show unL s 0 p e = [] from rfl, List.append_nil] at this)
        have hk2 : (k : Int) ≤ 1000 := by omega
        clear hkr
        have HLe' := Lib.hid (fun W => HLe.out p e W)
        generalize leftR s p e = lf at *
        go_wp2_with fail
        with_reducible refine (HLe'.out _).mono ?_
        rintro r3 w3 ⟨rfl, hb3⟩
        have hI3 := HI.out.1.call hb3
        obtain ⟨v', w6, hap, hown', hgr, -⟩ := append_rv (P := Tryz.prog) (w := w3) (ty := 22) Tryz.underlying22 info9 rfl (by omega) hI3.own c (HM.out.below hI3.bel) (SV_one _) (by have := HI.out.2.1; omega) (by omega) (by have := hI3.lt; omega)
        obtain ⟨ad2, c2, rfl⟩ := own_val hown'
        rw [← SV_append, HI.out.2.1, HL.out] at hown'
        rw [HI.out.2.1] at hap
        have HAP := Lib.hid hap
        have HOw := Lib.hid (RV.of_own hown')
        have HB6 := Lib.hid (hI3.bel.grown hgr (Nat.le_trans hI3.new (Nat.le_of_lt hI3.lt)) (fun g hg => by have := base_of_own hI3.own g hg; have := hI3.new; omega))
        clear hap hown' hgr hb3 hI3 b0 b1 b2 g0 g1 g2 hlb
        go_wp2_with (at_builtin; refine wpList_append_run rfl (.tmp 29) (.tmp 30) 22 22 rfl _ _ rfl rfl (.slice ad2 (k + m) c2) w6 HAP.out ?_)
        refine bodyPost_ret (v := .slice ad2 (k + m) c2) (by simp [results, Tryz.results29, go_sem]) rfl ?_
        first
        | exact ⟨_, _, _, rfl, HOw.out, HB6.out⟩
        | exact ⟨_, _, ⟨_, rfl⟩, HOw.out, HB6.out⟩
    · have HL : Hid (L = un s) := Lib.hid (by have := HI.out.2.2; rwa [unL_stop hl, List.append_nil] at this)
      have HLe' := Lib.hid (fun W => HLe.out p e W)
      generalize leftR s p e = lf at *
      go_wp2_with fail
      with_reducible refine (HLe'.out _).mono ?_
      rintro r3 w3 ⟨rfl, hb3⟩
      have hI3 := HI.out.1.call hb3
      obtain ⟨v', w6, hap, hown', hgr, -⟩ := append_rv (P := Tryz.prog) (w := w3) (ty := 22) Tryz.underlying22 info9 rfl (by omega) hI3.own c (HM.out.below hI3.bel) (SV_one _) (by have := HI.out.2.1; omega) (by omega) (by have := hI3.lt; omega)
      obtain ⟨ad2, c2, rfl⟩ := own_val hown'
      rw [← SV_append, HI.out.2.1, HL.out] at hown'
      rw [HI.out.2.1] at hap
      have HAP := Lib.hid hap
      have HOw := Lib.hid (RV.of_own hown')
      have HB6 := Lib.hid (hI3.bel.grown hgr (Nat.le_trans hI3.new (Nat.le_of_lt hI3.lt)) (fun g hg => by have := base_of_own hI3.own g hg; have := hI3.new; omega))
      clear hap hown' hgr hb3 hI3 b0 b1 b2 g0 g1 g2 hlb
      go_wp2_with (at_builtin; refine wpList_append_run rfl (.tmp 29) (.tmp 30) 22 22 rfl _ _ rfl rfl (.slice ad2 (k + m) c2) w6 HAP.out ?_)
      refine bodyPost_ret (v := .slice ad2 (k + m) c2) (by simp [results, Tryz.results29, go_sem]) rfl ?_
      first
        | exact ⟨_, _, _, rfl, HOw.out, HB6.out⟩
        | exact ⟨_, _, ⟨_, rfl⟩, HOw.out, HB6.out⟩

end Go.Proofs.YtkglolnghihegaaGreatDoor.Sto
