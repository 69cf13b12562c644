/- The walk of OctetStays. -/
import Derived.Test.YtannhdhibajbkaaAwakeW
import Derived.Test.YtannhdhibajbkaaArgs
import Derived.Deep.RegionHeld3
import Derived.Deep.DeepCutAuto
import Derived.Test.YtannhdhibajbkaaClass
namespace Go.Proofs.Ytannhdhibajbkaa
open Go.RowKit Go.Deep Go.Lib

/-- What a read must keep to: the cursor (p, e) ahead, (q, f) behind it, n what is told. -/
def Stays (s : ByteArray) (p e q f n : Int) : Prop :=
  (e ≠ 0 → q = p ∧ f = e ∧ n = 0) ∧ (f ≠ 0 → q = p ∧ n = 0) ∧ (f = 0 → p < q ∧ 0 ≤ q ∧ q ≤ s.size)

theorem stays_num (s : ByteArray) (p e n : Int) : Stays s p e (numR s p e n).1 (numR s p e n).2.1 (numR s p e n).2.2 := by
  refine ⟨fun he => ?_, fun hf => numR_bad hf, fun hf => ?_⟩
  · have : numR s p e n = (p, e, 0) := by unfold numR; rw [if_neg he]
    rw [this]; exact ⟨rfl, rfl, rfl⟩
  · obtain ⟨h1, h2, h3, h4, h5, h6⟩ := numR_good hf
    rw [h6]; dsimp only; omega

theorem stays_take (s : ByteArray) (p e : Int) : Stays s p e (takeR s p e).1 (takeR s p e).2.1 (takeR s p e).2.2.size := by
  unfold takeR
  by_cases h : (numR s p e 2).2.1 = 0
  · rw [if_pos h]
    obtain ⟨h1, h2, h3, h4, h5, h6⟩ := numR_good h
    have := numAt_nonneg s p 2
    rw [h6]; dsimp only
    split
    · refine ⟨fun he => absurd h1 he, fun _ => ⟨rfl, rfl⟩, fun hf => by simp at hf⟩
    · refine ⟨fun he => absurd h1 he, fun hf => absurd rfl hf, fun _ => ?_⟩
      simp only [show (2 : Int).toNat = 2 from rfl] at *
      omega
  · rw [if_neg h]
    have := stays_num s p e 2
    refine ⟨fun he => ?_, fun hf => ⟨(this.2.1 hf).1, rfl⟩, fun hf => absurd hf h⟩
    exact ⟨(this.1 he).1, (this.1 he).2.1, rfl⟩

/-- The worlds of the check: two cursors lie where they lay. -/
def Two (w : World) (b5 b7 : Nat) (x5 y5 z5 x7 y7 z7 : Value) (W : World) : Prop := Below w.heap.size w W ∧ Box W b5 x5 y5 z5 ∧ Box W b7 x7 y7 z7 ∧ b5 < W.heap.size ∧ b7 < W.heap.size
theorem Two.kept {w : World} {b5 b7 : Nat} {x5 y5 z5 x7 y7 z7 : Value} (W W' : World) (h : Two w b5 b7 x5 y5 z5 x7 y7 z7 W) (hb : Below W.heap.size W W') : Two w b5 b7 x5 y5 z5 x7 y7 z7 W' :=
  ⟨h.1.call hb, h.2.1.below hb h.2.2.2.1, h.2.2.1.below hb h.2.2.2.2, Nat.lt_of_lt_of_le h.2.2.2.1 hb.size, Nat.lt_of_lt_of_le h.2.2.2.2 hb.size⟩
theorem Two.drawn {w : World} {b5 b7 : Nat} {x5 y5 z5 x7 y7 z7 : Value} {W : World} (h : Two w b5 b7 x5 y5 z5 x7 y7 z7 W) : Two w b5 b7 x5 y5 z5 x7 y7 z7 { W with drawn := W.drawn + 1 } :=
  h.kept _ _ ⟨rfl, rfl, rfl, Nat.le_refl _, fun _ _ => rfl⟩

set_option maxRecDepth 100000 in
set_option maxHeartbeats 4000000 in
theorem walk_stays (s : ByteArray) (a : Option Addr) (len cap : Nat) (zs : List Int) (w : World) (hs : s.size ≤ maxLen) (hR : ReadsV w a len (zs.map (.int .u8))) (hz : ∀ z ∈ zs, 0 ≤ z ∧ z ≤ 255) :
    Calls Try.prog 6 #[.string s, .slice a len cap] w fun e w' => e = .returned (.bool true) ∧ Below w.heap.size w w' := by
  by_cases hg : ¬ ((s.size : Int) ≤ 100 ∧ (len : Int) ≤ 20)
  · by_cases h1 : (100 : Int) < s.size
    all_goals
      go_enter Try.func6, Try.ntmps6
      go_wp2_with (go_at_call 7; refine (awake_any _).mono ?_; rintro e w' ⟨rfl, hb⟩)
      go_ret
      exact ⟨rfl, hb⟩
  obtain ⟨g1, g2⟩ := Decidable.not_not.1 hg
  clear hg
  have d1 : decide ((100 : Int) < s.size) = false := by simp; omega
  have d2 : decide ((20 : Int) < len) = false := by simp; omega
  have HR := Lib.hid hR
  have HZ := Lib.hid hz
  clear hR hz
  go_enter Try.func6, Try.ntmps6
  go_wp2_with fail
  refine (new_any s _).mono ?_
  rintro r w1 ⟨rfl, hb1⟩
  have HB0 := Lib.hid (hb1.push (B38 s 0 0))
  have HX0 := Lib.hid (Box.new w1 (.string s) (.int .i64 0) (.int .i64 0) 38)
  have hwz : w.heap.size ≤ w1.heap.size := hb1.size
  clear hb1
  go_wp2
  go_loopw [6] (fun i wr => ∃ (k : Nat) (p e : Int), k ≤ len ∧ i = .int .i64 k ∧ 0 ≤ p ∧ p ≤ s.size ∧ Box wr w1.heap.size (.string s) (.int .i64 p) (.int .i64 e) ∧ Below w.heap.size w wr ∧ w1.heap.size < wr.heap.size) (fun i _ => len - (intOf i).toNat)
  case atStart => exact ⟨0, 0, 0, by omega, rfl, by omega, by omega, HX0.out, HB0.out, by simp⟩
  case round =>
    obtain ⟨k, p, e, hk, rfl, hp0, hp1, hbox, hbel, hz5⟩ := hrel
    by_cases hlt : k < len
    · have HBel := Lib.hid hbel
      have HBox := Lib.hid hbox
      obtain ⟨c0, c1, c2, f0, f1, f2⟩ := hbox
      obtain ⟨b, off, rfl, hlb, hc⟩ := (HR.out.below hbel).2 (by omega)
      have hkl : k < zs.length := by have := HR.out.1; simp at this; omega
      have hck := hc k (by simpa using hkl)
      rw [List.getElem_map] at hck
      obtain ⟨hz0, hz1⟩ := HZ.out zs[k] (List.getElem_mem hkl)
      generalize zs[k] = z at *
      clear hc hbel
      go_upto_if 34 with fail
      go_cut [8] (fun s8 wx => ∃ q f n : Int, s8 = .int .i64 n ∧ Stays s p e q f n ∧ Box wx wr.heap.size (.string s) (.int .i64 q) (.int .i64 f) ∧ Box wx w1.heap.size (.string s) (.int .i64 p) (.int .i64 e) ∧ Below w.heap.size w wx ∧ wr.heap.size < wx.heap.size)
      case first =>
        have HP := Lib.hid ((Box.new wr (.string ⟨#[]⟩) (.int .i64 0) (.int .i64 0) 38))
        have HQ := Lib.hid (HBox.out.alloc hz5 (.cells #[.string ⟨#[]⟩, .int .i64 0, .int .i64 0] 38))
        by_cases hz : z = 0
        · subst hz
          go_wp2_with fail
          refine (take_any s p e _ hs).mono ?_
          rintro r w2 ⟨rfl, hb2⟩
          have hst := Lib.hid (stays_take s p e)
          have X7 := HP.out.below hb2 (by simp)
          have X5 := HQ.out.below hb2 (by simp; omega)
          have hz2 : wr.heap.size < w2.heap.size := by have := hb2.size; simp at this; omega
          have HB2 := Lib.hid ((HBel.out.push _).call hb2)
          have HX5 := Lib.hid X5
          obtain ⟨x0, x1, x2, y0, y1, y2⟩ := X7
          clear hb2 X5
          go_wp2_with fail
          go_meet
          obtain ⟨m1, m2, m3, m4⟩ := set3_keeps HB2.out ⟨x0, x1, x2, y0, y1, y2⟩ HX5.out (by omega) (by omega) (.string s) (.int .i64 (takeR s p e).1) (.int .i64 (takeR s p e).2.1)
          exact ⟨_, _, _, rfl, hst.out, m1.alloc (by rw [m4]; omega) _, m2.alloc (by rw [m4]; omega) _, m3.push _, by rw [World.size_alloc, m4]; omega⟩
        · have hzb : (z == 0) = false := by simpa using hz
          go_wp2_with fail
          have hwz1 : IntKind.i64.wrap z = z := IntWalk.i64_in _ (by omega)
          have hwz2 : wrap64 z = z := IntWalk.wrap64_in _ (by omega)
          have n1 : ¬ wr.heap.size + 1 = w1.heap.size := by omega
          have n2 : ¬ wr.heap.size + 1 = b := by omega
          go_region_held3 (fun W => W.cell? ⟨w1.heap.size, 0, none⟩ = some (.string s) ∧ W.cell? ⟨w1.heap.size, 1, none⟩ = some (.int .i64 p) ∧ W.cell? ⟨w1.heap.size, 2, none⟩ = some (.int .i64 e) ∧ W.cell? ⟨b, off + k, none⟩ = some (.int .u8 z)) (go_keep)
            (first | (go_at_call 23; ((with_reducible refine (num_any s p e z _ hs).mono ?_)); rintro r w2 ⟨rfl, hb2⟩; obtain ⟨hc, hf⟩ := bcell hb2; have q0 : w2.cell? ⟨w1.heap.size, 0, none⟩ = some (.string s) := (by rw [hc _ _ (by simp; omega)]; simp [*]); have q1 : w2.cell? ⟨w1.heap.size, 1, none⟩ = some (.int .i64 p) := (by rw [hc _ _ (by simp; omega)]; simp [*]); have q2 : w2.cell? ⟨w1.heap.size, 2, none⟩ = some (.int .i64 e) := (by rw [hc _ _ (by simp; omega)]; simp [*]); have q3 : w2.cell? ⟨b, off + k, none⟩ = some (.int .u8 z) := (by rw [hc _ _ (by simp; omega)]; simp [*]); have hz2 : wr.heap.size < w2.heap.size := (by have := hb2.size; simp at this; omega); have n3 : ¬ w2.heap.size = w1.heap.size := (by omega); have n4 : ¬ w2.heap.size = b := (by omega)))
          · go_wp2_with fail
            replace hb2 := undrew hb2
            have HP2 := HP.out.below hb2 (by simp)
            have HQ2 := HQ.out.below hb2 (by simp; omega)
            have HB2 := (HBel.out.push _).call hb2
            go_meet
            obtain ⟨m1, m2, m3, m4⟩ := set3_keeps HB2 HP2 HQ2 (by omega) (by omega) (.string s) (.int .i64 (numR s p e z).1) (.int .i64 (numR s p e z).2.1)
            exact ⟨_, _, _, rfl, stays_num s p e z, m1.alloc (by rw [m4]; omega) _, m2.alloc (by rw [m4]; omega) _, m3.push _, by rw [World.size_alloc, m4]; omega⟩
          · go_wp2_with fail
            replace hb2 := undrew hb2
            have HP2 := (HP.out.alloc (by simp) _).below hb2 (by simp; omega)
            have HQ2 := (HQ.out.alloc (by simp; omega) _).below hb2 (by simp; omega)
            have HB2 := ((HBel.out.push _).push _).call hb2
            have HN2 := (Box.new (wr.alloc (.cells #[.string ⟨#[]⟩, .int .i64 0, .int .i64 0] 38)) (.string ⟨#[]⟩) (.int .i64 0) (.int .i64 0) 38).below hb2 (by simp)
            rw [World.size_alloc] at HN2
            go_meet
            obtain ⟨m1, m2, m3, m4⟩ := set3_keeps HB2 HN2 HP2 (by omega) (by omega) (.string s) (.int .i64 (numR s p e z).1) (.int .i64 (numR s p e z).2.1)
            obtain ⟨-, m5, -, -⟩ := set3_keeps HB2 HN2 HQ2 (by omega) (by omega) (.string s) (.int .i64 (numR s p e z).1) (.int .i64 (numR s p e z).2.1)
            obtain ⟨l1, l2, l3, l4⟩ := set3_keeps m3 m2 m5 (by omega) (by omega) (.string s) (.int .i64 (numR s p e z).1) (.int .i64 (numR s p e z).2.1)
            exact ⟨_, _, _, rfl, stays_num s p e z, l1, l2, l3, by rw [l4, m4]; omega⟩
      case rest =>
        obtain ⟨q, f, n, rfl, hst, hq7, hq5, hbw, hzw⟩ := hcut
        have HT : Two w w1.heap.size wr.heap.size (.string s) (.int .i64 p) (.int .i64 e) (.string s) (.int .i64 q) (.int .i64 f) wc := ⟨hbw, hq5, hq7, by omega, hzw⟩
        have hq0 : 0 ≤ q ∧ q ≤ s.size := by
          by_cases hf : f = 0
          · exact (hst.2.2 hf).2
          · rw [(hst.2.1 hf).1]; exact ⟨hp0, hp1⟩
        obtain ⟨k2, k3⟩ := hq0
        clear hq7 hq5 hbw HBel HBox hck
        go_upto_region 14 with fail
        go_cut [115] (fun c wx => c = .bool false ∧ Two w w1.heap.size wr.heap.size (.string s) (.int .i64 p) (.int .i64 e) (.string s) (.int .i64 q) (.int .i64 f) wx)
        case first =>
          have hw1 : IntKind.i64.wrap (↑s.size - q) = ↑s.size - q := IntWalk.i64_in _ (by omega)
          refine wp_region_class (Two w w1.heap.size wr.heap.size (.string s) (.int .i64 p) (.int .i64 e) (.string s) (.int .i64 q) (.int .i64 f)) HT.drawn (by kernel_rfl) (by kernel_rfl) ?_
          intro hne
          have r0 := fun x : Wd (Two w w1.heap.size wr.heap.size (.string s) (.int .i64 p) (.int .i64 e) (.string s) (.int .i64 q) (.int .i64 f)) => x.ok.2.1.c0
          have r1 := fun x : Wd (Two w w1.heap.size wr.heap.size (.string s) (.int .i64 p) (.int .i64 e) (.string s) (.int .i64 q) (.int .i64 f)) => x.ok.2.1.c1
          have r2 := fun x : Wd (Two w w1.heap.size wr.heap.size (.string s) (.int .i64 p) (.int .i64 e) (.string s) (.int .i64 q) (.int .i64 f)) => x.ok.2.1.c2
          have r3 := fun x : Wd (Two w w1.heap.size wr.heap.size (.string s) (.int .i64 p) (.int .i64 e) (.string s) (.int .i64 q) (.int .i64 f)) => x.ok.2.2.1.c0
          have r4 := fun x : Wd (Two w w1.heap.size wr.heap.size (.string s) (.int .i64 p) (.int .i64 e) (.string s) (.int .i64 q) (.int .i64 f)) => x.ok.2.2.1.c1
          have r5 := fun x : Wd (Two w w1.heap.size wr.heap.size (.string s) (.int .i64 p) (.int .i64 e) (.string s) (.int .i64 q) (.int .i64 f)) => x.ok.2.2.1.c2
          clear HT
          by_cases hf : f = 0
          · subst hf
            obtain rfl : e = 0 := Decidable.byContradiction fun he => he (hst.1 he).2.1.symm
            obtain ⟨k1, -, -⟩ := hst.2.2 rfl
            have hd : decide (q ≤ p) = false := by simp; omega
            clear hst
            repeat (go_big_quiet_step ((exact wd_call Two.kept (left_yes s q _ hs k2 k3))))
            refine wpQuiet_nil ?_
            rintro _ ⟨x, rfl⟩
            go_wp2_with fail
            go_meet
            exact ⟨rfl, x.ok⟩
          · obtain ⟨rfl, rfl⟩ := hst.2.1 hf
            have hf1 : (f != 0) = true := by simpa using hf
            have hf2 : (f == 0) = false := by simpa using hf
            by_cases he : e = 0
            · subst he
              clear hst hf
              by_cases hl : (s.size : Int) - q = 0
              · have hl1 : ((0 : Int) != (s.size : Int) - q) = false := by simp; omega
                clear hl
                repeat (go_big_quiet_step ((exact wd_call Two.kept (left_failed s q f _ hf1))))
                refine wpQuiet_nil ?_
                rintro _ ⟨x, rfl⟩
                go_wp2_with fail
                go_meet
                exact ⟨rfl, x.ok⟩
              · have hl1 : ((0 : Int) != (s.size : Int) - q) = true := by simp; omega
                clear hl
                repeat (go_big_quiet_step ((exact wd_call Two.kept (left_failed s q f _ hf1))))
                refine wpQuiet_nil ?_
                rintro _ ⟨x, rfl⟩
                go_wp2_with fail
                go_meet
                exact ⟨rfl, x.ok⟩
            · obtain ⟨-, rfl, -⟩ := hst.1 he
              clear hst hf he
              by_cases hl : (s.size : Int) - q = 0
              · have hl1 : ((0 : Int) != (s.size : Int) - q) = false := by simp; omega
                clear hl
                repeat (go_big_quiet_step ((exact wd_call Two.kept (left_failed s q f _ hf1))))
                refine wpQuiet_nil ?_
                rintro _ ⟨x, rfl⟩
                go_wp2_with fail
                go_meet
                exact ⟨rfl, x.ok⟩
              · have hl1 : ((0 : Int) != (s.size : Int) - q) = true := by simp; omega
                clear hl
                repeat (go_big_quiet_step ((exact wd_call Two.kept (left_failed s q f _ hf1))))
                refine wpQuiet_nil ?_
                rintro _ ⟨x, rfl⟩
                go_wp2_with fail
                go_meet
                exact ⟨rfl, x.ok⟩
        case rest =>
          obtain ⟨rfl, hT⟩ := hcut
          obtain ⟨t1, t2, t3, t4, t5⟩ := hT
          have T1 := Lib.hid t1
          have T2 := Lib.hid t2
          obtain ⟨a0, a1, a2, f0, f1, f2⟩ := t2
          obtain ⟨b0, b1, b2, g0, g3, g4⟩ := t3
          clear t1
          go_wp2_with fail
          go_roundw
          case rel =>
            refine ⟨k + 1, q, f, by omega, by go_num, k2, k3, T2.out.set3 _ _ _, ?_, by simpa [World.setCell] using t4⟩
            exact ((T1.out.setCell (p := ⟨w1.heap.size, 0, none⟩) hwz _).setCell (p := ⟨w1.heap.size, 1, none⟩) hwz _).setCell (p := ⟨w1.heap.size, 2, none⟩) hwz _
          case measure => simp [intOf]; omega
    · clear HX0 HB0
      go_wp2_with fail
      refine (awake_any _).mono ?_
      rintro r w2 ⟨rfl, hb2⟩
      have HB2 := Lib.hid (hbel.call hb2)
      clear hb2
      go_wp2
      go_ret
      exact ⟨rfl, HB2.out⟩

end Go.Proofs.Ytannhdhibajbkaa
