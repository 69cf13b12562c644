/- The walk of SheafJoins. -/
import Derived.Test.YtcloakaenkhgpaaDoorSheafRJoin
import Derived.Test.YtcloakaenkhgpaaDoorSheafAw
namespace Go.Proofs.YtcloakaenkhgpaaDoor.Shf
open Go.RowKit Go.Proofs.YtcloakaenkhgpaaDoor.Oct Go.Proofs.YtcloakaenkhgpaaDoor.Crc
open Go.Proofs.YtcloakaenkhgpaaDoor.Dsk (RV SV SV_length)

theorem small_any (A : Option Addr) (m c : Nat) (S : List ByteArray) (w : World) (hR : RV w A m 1 (SV S)) :
    Calls Tryd.prog 15 #[.slice A m c] w fun r w' => (r = .returned (.bool false) ∨ r = .returned (.bool true) ∧ (m : Int) ≤ 30) ∧ w = w' := by
  have HS := Lib.hid hR.sec
  have HR := Lib.hid hR
  clear hR
  go_enter Tryd.func15, Tryd.ntmps15
  by_cases hm : (30 : Int) < m
  · have hd : decide ((30 : Int) < m) = true := decide_eq_true hm
    clear hm
    go_wp2_with fail
    go_ret
    exact ⟨.inl rfl, rfl⟩
  · have hd : decide ((30 : Int) < m) = false := decide_eq_false hm
    go_wp2_with fail
    go_loop [3] (fun i => ∃ k : Nat, k ≤ m ∧ i = .int .i64 k) (fun i => m - (intOf i).toNat)
    case atStart => exact ⟨0, Nat.zero_le _, rfl⟩
    case round =>
      obtain ⟨k, hk, rfl⟩ := hrel
      by_cases hlt : k < m
      · obtain ⟨b, off, rfl, hbl, hcl⟩ := HR.out.secAt hlt (by have := HS.out; omega)
        have hi : (k : Int) < m := by omega
        generalize S[k]'(by have := HS.out; omega) = s at *
        by_cases hs : (80 : Int) < s.size
        · have hd2 : decide ((80 : Int) < s.size) = true := decide_eq_true hs
          clear hs
          go_wp2_with fail
          go_ret
          exact ⟨.inl rfl, rfl⟩
        · have hd2 : decide ((80 : Int) < s.size) = false := decide_eq_false hs
          clear hs
          go_wp2_with fail
          go_round
          case rel => exact ⟨k + 1, by omega, by go_num⟩
          case measure => simp [intOf]; omega
      · go_wp2_with fail
        go_ret
        first | exact ⟨.inr rfl, rfl⟩ | exact ⟨.inr ⟨rfl, by omega⟩, rfl⟩

theorem back_any2 (k : Nat) (g n a o : Int) (d : ByteArray) (w : World) :
    Calls Tryd.prog 20 #[PV k g n a o d] w fun r w' => r = .returned (PV k g n a o d) ∧ Below w.heap.size w w' := by
  go_enter Tryd.func20, Tryd.ntmps20
  go_wp2_with fail
  refine bodyPost_ret (v := PV k g n a o d) (by simp [results, Tryd.results20, go_sem, *]) rfl ⟨rfl, ?_⟩
  exact ((Below.refl _ _).push _).push _

/-- Two parts in memory. -/
structure Two6 (w : World) (b1 b2 : Nat) (k : Nat) (g n a o : Int) (d : ByteArray) (W : World) : Prop where
  bel : Below w.heap.size w W
  p : Box6 W b1 (.int .u8 k) (.int .i64 g) (.int .i64 n) (.int .i64 a) (.int .i64 o) (.string d)
  q : Box6 W b2 (.int .u8 k) (.int .i64 g) (.int .i64 n) (.int .i64 a) (.int .i64 o) (.string d)
theorem Two6.kept {w : World} {b1 b2 k : Nat} {g n a o : Int} {d : ByteArray} : ∀ W W', Two6 w b1 b2 k g n a o d W → Below W.heap.size W W' → Two6 w b1 b2 k g n a o d W' :=
  fun _ _ h hb => ⟨h.bel.call hb, h.p.below hb (cell_lt h.p.c0), h.q.below hb (cell_lt h.q.c0)⟩

theorem reads_same (s : ByteArray) : ∃ (k : Nat) (g n a o e : Int) (d : ByteArray),
    (∀ W, Calls Tryd.prog 18 #[.string s] W fun r w' => r = .returned (.tuple #[PV k g n a o d, .int .i64 e]) ∧ Below W.heap.size W w') ∧
    (∀ W, Calls Tryd.prog 19 #[.string s] W fun r w' => r = .returned (.tuple #[PV k g n a o d, .int .i64 e]) ∧ Below W.heap.size W w') := by
  by_cases h : errR s = 0
  · have e : partV s = PV (kA s) (gA s) (nA s) (aA s) (oA s) (dA s) := if_pos h
    refine ⟨kA s, gA s, nA s, aA s, oA s, errR s, dA s, fun W => ?_, fun W => ?_⟩
    · rw [← e]; exact read_any s W
    · rw [← e]; exact rread_any s W
  · have e : partV s = PV 0 0 0 0 0 ⟨#[]⟩ := if_neg h
    refine ⟨0, 0, 0, 0, 0, errR s, ⟨#[]⟩, fun W => ?_, fun W => ?_⟩
    · rw [← e]; exact read_any s W
    · rw [← e]; exact rread_any s W

set_option maxRecDepth 20000 in
set_option maxHeartbeats 1000000 in
theorem joins_walk (kk : Nat) (g n : Int) (A : Option Addr) (m c : Nat) (S : List ByteArray) (w : World) (hR : RV w A m 1 (SV S)) (hT : Tab w) :
    Calls Tryd.prog 4 #[HV kk g n, .slice A m c] w fun r w' => r = .returned (.bool true) ∧ Below w.heap.size w w' := by
  have HA := Lib.hid awake_any
  have HSm := Lib.hid (fun W (hb : Below w.heap.size w W) => small_any A m c S W (hR.below hb))
  obtain ⟨T, oo, ee, HJ, HRJ⟩ : ∃ (T : ByteArray) (oo ee : Int),
      (∀ W, Below w.heap.size w W → Calls Tryd.prog 16 #[HV kk g n, .slice A m c] W fun r w' => r = .returned (.tuple #[.string T, .int .i64 oo, .int .i64 ee]) ∧ Below W.heap.size W w') ∧
      ((m : Int) ≤ 30 → ∀ W, Below w.heap.size w W → Calls Tryd.prog 17 #[HV kk g n, .slice A m c] W fun r w' => r = .returned (.tuple #[.string T, .int .i64 oo, .int .i64 ee]) ∧ Below W.heap.size W w') :=
    ⟨_, _, _, fun W hb => join_any kk g n A m c S W (hR.below hb) (tab_call hT hb), fun hm W hb => rjoin_any kk g n A m c S W (hR.below hb) (by omega)⟩
  have HJ := Lib.hid HJ
  have HRJ := Lib.hid HRJ
  have HS := Lib.hid hR.sec
  have HR := Lib.hid hR
  have HT := Lib.hid hT
  clear hR hT
  go_enter Tryd.func4, Tryd.ntmps4
  go_wp2_with fail
  have X := Box.new w (.int .u8 kk) (.int .i64 g) (.int .i64 n) 23
  have HB0 := Lib.hid ((Below.refl w.heap.size w).push (.cells #[.int .u8 kk, .int .i64 g, .int .i64 n] 23))
  have hz0 : w.heap.size < (w.alloc (.cells #[.int .u8 kk, .int .i64 g, .int .i64 n] 23)).heap.size := by simp
  generalize w.alloc (.cells #[.int .u8 kk, .int .i64 g, .int .i64 n] 23) = w0 at *
  with_reducible refine (HSm.out _ HB0.out).mono ?_
  rintro r w1 ⟨hr, rfl⟩
  have HZ0 := Lib.hid hz0
  clear HSm hz0
  rcases hr with rfl | ⟨rfl, hm⟩
  · clear X HJ HRJ HR HS HZ0
    go_wp2_with (go_at_call 7; (with_reducible refine (HA.out _ (tab_call HT.out HB0.out)).mono ?_); rintro r w1 ⟨rfl, b1⟩; have HB1 := Lib.hid (HB0.out.call b1); clear b1)
    go_ret
    exact ⟨rfl, HB1.out⟩
  · have HRJ := Lib.hid (HRJ.out hm)
    have HX := Lib.hid X
    obtain ⟨c0, c1, c2, -, -, -⟩ := X
    go_wp2_with fail
    with_reducible refine (HJ.out _ HB0.out).mono ?_
    rintro r w2 ⟨rfl, b2⟩
    have HB2 := Lib.hid (HB0.out.call b2)
    clear c0 c1 c2 HJ
    obtain ⟨c0, c1, c2, -, -, -⟩ := HX.out.below b2 HZ0.out
    clear b2
    go_wp2_with fail
    with_reducible refine (HRJ.out _ HB2.out).mono ?_
    rintro r w3 ⟨rfl, b3⟩
    have HB3 := Lib.hid (HB2.out.call b3)
    clear b3 c0 c1 c2 HX HZ0 HB2 HB0
    have q2 : (oo != oo) = false := by simp
    have q3 : (ee != ee) = false := by simp
    go_wp2_with fail
    clear q2 q3
    go_loopw [11] (fun i wr => ∃ k : Nat, k ≤ m ∧ i = .int .i64 k ∧ Hid (Below w.heap.size w wr)) (fun i _ => m - (intOf i).toNat)
    case atStart => exact ⟨0, Nat.zero_le _, rfl, HB3⟩
    case round =>
      clear HB3
      obtain ⟨k, hk, rfl, HK⟩ := hrel
      by_cases hlt : k < m
      · obtain ⟨b, off, rfl, hbl, hcl⟩ := (HR.out.below HK.out).secAt hlt (by have := HS.out; omega)
        have hi : (k : Int) < m := by omega
        generalize S[k]'(by have := HS.out; omega) = s at *
        obtain ⟨k1, g1, n1, a1, o1, e1, d1, HD1, HD2⟩ := reads_same s
        have HD1 := Lib.hid HD1
        have HD2 := Lib.hid HD2
        go_wp2_with fail
        with_reducible refine (HD1.out _).mono ?_
        rintro r w4 ⟨rfl, b4⟩
        have hcl4 := (b4.cell (p := ⟨b, off + k, none⟩) hbl).trans hcl
        have hbl4 : b < w4.heap.size := cell_lt hcl4
        have HB4 := Lib.hid ((HK.out.call b4).push (.cells #[.int .u8 k1, .int .i64 g1, .int .i64 n1, .int .i64 a1, .int .i64 o1, .string d1] 41))
        clear b4 hcl hbl HD1
        go_wp2_with fail
        with_reducible refine (HD2.out _).mono ?_
        rintro r w5 ⟨rfl, b5⟩
        have HG : Hid (Two6 w w4.heap.size w5.heap.size k1 g1 n1 a1 o1 d1 (w5.alloc (.cells #[.int .u8 k1, .int .i64 g1, .int .i64 n1, .int .i64 a1, .int .i64 o1, .string d1] 45))) := Lib.hid (by
          have P := (Box6.new w4 (.int .u8 k1) (.int .i64 g1) (.int .i64 n1) (.int .i64 a1) (.int .i64 o1) (.string d1) 41).below b5 (by simp)
          exact ⟨(HB4.out.call b5).push _, P.below ((Below.refl _ w5).push _) (cell_lt P.c0), Box6.new _ _ _ _ _ _ _ _⟩)
        clear hcl4 hbl4 b5 HB4 HD2 HK
        have q4 : (e1 != e1) = false := by simp
        go_wp2_with fail
        refine wp_region_class (Two6 w w4.heap.size w5.heap.size k1 g1 n1 a1 o1 d1) (Two6.kept _ _ HG.out ((Below.refl _ _).drewN 1)) (by kernel_rfl) (by kernel_rfl) ?_
        intro hne
        clear HG
        have r0 := fun x : Wd (Two6 w w4.heap.size w5.heap.size k1 g1 n1 a1 o1 d1) => x.ok.p.c0
        have r1 := fun x : Wd (Two6 w w4.heap.size w5.heap.size k1 g1 n1 a1 o1 d1) => x.ok.p.c1
        have r2 := fun x : Wd (Two6 w w4.heap.size w5.heap.size k1 g1 n1 a1 o1 d1) => x.ok.p.c2
        have r3 := fun x : Wd (Two6 w w4.heap.size w5.heap.size k1 g1 n1 a1 o1 d1) => x.ok.p.c3
        have r4 := fun x : Wd (Two6 w w4.heap.size w5.heap.size k1 g1 n1 a1 o1 d1) => x.ok.p.c4
        have r5 := fun x : Wd (Two6 w w4.heap.size w5.heap.size k1 g1 n1 a1 o1 d1) => x.ok.p.c5
        have s0 := fun x : Wd (Two6 w w4.heap.size w5.heap.size k1 g1 n1 a1 o1 d1) => x.ok.q.c0
        have s1 := fun x : Wd (Two6 w w4.heap.size w5.heap.size k1 g1 n1 a1 o1 d1) => x.ok.q.c1
        have s2 := fun x : Wd (Two6 w w4.heap.size w5.heap.size k1 g1 n1 a1 o1 d1) => x.ok.q.c2
        have s3 := fun x : Wd (Two6 w w4.heap.size w5.heap.size k1 g1 n1 a1 o1 d1) => x.ok.q.c3
        have s4 := fun x : Wd (Two6 w w4.heap.size w5.heap.size k1 g1 n1 a1 o1 d1) => x.ok.q.c4
        have s5 := fun x : Wd (Two6 w w4.heap.size w5.heap.size k1 g1 n1 a1 o1 d1) => x.ok.q.c5
        go_big_quiet_step (fail)
        go_big_quiet_step (exact wd_call Two6.kept (back_any2 k1 g1 n1 a1 o1 d1 _))
        go_big_quiet_step (fail)
        go_big_quiet_step (fail)
        go_big_quiet_step (fail)
        go_big_quiet_step (fail)
        go_big_quiet_step (fail)
        go_big_quiet_step (fail)
        go_big_quiet_step (fail)
        refine wpQuiet_nil ?_
        rintro _ ⟨x, rfl⟩
        have HX2 := Lib.hid x.ok.bel
        clear r0 r1 r2 r3 r4 r5 s0 s1 s2 s3 s4 s5
        go_wp2_with fail
        go_roundw
        case rel => exact ⟨k + 1, by omega, by go_num, HX2⟩
        case measure => simp [intOf]; omega
      · go_wp2_with (go_at_call 7; (with_reducible refine (HA.out _ (tab_call HT.out HK.out)).mono ?_); rintro r w1 ⟨rfl, b1⟩; have HB1 := Lib.hid (HK.out.call b1); clear b1)
        go_ret
        exact ⟨rfl, HB1.out⟩

end Go.Proofs.YtcloakaenkhgpaaDoor.Shf
