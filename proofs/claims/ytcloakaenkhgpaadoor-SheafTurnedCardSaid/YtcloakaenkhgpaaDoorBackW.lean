/- The walk of SheafBack. -/
import Derived.Test.YtcloakaenkhgpaaDoorSheafAw
import Derived.Test.YtcloakaenkhgpaaDoorSheafRLay
import Derived.Laws.BitsAllLaws
namespace Go.Proofs.YtcloakaenkhgpaaDoor.Shf
open Go.RowKit Go.Proofs.YtcloakaenkhgpaaDoor.Oct Go.Proofs.YtcloakaenkhgpaaDoor.Crc
open Go.Proofs.YtcloakaenkhgpaaDoor.Dsk (RV SV SV_length SV_append SV_one Blk info9 append_rv base_of_own)

theorem head_any (k g n : Nat) (w : World) (hg : (g : Int) ≤ 65535) (hn : (n : Int) ≤ 65535) :
    Calls Tryd.prog 21 #[.int .u8 k, .int .u16 g, .int .u16 n] w fun r w' => r = .returned (HV k (1 + (g : Int)) n) ∧ Below w.heap.size w w' := by
  go_enter Tryd.func21, Tryd.ntmps21
  go_wp2_with fail
  refine bodyPost_ret (v := HV k (1 + (g : Int)) n) (by simp [results, Tryd.results21, go_sem, *]) rfl ⟨rfl, ?_⟩
  exact (Below.refl _ _).push _

/-- A slice of texts of the call's own. -/
structure InvA (a wr : World) (v : Value) (S : List ByteArray) : Prop where
  bel : Below a.heap.size a wr
  own : wr.ownsRow a.heap.size 9 1 v S.length (SV S)
theorem InvA.start (a : World) : InvA a a (.slice none 0 0) [] := ⟨Below.refl _ _, World.ownsRow_nil _ _ _ _⟩
theorem InvA.call {a wr w' : World} {v : Value} {S : List ByteArray} (h : InvA a wr v S) (hb : Below wr.heap.size wr w') : InvA a w' v S := ⟨h.bel.call hb, own_below h.own hb⟩
theorem InvA.val {a wr : World} {v : Value} {S : List ByteArray} (h : InvA a wr v S) : ∃ A c, v = .slice A S.length c ∧ RV wr A S.length 1 (SV S) := by
  rcases h.own.2 with ⟨rfl, h0⟩ | ⟨g, cap, cur, rfl, _⟩
  · have := h.own
    rw [h0] at this ⊢
    exact ⟨none, 0, rfl, RV.of_own this⟩
  · exact ⟨_, _, rfl, RV.of_own h.own⟩

/-- An append of texts that are read. -/
theorem InvA.more {a wr : World} {v : Value} {S : List ByteArray} (h : InvA a wr v S) {A : Option Addr} {m : Nat} (c : Nat) {T : List ByteArray} (hR : RV wr A m 1 (SV T)) (hl : (S.length : Int) + m ≤ 10000) :
    ∃ v' w', (Builtin.append_ #[25, 25] 25 #[v, .slice A m c]).run Tryd.prog wr = .ok v' w' ∧ InvA a w' v' (S ++ T) := by
  have hm := hR.sec
  obtain ⟨v', w', hap, hown, hgr, -⟩ := append_rv (P := Tryd.prog) (ty := 25) Tryd.underlying25 info9 rfl (by omega) h.own c hR (SV_one _) (by omega) (by omega) h.bel.size
  refine ⟨v', w', hap, h.bel.grown hgr h.bel.size (base_of_own h.own), ?_⟩
  rw [List.length_append, hm, SV_append]
  exact hown
theorem InvA.one {a wr : World} {v : Value} {S : List ByteArray} (h : InvA a wr v S) (s : ByteArray) (hl : (S.length : Int) ≤ 5000) :
    ∃ v' w', (Builtin.append_ #[25, 25] 25 #[v, .slice (some ⟨wr.heap.size, 0, none⟩) 1 1]).run Tryd.prog (wr.alloc (.cells #[.string s] 9)) = .ok v' w' ∧ InvA a w' v' (S ++ [s]) :=
  (h.call ((Below.refl _ _).push (.cells #[.string s] 9))).more 1 ((Blk.new wr 9 #[.string s]).rv (n := 1) (k := 1) (vs := SV [s]) rfl) (by omega)

/-- What is kept: the array of numbers, the head, the bodies, those that came in. -/
structure BackK (w wr : World) (hb : Nat) (k x y z : Nat) (A : Option Addr) (N : Nat) (L M : List ByteArray) (B : Option Addr) (m : Nat) : Prop where
  bel : Below w.heap.size w wr
  tab : Tab wr
  arr : Box wr w.heap.size (.int .u16 x) (.int .u16 y) (.int .u16 z)
  head : Box wr hb (.int .u8 k) (.int .i64 (1 + (y : Int))) (.int .i64 z)
  rv : RV wr A N 1 (SV L)
  more : RV wr B m 1 (SV M)
theorem BackK.call {w wr w' : World} {hb k x y z N m : Nat} {A B : Option Addr} {L M : List ByteArray} (h : BackK w wr hb k x y z A N L M B m) (hb' : Below wr.heap.size wr w') : BackK w w' hb k x y z A N L M B m :=
  ⟨h.bel.call hb', tab_call h.tab hb', h.arr.below hb' (cell_lt h.arr.c0), h.head.below hb' (cell_lt h.head.c0), h.rv.below hb', h.more.below hb'⟩

theorem back_counts (s : Nat) (hs : (s : Int) ≤ 1000) : (s : Int) ≤ longR (cntN s) ∧ (1 < cntN s → longR ((cntN s : Int) - 1) < s) ∧ (cntN s : Int) ≤ 100 ∧ 0 < cntN s := by
  unfold longR cntN
  refine ⟨?_, fun h => ?_, by omega, by omega⟩
  · rw [if_neg (by omega), if_neg (by omega)]; omega
  · rw [if_neg (by omega), if_neg (by omega)]; omega

theorem head_of (k y z : Nat) (hk : k < 256) (hy : (y : Int) ≤ 65535) (hz : (z : Int) ≤ 65535) : Head k (1 + y) z := ⟨hk, by omega, by omega, by omega⟩

set_option maxHeartbeats 1000000 in
set_option maxRecDepth 100000 in
theorem back_walk (x y z : Nat) (t : ByteArray) (B : Option Addr) (m c : Nat) (M : List ByteArray) (w : World) (hy : (y : Int) ≤ 65535) (hz : (z : Int) ≤ 65535) (hR : RV w B m 1 (SV M)) (hT : Tab w) :
    Calls Tryd.prog 5 #[.agg #[.int .u16 x, .int .u16 y, .int .u16 z], .string t, .slice B m c] w fun r w' => r = .returned (.bool true) ∧ Below w.heap.size w w' := by
  have HA := Lib.hid awake_any
  have HT := Lib.hid (tab_call hT ((Below.refl _ _).push (.cells #[.int .u16 x, .int .u16 y, .int .u16 z] 51)))
  by_cases h1 : (1000 : Int) < t.size
  · have hd : decide ((1000 : Int) < t.size) = true := decide_eq_true h1
    clear h1 hT hR hy hz
    go_enter Tryd.func5, Tryd.ntmps5
    go_wp2_with (go_at_call 7; (with_reducible refine (HA.out _ HT.out).mono ?_); rintro r w1 ⟨rfl, b1⟩; have HB1 := Lib.hid (((Below.refl _ w).push _).call b1); clear b1)
    go_ret
    exact ⟨rfl, HB1.out⟩
  · have hd : decide ((1000 : Int) < t.size) = false := decide_eq_false h1
    by_cases h2 : (5 : Int) < m
    · have hd2 : decide ((5 : Int) < m) = true := decide_eq_true h2
      clear h1 h2 hT hR hy hz
      go_enter Tryd.func5, Tryd.ntmps5
      go_wp2_with (go_at_call 7; (with_reducible refine (HA.out _ HT.out).mono ?_); rintro r w1 ⟨rfl, b1⟩; have HB1 := Lib.hid (((Below.refl _ w).push _).call b1); clear b1)
      go_ret
      exact ⟨rfl, HB1.out⟩
    · have hd2 : decide ((5 : Int) < m) = false := decide_eq_false h2
      obtain ⟨q1, q2, q3, q4⟩ := back_counts t.size (by omega)
      have ht : (t.size : Int) ≤ 16000 := by omega
      obtain ⟨k, hk, ek⟩ : ∃ k : Nat, k < 256 ∧ (x : Int) % 256 = k := ⟨x % 256, by omega, by omega⟩
      have hh := head_of k y z hk hy hz
      have HH : Hid (∀ W, Calls Tryd.prog 21 #[.int .u8 k, .int .u16 y, .int .u16 z] W fun r w' => r = .returned (.agg #[.int .u8 k, .int .i64 (1 + (y : Int)), .int .i64 z]) ∧ Below W.heap.size W w') := Lib.hid (fun W => head_any k y z W hy hz)
      have HL : Hid (∀ W, Tab W → Calls Tryd.prog 8 #[.agg #[.int .u8 k, .int .i64 (1 + (y : Int)), .int .i64 z], .string t] W fun r w' => ∃ A c, r = .returned (.tuple #[.slice A (cntN t.size) c, .int .i64 0]) ∧ RV w' A (cntN t.size) 1 (SV (bodiesT k (1 + y) z t)) ∧ Below W.heap.size W w' ∧ cntN t.size ≤ c) := Lib.hid (fun W h => by
        have := lay_ok (w := W) (t := t) hh ht h
        rw [show ((1 + y : Nat) : Int) = 1 + (y : Int) by omega] at this
        exact this)
      have HC := Lib.hid (fun W => count_any t.size W)
      rw [cnt_eq _ ht] at HC
      have HG := Lib.hid (fun W => longest_any (cntN t.size) W)
      have HG1 := Lib.hid (fun W => longest_any ((cntN t.size : Int) - 1) W)
      have HRM := Lib.hid hR
      have HLEN : Hid ((bodiesT k (1 + y) z t).length = cntN t.size) := Lib.hid bodiesT_len
      -- what is joined
      have HJ1 : Hid (∀ W A c, Tab W → RV W A (cntN t.size + m) 1 (SV (bodiesT k (1 + y) z t ++ M)) → Calls Tryd.prog 16 #[.agg #[.int .u8 k, .int .i64 (1 + (y : Int)), .int .i64 z], .slice A (cntN t.size + m) c] W fun r w' => r = .returned (.tuple #[.string t, .int .i64 (cntN t.size), .int .i64 0]) ∧ Below W.heap.size W w') := Lib.hid (fun W A c hT hR => by
        obtain ⟨e1, e2, e3⟩ := join_back hh ht (begins_append M)
        have := join_ok (c := c) hR hT e1 e2 e3
        rw [show ((1 + y : Nat) : Int) = 1 + (y : Int) by omega] at this
        exact this)
      have HJ2 : Hid (∀ W A c, Tab W → RV W A (cntN t.size) 1 (SV (bodiesT k (1 + y) z t)) → Calls Tryd.prog 16 #[.agg #[.int .u8 k, .int .i64 (1 + (y : Int)), .int .i64 z], .slice A (cntN t.size - 1) c] W fun r w' => r = .returned (.tuple #[.string ⟨#[]⟩, .int .i64 0, .int .i64 3]) ∧ Below W.heap.size W w') := Lib.hid (fun W A c hT hR => by
        have e := join_few hh ht (m := cntN t.size - 1) (by omega) (begins_take (k := k) (g := 1 + y) (n := z) (t := t) (cntN t.size - 1) (by omega)) (by rw [List.length_take, bodiesT_len]; omega)
        have := join_no (c := c) (rv_take hR (cntN t.size - 1) (by omega)) hT e (by decide)
        rw [show ((1 + y : Nat) : Int) = 1 + (y : Int) by omega] at this
        exact this)
      obtain ⟨y2, hy2, ey, hne⟩ : ∃ y2 : Nat, (y2 : Int) ≤ 65535 ∧ ((y : Int) + 1) % 65536 = y2 ∧ y2 ≠ y := ⟨(y + 1) % 65536, by omega, by omega, by omega⟩
      have HH2 : Hid (∀ W, Calls Tryd.prog 21 #[.int .u8 k, .int .u16 y2, .int .u16 z] W fun r w' => r = .returned (.agg #[.int .u8 k, .int .i64 (1 + (y2 : Int)), .int .i64 z]) ∧ Below W.heap.size W w') := Lib.hid (fun W => head_any k y2 z W hy2 hz)
      have HJ3 : Hid (∀ W A c, Tab W → RV W A (cntN t.size + m) 1 (SV (bodiesT k (1 + y) z t ++ M)) → Calls Tryd.prog 16 #[.agg #[.int .u8 k, .int .i64 (1 + (y2 : Int)), .int .i64 z], .slice A (cntN t.size + m) c] W fun r w' => r = .returned (.tuple #[.string ⟨#[]⟩, .int .i64 0, .int .i64 9]) ∧ Below W.heap.size W w') := Lib.hid (fun W A c hT hR => by
        have e := join_other hh ht (Nat.le_refl _) q4 (begins_append M) (g' := 1 + y2) (by omega)
        have := join_no (c := c) hR hT e (by decide)
        rw [show ((1 + y2 : Nat) : Int) = 1 + (y2 : Int) by omega] at this
        exact this)
      have HM := Lib.hid hR.sec
      clear hT h1 hR hk ht hh hy2 hne
      generalize cntN t.size = N at *
      generalize bodiesT k (1 + y) z t = L at *
      go_enter Tryd.func5, Tryd.ntmps5
      go_wp2_with fail
      with_reducible refine (HH.out _).mono ?_
      rintro r w1 ⟨rfl, b1⟩
      have X1 := (Box.new w (.int .u16 x) (.int .u16 y) (.int .u16 z) 51).below b1 (by simp)
      have HB1 := Lib.hid (((Below.refl _ w).push _).call b1)
      have HT1 := Lib.hid (tab_call HT.out b1)
      clear b1 HT
      go_wp2_with fail
      with_reducible refine (HL.out _ (tab_call HT1.out ((Below.refl _ _).push _))).mono ?_
      rintro r w2 ⟨A, c2, rfl, hR2, b2, hcap⟩
      have HBW2 := Lib.hid ((HB1.out.push (.cells #[.int .u8 k, .int .i64 (1 + (y : Int)), .int .i64 z] 29)).call b2)
      have HK2 : Hid (BackK w w2 w1.heap.size k x y z A N L M B m) := Lib.hid (BackK.mk HBW2.out (tab_call (tab_call HT1.out ((Below.refl _ _).push (.cells #[.int .u8 k, .int .i64 (1 + (y : Int)), .int .i64 z] 29))) b2)
        ((X1.alloc (cell_lt X1.c0) (.cells #[.int .u8 k, .int .i64 (1 + (y : Int)), .int .i64 z] 29)).below b2 (by have := cell_lt X1.c0; simp at this ⊢; omega)) ((Box.new w1 (.int .u8 k) (.int .i64 (1 + (y : Int))) (.int .i64 z) 29).below b2 (by simp)) hR2 (HRM.out.below HBW2.out))
      have HCAP := Lib.hid hcap
      clear hcap HRM HBW2 X1 HT1 HB1 hR2 b2 HL HH
      have HI0 := Lib.hid (InvA.start w2)
      generalize w1.heap.size = hb at *
      have g0 : ((N : Int) == 0) = false := by simp; omega
      have g1 : ((N : Int) != N) = false := by simp
      have g2 : decide (longR N < (t.size : Int)) = false := decide_eq_false (by omega)
      go_upto_region 5 with fail
      go_cut [80] (fun s80 wx => s80 = .bool false ∧ w2 = wx)
      case first =>
        by_cases hN1 : 1 < N
        · have g3 : decide ((1 : Int) < N) = true := decide_eq_true (by omega)
          have g4 : decide ((t.size : Int) ≤ longR ((N : Int) - 1)) = false := decide_eq_false (by have := q2 hN1; omega)
          clear q1 q2 hy hz
          go_wp2_with (first | (go_at_call 11; (with_reducible refine (HC.out _).mono ?_); rintro e w' ⟨rfl, rfl⟩) | (go_at_call 13; (first | (with_reducible refine (HG.out _).mono ?_) | (with_reducible refine (HG1.out _).mono ?_)); rintro e w' ⟨rfl, rfl⟩))
          go_meet
          exact ⟨rfl, rfl⟩
        · have g3 : decide ((1 : Int) < N) = false := decide_eq_false (by omega)
          clear q1 q2 hy hz
          go_wp2_with (first | (go_at_call 11; (with_reducible refine (HC.out _).mono ?_); rintro e w' ⟨rfl, rfl⟩) | (go_at_call 13; (first | (with_reducible refine (HG.out _).mono ?_) | (with_reducible refine (HG1.out _).mono ?_)); rintro e w' ⟨rfl, rfl⟩))
          go_meet
          exact ⟨rfl, rfl⟩
      case rest =>
        obtain ⟨rfl, rfl⟩ := hcut
        clear q1 q2 g0 g1 g2 HC HG HG1
        have hle : (N : Int) + 0 ≤ 1000 := by omega
        obtain ⟨v0, w3, hap, hI⟩ := HI0.out.more c2 HK2.out.rv (by have := HK2.out.rv.sec; simp; omega)
        rw [List.nil_append] at hI
        have HAP := Lib.hid hap
        have HI := Lib.hid hI
        have HW3 := Lib.hid hI.bel
        clear hap hI hle
        go_wp2_with (at_builtin; refine wpList_append_run rfl (.tmp 81) (.tmp 82) 25 25 rfl _ _ rfl rfl v0 w3 HAP.out ?_)
        have HI' : Hid (InvA w2 w3 v0 (L ++ M.take 0)) := Lib.hid (by simpa using HI.out)
        go_loopw [10, 11] (fun s10 s11 wr => ∃ j : Nat, j ≤ m ∧ s11 = .int .i64 j ∧ Hid (InvA w2 wr s10 (L ++ M.take j))) (fun _ s11 _ => m - (intOf s11).toNat)
        case atStart => exact ⟨0, Nat.zero_le _, rfl, HI'⟩
        case round =>
          obtain ⟨j, hj, rfl, HIr⟩ := hrel
          have HKr := Lib.hid (HK2.out.call HIr.out.bel)
          by_cases hlt : j < m
          · have hl : j < M.length := by have := HM.out; omega
            obtain ⟨b, off, rfl, hbl, hc⟩ := HKr.out.more.secAt hlt hl
            have HTK : Hid (M.take (j + 1) = M.take j ++ [M[j]]) := Lib.hid (List.take_succ_eq_append_getElem hl)
            generalize M[j] = s at *
            have hi : (j : Int) < m := by omega
            by_cases h60 : (60 : Int) < s.size
            · have g5 : decide ((60 : Int) < s.size) = true := decide_eq_true h60
              have HTr := Lib.hid HKr.out.tab
              have HBr := Lib.hid HKr.out.bel
              clear h60 hl HTK
              go_wp2_with (go_at_call 7; (with_reducible refine (HA.out _ HTr.out).mono ?_); rintro r w5 ⟨rfl, b5⟩; have HB5 := Lib.hid (HBr.out.call b5); clear b5)
              go_ret
              exact ⟨rfl, HB5.out⟩
            · have g5 : decide ((60 : Int) < s.size) = false := decide_eq_false h60
              obtain ⟨v', w', hap, hI⟩ := HIr.out.one s (by rw [List.length_append, List.length_take, HLEN.out]; omega)
              have HAP := Lib.hid hap
              have HI2 := Lib.hid hI
              clear h60 hl hap hI
              go_wp2_with (at_builtin; refine wpList_append_run rfl (.tmp 97) (.tmp 102) 25 25 rfl _ _ rfl rfl v' w' HAP.out ?_)
              go_roundw
              case rel => exact ⟨j + 1, by omega, by go_num, by rw [HTK.out, ← List.append_assoc]; exact HI2.out⟩
              case measure => simp [intOf]; omega
          · obtain rfl : j = m := by omega
            obtain ⟨A2, c4, rfl, hRA⟩ := HIr.out.val
            have hMj : M.take j = M := List.take_of_length_le (by have := HM.out; omega)
            have hLM : (L ++ M).length = N + j := by rw [List.length_append, HLEN.out, HM.out]
            rw [hMj, hLM] at hRA
            have HRA := Lib.hid hRA
            have hLT : (L ++ M.take j).length = N + j := by rw [hMj]; exact hLM
            rw [hLT]
            clear hLT hMj hLM hRA HIr HI HI' HI0 HAP HW3
            obtain ⟨h0, h1, h2', -, -, -⟩ := HKr.out.head
            go_wp2_with fail
            with_reducible refine (HJ1.out _ _ _ HKr.out.tab HRA.out).mono ?_
            rintro r w5 ⟨rfl, b5⟩
            have HK5 := Lib.hid (HKr.out.call b5)
            have HR5 := Lib.hid (HRA.out.below b5)
            clear b5 HKr HRA HJ1 h0 h1 h2'
            go_upto_region 16 with fail
            go_cut [17] (fun s17 wx => s17 = .int .i64 3 ∧ Hid (Below w5.heap.size w5 wx))
            case first =>
              obtain ⟨a0, a1, a2, -, -, -⟩ := HK5.out.head
              have hlh : hb < w5.heap.size := cell_lt a0
              have HTb := Lib.hid HK5.out.tab
              have HRb := Lib.hid HK5.out.rv
              have kk1 : IntKind.i64.wrap ((N : Int) - 1) = (N : Int) - 1 := IntWalk.i64_in _ (by omega)
              have kk2 : ((N : Int) - 1).toNat = N - 1 := by omega
              have kk3 : (0 : Int) ≤ (N : Int) - 1 := by omega
              have kk4 : (N : Int) - 1 ≤ c2 := by have := HCAP.out; omega
              have kk5 : (1 : Int) ≤ N := by omega
              have kk6 : (N : Int) ≤ (c2 : Int) + 1 := by omega
              go_region_held3 (fun W => W.cell? ⟨hb, 0, none⟩ = some (.int .u8 k) ∧ W.cell? ⟨hb, 1, none⟩ = some (.int .i64 (1 + (y : Int))) ∧ W.cell? ⟨hb, 2, none⟩ = some (.int .i64 z)) (go_keep)
                (first | (go_at_call 16; (first | (with_reducible refine (HJ2.out _ _ _ HTb.out HRb.out).mono ?_) | (refine (HJ2.out w5.drew _ _ HTb.out HRb.out).mono ?_)); rintro r w6 ⟨rfl, hb6⟩; have q0 : w6.cell? ⟨hb, 0, none⟩ = some (.int .u8 k) := (by rw [hb6.cell (p := ⟨hb, 0, none⟩) hlh]; exact a0); have q1 : w6.cell? ⟨hb, 1, none⟩ = some (.int .i64 (1 + (y : Int))) := (by rw [hb6.cell (p := ⟨hb, 1, none⟩) hlh]; exact a1); have q2 : w6.cell? ⟨hb, 2, none⟩ = some (.int .i64 z) := (by rw [hb6.cell (p := ⟨hb, 2, none⟩) hlh]; exact a2)))
              all_goals
                go_wp2_with fail
                go_meet
                exact ⟨rfl, Lib.hid (undrew hb6)⟩
            case rest =>
              obtain ⟨rfl, hbx⟩ := hcut
              have HK6 := Lib.hid (HK5.out.call hbx.out)
              have HR6 := Lib.hid (HR5.out.below hbx.out)
              obtain ⟨a0, a1, a2, -, -, -⟩ := HK6.out.arr
              clear hbx HK5 HR5 HJ2
              have eu : IntKind.u16.wrap ((y : Int) + 1) = y2 := by rw [IntKind.wrap_u16, ey]
              go_wp2_with fail
              with_reducible refine (HH2.out _).mono ?_
              rintro r w7 ⟨rfl, b7⟩
              have HK7 := Lib.hid (HK6.out.call b7)
              have HR7 := Lib.hid (HR6.out.below b7)
              clear b7 HK6 HR6 HH2 a0 a1 a2
              go_wp2_with fail
              with_reducible refine (HJ3.out _ _ _ HK7.out.tab HR7.out).mono ?_
              rintro r w8 ⟨rfl, b8⟩
              have HK8 := Lib.hid (HK7.out.call b8)
              have HB8 := Lib.hid HK8.out.bel
              have HT8 := Lib.hid HK8.out.tab
              have hq := str_eq t
              clear b8 HK7 HR7 HJ3 HK8
              go_wp2_with (go_at_call 7; (with_reducible refine (HA.out _ HT8.out).mono ?_); rintro r w9 ⟨rfl, b9⟩; have HB9 := Lib.hid (HB8.out.call b9); clear b9)
              go_ret
              exact ⟨rfl, HB9.out⟩

end Go.Proofs.YtcloakaenkhgpaaDoor.Shf
