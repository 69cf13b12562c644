import Derived.Test.YtkglolnghihegaaGreatDoorJrnP
import Derived.Test.YtkglolnghihegaaGreatDoorSlotsSmall
import Derived.Test.YtkglolnghihegaaGreatDoorSlotsDrain
import Derived.Test.YtkglolnghihegaaGreatDoorSltA
import Derived.Test.YtkglolnghihegaaGreatDoorSheafJoin
import Derived.Test.YtkglolnghihegaaGreatDoorSheafRJoin

/- Contracts of packages journal and errandref07: heads, Need, Most, Fits. -/
namespace Go.Proofs.YtkglolnghihegaaGreatDoor.Jrn
open Go.RowKit Go.Proofs.YtkglolnghihegaaGreatDoor.Dsk Go.Proofs.YtkglolnghihegaaGreatDoor.Sht Go.Proofs.YtkglolnghihegaaGreatDoor.Shf Go.Proofs.YtkglolnghihegaaGreatDoor.Slt

theorem jhead_any (g n : Int) (w : World) :
    Calls Tryz.prog 69 #[.int .i64 g, .int .i64 n] w fun r w' => r = .returned (HV 2 g n) ∧ Below w.heap.size w w' := by
  go_enter Tryz.func69, Tryz.ntmps69
  go_wp2
  refine bodyPost_ret (v := HV 2 g n) (by simp [results, Tryz.results69, go_sem]) rfl ⟨rfl, ?_⟩
  exact new1 w _

/-- May a disk have so many sectors? -/
def mayN (n : Int) : Bool := decide (16 ≤ n) && decide (n ≤ 512)
theorem mayN_yes {n : Int} (h : mayN n = true) : 16 ≤ n ∧ n ≤ 512 := by unfold mayN at h; simpa using h
theorem mayN_no {n : Int} (h : mayN n = false) : ¬ (16 ≤ n ∧ n ≤ 512) := by unfold mayN at h; simp at h; omega
theorem mayHaveJ_any (n : Int) (w : World) :
    Calls Tryz.prog 82 #[.int .i64 n] w fun r w' => r = .returned (.bool (mayN n)) ∧ w = w' := by
  unfold mayN
  rcases hb1 : decide (16 ≤ n) with _ | _ <;> rcases hb2 : decide (n ≤ 512) with _ | _ <;>
  · go_enter Tryz.func82, Tryz.ntmps82
    go_wp2
    go_ret
    exact ⟨rfl, rfl⟩

theorem cntR_pos {z : Int} : 0 < cntR z ↔ 0 ≤ z ∧ z ≤ 16000 := by unfold cntR; split <;> omega
theorem fitsR_eq (n p z : Int) : fitsR n p z = (mayN n && (decide (2 * sizR n ≤ p) && (decide (0 < cntR z) && decide (cntR z ≤ n - p)))) := by
  have := cntR_pos (z := z)
  unfold fitsR mayN
  rw [Bool.eq_iff_iff]
  simp only [decide_eq_true_eq, Bool.and_eq_true]
  omega
theorem fits_any (n p z : Int) (w : World) (hp : p ≤ 9223372036854775807) :
    Calls Tryz.prog 48 #[.int .i64 n, .int .i64 p, .int .i64 z] w fun r w' => r = .returned (.bool (fitsR n p z)) ∧ w = w' := by
  have HM := Lib.hid (fun W => mayHaveJ_any n W)
  have HB := Lib.hid (fun W => begin_any n W)
  have HC := Lib.hid (fun W => count_any z W)
  have h1 := sizR_nonneg n
  have h2 := sizR_le n
  obtain ⟨h3, h4⟩ := cntR_bound z
  rw [fitsR_eq]
  generalize sizR n = y at *
  generalize cntR z = x at *
  rcases hm : mayN n with _ | _
  · rw [hm] at HM
    clear hm HB hp
    go_enter Tryz.func48, Tryz.ntmps48
    go_wp2_with (first | (go_at_call 82; with_reducible refine (HM.out _).mono ?_; rintro e w' ⟨rfl, rfl⟩) | (go_at_call 81; with_reducible refine (HC.out _).mono ?_; rintro e w' ⟨rfl, rfl⟩))
    go_ret
    exact ⟨rfl, rfl⟩
  · obtain ⟨h5, h6⟩ := mayN_yes hm
    rw [hm] at HM
    clear hm
    rcases hb1 : decide (2 * y ≤ p) with _ | _
    · go_enter Tryz.func48, Tryz.ntmps48
      go_wp2_with (first | (go_at_call 82; with_reducible refine (HM.out _).mono ?_; rintro e w' ⟨rfl, rfl⟩) | (go_at_call 30; with_reducible refine (HB.out _).mono ?_; rintro e w' ⟨rfl, rfl⟩) | (go_at_call 81; with_reducible refine (HC.out _).mono ?_; rintro e w' ⟨rfl, rfl⟩))
      go_ret
      exact ⟨rfl, rfl⟩
    · have hyp : 2 * y ≤ p := of_decide_eq_true hb1
      rcases hb2 : decide (0 < x) with _ | _
      · go_enter Tryz.func48, Tryz.ntmps48
        go_wp2_with (first | (go_at_call 82; with_reducible refine (HM.out _).mono ?_; rintro e w' ⟨rfl, rfl⟩) | (go_at_call 30; with_reducible refine (HB.out _).mono ?_; rintro e w' ⟨rfl, rfl⟩) | (go_at_call 81; with_reducible refine (HC.out _).mono ?_; rintro e w' ⟨rfl, rfl⟩))
        go_ret
        exact ⟨rfl, rfl⟩
      · rcases hb3 : decide (x ≤ n - p) with _ | _ <;>
        · go_enter Tryz.func48, Tryz.ntmps48
          go_wp2_with (first | (go_at_call 82; with_reducible refine (HM.out _).mono ?_; rintro e w' ⟨rfl, rfl⟩) | (go_at_call 30; with_reducible refine (HB.out _).mono ?_; rintro e w' ⟨rfl, rfl⟩) | (go_at_call 81; with_reducible refine (HC.out _).mono ?_; rintro e w' ⟨rfl, rfl⟩))
          go_ret
          exact ⟨rfl, rfl⟩

theorem rfits_any (n p z : Int) (w : World) :
    Calls Tryz.prog 49 #[.int .i64 n, .int .i64 p, .int .i64 z] w fun r w' => r = .returned (.bool (fitsR n p z)) ∧ w = w' := by
  have HM := Lib.hid (fun W => rsize_any n W)
  have HB := Lib.hid (fun W => rbegin_any n W)
  have HC := Lib.hid (fun W => rcount_any z W)
  have h1 := sizR_nonneg n
  have h2 := sizR_le n
  obtain ⟨h3, h4⟩ := cntR_bound z
  unfold fitsR
  by_cases hm : 16 ≤ n ∧ n ≤ 512
  · obtain ⟨h5, h6⟩ := hm
    have h7 := sizR_of h5 h6
    generalize sizR n = y at *
    have hne : (y == 0) = false := by simp; omega
    have h8 : 4 ≤ y := by omega
    have h9 : y ≤ n := by omega
    clear h7
    by_cases hp : 2 * y ≤ p
    · by_cases hpn : p ≤ n
      · by_cases hz : 0 ≤ z
        · by_cases hz2 : z ≤ 16000
          · generalize cntR z = x at *
            have e : decide (16 ≤ n ∧ n ≤ 512 ∧ 2 * y ≤ p ∧ 0 ≤ z ∧ z ≤ 16000 ∧ x ≤ n - p) = decide (x ≤ n - p) := by
              rw [Bool.eq_iff_iff]; simp only [decide_eq_true_eq]; omega
            rw [e]
            clear e
            rcases hb3 : decide (x ≤ n - p) with _ | _ <;>
            · go_enter Tryz.func49, Tryz.ntmps49
              go_wp2_with (first | (go_at_call 73; with_reducible refine (HM.out _).mono ?_; rintro e w' ⟨rfl, rfl⟩) | (go_at_call 40; with_reducible refine (HB.out _).mono ?_; rintro e w' ⟨rfl, rfl⟩) | (go_at_call 83; with_reducible refine (HC.out _).mono ?_; rintro e w' ⟨rfl, rfl⟩))
              go_ret
              exact ⟨rfl, rfl⟩
          · rw [decide_eq_false (by omega)]
            go_enter Tryz.func49, Tryz.ntmps49
            go_wp2_with (first | (go_at_call 73; with_reducible refine (HM.out _).mono ?_; rintro e w' ⟨rfl, rfl⟩) | (go_at_call 40; with_reducible refine (HB.out _).mono ?_; rintro e w' ⟨rfl, rfl⟩))
            go_ret
            exact ⟨rfl, rfl⟩
        · rw [decide_eq_false (by omega)]
          go_enter Tryz.func49, Tryz.ntmps49
          go_wp2_with (first | (go_at_call 73; with_reducible refine (HM.out _).mono ?_; rintro e w' ⟨rfl, rfl⟩) | (go_at_call 40; with_reducible refine (HB.out _).mono ?_; rintro e w' ⟨rfl, rfl⟩))
          go_ret
          exact ⟨rfl, rfl⟩
      · rw [decide_eq_false (by omega)]
        go_enter Tryz.func49, Tryz.ntmps49
        go_wp2_with (first | (go_at_call 73; with_reducible refine (HM.out _).mono ?_; rintro e w' ⟨rfl, rfl⟩) | (go_at_call 40; with_reducible refine (HB.out _).mono ?_; rintro e w' ⟨rfl, rfl⟩))
        go_ret
        exact ⟨rfl, rfl⟩
    · rw [decide_eq_false (by omega)]
      go_enter Tryz.func49, Tryz.ntmps49
      go_wp2_with (first | (go_at_call 73; with_reducible refine (HM.out _).mono ?_; rintro e w' ⟨rfl, rfl⟩) | (go_at_call 40; with_reducible refine (HB.out _).mono ?_; rintro e w' ⟨rfl, rfl⟩))
      go_ret
      exact ⟨rfl, rfl⟩
  · rw [decide_eq_false (by omega)]
    have h5 : sizR n = 0 := by unfold sizR; rw [if_neg hm]
    rw [h5] at HM
    clear hm HB HC h1 h2 h3 h4 h5
    go_enter Tryz.func49, Tryz.ntmps49
    go_wp2_with (go_at_call 73; with_reducible refine (HM.out _).mono ?_; rintro e w' ⟨rfl, rfl⟩)
    go_ret
    exact ⟨rfl, rfl⟩

theorem needR_take {L : List ByteArray} {i : Nat} (h : i < L.length) : needR (L.take (i + 1)) = needR (L.take i) + cntR L[i].size := by
  rw [List.take_succ_eq_append_getElem h, needR_snoc]
end Go.Proofs.YtkglolnghihegaaGreatDoor.Jrn

/- Contracts of Scan of packages journal and errandref07. -/
namespace Go.Proofs.YtkglolnghihegaaGreatDoor.Jrn
open Go.RowKit Go.Proofs.YtkglolnghihegaaGreatDoor.Dsk Go.Proofs.YtkglolnghihegaaGreatDoor.Sht Go.Proofs.YtkglolnghihegaaGreatDoor.Shf Go.Proofs.YtkglolnghihegaaGreatDoor.Slt
open Go.Proofs.YtkglolnghihegaaGreatDoor.Crc (Tab)

/-- A slice's end. -/
theorem rv_slice {w : World} {A : Option Addr} {m c j : Nat} {L : List ByteArray} (h : RV w A m 1 (SV L)) (hc : m ≤ c) (hj : j ≤ m) : RV w (if c = j then A else A.map (·.add (j * 1))) (m - j) 1 (SV (L.drop j)) := by
  have hl := h.sec
  refine ⟨by rw [SV_length, List.length_drop]; omega, fun hn => ?_⟩
  obtain ⟨b, off, rfl, hb, ha⟩ := h.2 (by omega)
  rw [if_neg (by omega)]
  refine ⟨b, off + j, by rw [Option.map_some, Nat.mul_one, add_none], hb, fun i hi => ?_⟩
  have hi' : i < L.length - j := by rw [SV_length, List.length_drop] at hi; exact hi
  have := ha (j + i) (by rw [SV_length]; omega)
  rw [← Nat.add_assoc] at this
  rw [this]
  simp [SV]

/-- What is answered: texts, a place, an error. -/
def RetSc (w : World) (L : List ByteArray) (a e : Int) (r : Ending) (w' : World) : Prop := ∃ A m c, r = .returned (.tuple #[.slice A m c, .int .i64 a, .int .i64 e]) ∧ RV w' A m 1 (SV L) ∧ Below w.heap.size w w'
/-- .. and that their block is a new one. -/
def RetScN (w : World) (L : List ByteArray) (a e : Int) (r : Ending) (w' : World) : Prop := ∃ A m c, r = .returned (.tuple #[.slice A m c, .int .i64 a, .int .i64 e]) ∧ RV w' A m 1 (SV L) ∧ Below w.heap.size w w' ∧ ∀ b off, A = some ⟨b, off, none⟩ → w.heap.size ≤ b

section
variable (A : Option Addr) (n c : Nat) (A' : Option Addr) (m c' : Nat) (f : Int) (S : List ByteArray) (V : List Wr) (g : Int) (w : World) (hD : Dev w A n c A' m c' f S V)
include hD

theorem scan_no (h : ¬ chk S V f = 0) : Calls Tryz.prog 35 #[DV A n c A' m c' f, .int .i64 g] w (RetScN w [] 0 2) := by
  have HC := Lib.hid (check_any A n c A' m c' f S V _ (hD.new (D33 A n c A' m c' f)))
  have hne := neq0 h
  generalize chk S V f = e0 at *
  clear hD h
  go_enter Tryz.func35, Tryz.ntmps35
  go_wp2
  go_step3
  go_wp2_with (go_at_call 31; ((with_reducible refine HC.out.mono ?_); rintro e w1 ⟨rfl, hb1⟩; have HB := Lib.hid hb1; clear hb1))
  rw [Exit.noGoto_ret]
  refine bodyPost_ret (v := .tuple #[.slice none 0 0, .int .i64 0, .int .i64 2]) (by simp [results, Tryz.results35, go_sem]) rfl ?_
  exact ⟨_, _, _, rfl, RV.nil _ _ _, (new1 _ _).call HB.out, fun _ _ h => by cases h⟩

/-- What holds ahead of each round. -/
structure ScI (w1 wr : World) (L0 : List ByteArray) (N0 : Nat) (a0 g : Int) (k r : Nat) (B L : List ByteArray) (a : Int) (s8 s9 : Value) : Prop where
  out : OutR w1 wr L s9
  len : L.length = k
  fuel : k + r = 600
  bl : B.length ≤ r
  txt : L ++ scanL g r k B = L0
  num : a + scanN g r k B = a0 + N0
  lo : 0 ≤ a
  hi : a + B.length ≤ 2000
  rv : ∃ A m c, s8 = .slice A m c ∧ m ≤ c ∧ RV w1 A m 1 (SV B)

set_option maxHeartbeats 2000000 in
theorem scan_yes (hT : Tab w) (h : chk S V f = 0) (L0 : List ByteArray) (N0 : Nat) (hL : scanL g 600 0 (drainD S V f (2 * sizR S.length) S.length) = L0) (hN : scanN g 600 0 (drainD S V f (2 * sizR S.length) S.length) = N0) :
    Calls Tryz.prog 35 #[DV A n c A' m c' f, .int .i64 g] w (RetScN w L0 (2 * sizR S.length + N0) 0) := by
  have hC := check_any A n c A' m c' f S V _ (hD.new (D33 A n c A' m c' f))
  rw [h] at hC
  have HC := Lib.hid hC
  have hn := hD.sec.sec
  have hn5 : (n : Int) ≤ 512 := by obtain ⟨⟨-, h2, -⟩, -⟩ := chk_ok h; omega
  have HZ := Lib.hid (fun W => begin_any n W)
  have HDr := Lib.hid (fun W (hb : Below w.heap.size w W) => drain_cap A n c A' m c' f S V (2 * sizR S.length) S.length W (hD.below hb))
  have hdl : (drainD S V f (2 * sizR S.length) S.length).length ≤ 512 := by
    unfold drainD
    split
    · refine Nat.le_trans (drainL_len _) (Nat.le_trans part_mem ?_)
      rw [secsD_length]; omega
    · exact Nat.zero_le _
  unfold RetTC at HDr
  have h1 := sizR_nonneg n
  have h2 := sizR_le n
  generalize drainD S V f (2 * sizR S.length) S.length = D0 at *
  rw [hn] at HDr ⊢
  generalize sizR n = y at *
  have HT := Lib.hid hT
  have HF := Lib.hid (And.intro hdl (And.intro hL hN))
  have HJ := Lib.hid (fun k A m c B W (h1 : RV W A m 1 (SV B)) (h2 : Tab W) => join_any 2 g k A m c B W h1 h2)
  have HH := Lib.hid (fun k W => jhead_any g k W)
  unfold RetJ at HJ
  clear hD h hC hn hL hN hdl hT
  go_enter Tryz.func35, Tryz.ntmps35
  go_wp2
  go_step3
  go_wp2_with (first | (go_at_call 31; ((with_reducible refine HC.out.mono ?_); rintro e w1 ⟨rfl, hb1⟩; have HB := Lib.hid ((new1 w (D33 A n c A' m c' f)).call hb1); obtain ⟨c0, c1, c2, -, -, -⟩ := (Box.new w (.slice A n c) (.slice A' m c') (.int .i64 f) 29).call hb1; clear hb1)) | (go_at_call 30; with_reducible refine (HZ.out _).mono ?_; rintro r w2 ⟨rfl, rfl⟩))
  with_reducible refine (HDr.out _ HB.out).mono ?_
  rintro r w2 ⟨A1, m1, d1, rfl, hmd, hr1, b1⟩
  have HB2 := Lib.hid (HB.out.call b1)
  have HI0 : Hid (ScI w2 w2 L0 N0 (2 * y) g 0 600 D0 [] (2 * y) (.slice A1 m1 d1) (.slice none 0 0)) := Lib.hid
    ⟨⟨Below.refl _ _, World.ownsRow_nil _ _ _ _⟩, rfl, rfl, by have := HF.out.1; omega, by rw [HF.out.2.1]; rfl, by rw [HF.out.2.2], by omega, by have := HF.out.1; omega, _, _, _, rfl, hmd, hr1⟩
  clear b1 c0 c1 c2 HC HDr HB hr1 hmd HZ
  go_wp2
  go_step3
  go_wp2
  go_loopw [7, 8, 9] (fun s7 s8 s9 wr => ∃ (k r : Nat) (B L : List ByteArray) (a : Int), s7 = .int .i64 a ∧ (k : Int) ≤ 600 ∧ (∃ A m c, s8 = .slice A m c) ∧ (∃ A c, s9 = .slice A k c) ∧ Hid (ScI w2 wr L0 N0 (2 * y) g k r B L a s8 s9)) (fun s7 _ _ _ => (2001 - intOf s7).toNat)
  case atStart => exact ⟨0, 600, D0, [], 2 * y, rfl, by decide, ⟨_, _, _, rfl⟩, ⟨_, _, rfl⟩, HI0⟩
  case round =>
    obtain ⟨k, r, B, L, a, rfl, hk, ⟨A3, m3, d3, rfl⟩, ⟨A4, d4, rfl⟩, HI⟩ := hrel
    clear HI0
    obtain ⟨Ax, mx, cx, ex, hmc, hrv⟩ := HI.out.rv
    obtain ⟨rfl, rfl, rfl⟩ : A3 = Ax ∧ m3 = mx ∧ d3 = cx := by injection ex with e1 e2 e3; exact ⟨e1, e2, e3⟩
    have hbl := hrv.sec
    have HRV := Lib.hid hrv
    have hai := HI.out.lo
    have hbi := HI.out.hi
    clear hrv ex
    have HJr := Lib.hid (fun W (hb : Below wr.heap.size wr W) => HJ.out (k : Int) A3 m3 d3 B W ((HRV.out.below HI.out.out.bel).below hb) (Shf.tab_call HT.out ((HB2.out.call HI.out.out.bel).call hb)))
    by_cases hj : errJ 2 g k B = 0
    · obtain ⟨o1, o2, o3, -⟩ := errJ_some hj
      have hr1 : 1 ≤ r := by have := HI.out.bl; omega
      obtain ⟨r', rfl⟩ : ∃ r', r = r' + 1 := ⟨r - 1, by omega⟩
      have HSL := Lib.hid (And.intro (scanL_go (r := r') hj) (scanN_go (r := r') hj))
      rw [hj, if_pos rfl, if_pos rfl, o3] at HJr
      generalize (ofS B).toNat = o at *
      generalize textU (loadS B) = t at *
      clear hj o3
      go_wp2_with (go_at_call 69; with_reducible refine (HH.out _ _).mono ?_; rintro e w3 ⟨rfl, b3⟩; have HB3 := Lib.hid b3; clear b3)
      with_reducible refine (HJr.out _ HB3.out).mono ?_
      rintro e w4 ⟨rfl, b4⟩
      have HB4 := Lib.hid (HB3.out.trans (b4.mono HB3.out.size))
      have HO4 := Lib.hid (HI.out.out.call HB4.out)
      have hlk : L.length = k := HI.out.len
      obtain ⟨v', w', hap, hO⟩ := HO4.out.more (by omega) t
      have HAP := Lib.hid hap
      have HO := Lib.hid hO
      obtain ⟨Av, cv, rfl, hcv⟩ := hO.val
      have hsn : (L ++ [t]).length = k + 1 := by simp [hlk]
      clear b4 hap hO HJr HH
      go_wp2_with (at_builtin; refine wpList_append_run rfl (.tmp 39) (.tmp 41) 22 22 rfl _ _ rfl rfl (.slice Av (L ++ [t]).length cv) w' HAP.out ?_)
      go_roundw
      case rel =>
        refine ⟨k + 1, r', B.drop o, L ++ [t], a + o, by go_num, by have := HI.out.fuel; omega, ⟨_, _, _, rfl⟩, ⟨Av, cv, rfl⟩, Lib.hid ⟨by have := HO.out; rwa [hsn] at this, hsn, by have := HI.out.fuel; omega, by have := HI.out.bl; rw [List.length_drop]; omega, ?_, ?_, by omega, by rw [List.length_drop]; omega, ?_⟩⟩
        · rw [List.append_assoc, List.singleton_append, ← HI.out.txt, HSL.out.1]
        · rw [← HI.out.num, HSL.out.2]; push_cast; omega
        · exact ⟨_, _, _, rfl, by omega, by simpa using rv_slice HRV.out hmc (by omega)⟩
      case measure => simp [intOf]; omega
    · rw [if_neg hj, if_neg hj] at HJr
      have hje := hj
      have HEnd := Lib.hid (And.intro (scanL_stop (r := r) hj) (scanN_stop (r := r) hj))
      have hne : (errJ 2 g k B == 0) = false := by simpa using hj
      generalize errJ 2 g k B = e0 at *
      clear hj
      go_wp2_with (go_at_call 69; with_reducible refine (HH.out _ _).mono ?_; rintro e w3 ⟨rfl, b3⟩; have HB3 := Lib.hid b3; clear b3)
      with_reducible refine (HJr.out _ HB3.out).mono ?_
      rintro e w4 ⟨rfl, b4⟩
      have HB4 := Lib.hid (HB3.out.trans (b4.mono HB3.out.size))
      clear b4
      go_wp2_with fail
      refine bodyPost_ret (v := .tuple #[.slice A4 k d4, .int .i64 a, .int .i64 0]) (by simp [results, Tryz.results35, go_sem]) rfl ?_
      have e1 : L = L0 := by have := HI.out.txt; rw [HEnd.out.1, List.append_nil] at this; exact this
      have e2 : a = 2 * y + N0 := by have := HI.out.num; rw [HEnd.out.2] at this; simpa using this
      subst e1 e2
      have hown := HI.out.out.own
      rw [HI.out.len] at hown
      exact ⟨_, _, _, rfl, (RV.of_own hown).below HB4.out, HB2.out.call (HI.out.out.bel.call HB4.out), fun b off e => by
        have h1 := base_of_own hown b (by rw [e]; rfl)
        have h2 := HB2.out.size
        omega⟩

theorem scan_new (hT : Tab w) : Calls Tryz.prog 35 #[DV A n c A' m c' f, .int .i64 g] w (RetScN w (scanDL S V f g) (scanDA S V f g) (scanDE S V f)) := by
  unfold scanDL scanDA scanDE
  by_cases h : chk S V f = 0
  · rw [if_pos h, if_pos h, if_pos h]
    exact scan_yes A n c A' m c' f S V g w hD hT h _ _ rfl rfl
  · rw [if_neg h, if_neg h, if_neg h]
    exact scan_no A n c A' m c' f S V g w hD h
theorem scan_any (hT : Tab w) : Calls Tryz.prog 35 #[DV A n c A' m c' f, .int .i64 g] w (RetSc w (scanDL S V f g) (scanDA S V f g) (scanDE S V f)) :=
  (scan_new A n c A' m c' f S V g w hD hT).mono fun _ _ ⟨B, k, d, h1, h2, h3, _⟩ => ⟨B, k, d, h1, h2, h3⟩

theorem rscan_no (h : ¬ chk S V f = 0) : Calls Tryz.prog 41 #[DV A n c A' m c' f, .int .i64 g] w (RetSc w [] 0 2) := by
  have HC := Lib.hid (rcheck_any A n c A' m c' f S V _ (hD.new (D25 A n c A' m c' f)))
  have hne := neq0 h
  generalize chk S V f = e0 at *
  clear hD h
  go_enter Tryz.func41, Tryz.ntmps41
  go_wp2_with (go_at_call 37; ((with_reducible refine HC.out.mono ?_); rintro e w1 ⟨rfl, hb1⟩; have HB := Lib.hid hb1; clear hb1))
  refine bodyPost_ret (v := .tuple #[.slice none 0 0, .int .i64 0, .int .i64 2]) (by simp [results, Tryz.results41, go_sem]) rfl ?_
  exact ⟨_, _, _, rfl, RV.nil _ _ _, (new1 _ _).call HB.out⟩

/-- What holds ahead of each round. -/
structure RsI (w1 wr : World) (L0 : List ByteArray) (N0 b : Nat) (g : Int) (n k r q : Nat) (B L : List ByteArray) (s7 : Value) : Prop where
  out : OutR w1 wr L s7
  len : L.length = k
  fuel : k + r = 600
  bl : B.length ≤ r
  txt : L ++ scanL g r k B = L0
  num : q + scanN g r k B = b + N0
  hi : q + B.length ≤ n

omit hD in
theorem drainD_le {p q : Nat} (h : p ≤ q) : p + (drainD S V f p q).length ≤ q := by
  unfold drainD
  split
  · rename_i hok
    obtain ⟨-, -, -, h4⟩ := okS_yes hok
    have := drainL_len (Slt.part (secsD S V) (p : Int).toNat (q : Int).toNat)
    rw [Int.toNat_natCast, Int.toNat_natCast, part_length (by rw [secsD_length]; omega)] at this
    rw [Int.toNat_natCast, Int.toNat_natCast]
    omega
  · simpa using h

set_option maxHeartbeats 2000000 in
theorem rscan_yes (h : chk S V f = 0) (L0 : List ByteArray) (N0 : Nat) (hL : scanL g 600 0 (drainD S V f (2 * sizR S.length) S.length) = L0) (hN : scanN g 600 0 (drainD S V f (2 * sizR S.length) S.length) = N0) :
    Calls Tryz.prog 41 #[DV A n c A' m c' f, .int .i64 g] w (RetSc w L0 (2 * sizR S.length + N0) 0) := by
  have hC := rcheck_any A n c A' m c' f S V _ (hD.new (D25 A n c A' m c' f))
  rw [h] at hC
  have HC := Lib.hid hC
  have hn := hD.sec.sec
  obtain ⟨hn4, hn5⟩ : 16 ≤ n ∧ (n : Int) ≤ 512 := by obtain ⟨⟨h1, h2, -⟩, -⟩ := chk_ok h; omega
  have HZ := Lib.hid (fun W => rbegin_any n W)
  obtain ⟨b, hb⟩ : ∃ b : Nat, 2 * sizR S.length = (b : Int) := ⟨(2 * sizR S.length).toNat, by have := sizR_nonneg S.length; omega⟩
  have hbn : b ≤ n := by
    have : sizR S.length = (S.length : Int) / 4 := sizR_of (by omega) (by omega)
    omega
  rw [hb, hn] at hL hN
  rw [hb]
  rw [hn] at hb
  rw [hb] at HZ
  have HDr := Lib.hid (fun (q : Nat) W (hb : Below w.heap.size w W) => rdrain_any A n c A' m c' f S V q n W (hD.below hb))
  have HDd := Lib.hid (fun (q o : Nat) (h : o ≤ (drainD S V f q n).length) => drainD_drop (S := S) (V := V) (f := f) (p := q) (q := n) (n := o) h)
  have hD0 := drainD_le f S V hbn
  have HLe := Lib.hid (fun (q : Nat) (h : q ≤ n) => drainD_le f S V h)
  unfold RetT at HDr
  have HF := Lib.hid (And.intro hL hN)
  have HJ := Lib.hid (fun k A m c B W (h1 : RV W A m 1 (SV B)) h2 => rjoin_any 2 g k A m c B W h1 h2)
  unfold RetJ at HJ
  clear hD h hC hn hL hN hb
  go_enter Tryz.func41, Tryz.ntmps41
  go_wp2_with (first | (go_at_call 37; ((with_reducible refine HC.out.mono ?_); rintro e w1 ⟨rfl, hb1⟩; have HB := Lib.hid ((new1 w (D25 A n c A' m c' f)).call hb1); have HX := Lib.hid ((Box.new w (.slice A n c) (.slice A' m c') (.int .i64 f) 25).call hb1); obtain ⟨c0, c1, c2, -, -, -⟩ := (Box.new w (.slice A n c) (.slice A' m c') (.int .i64 f) 25).call hb1; clear hb1)) | (go_at_call 40; with_reducible refine (HZ.out _).mono ?_; rintro r w2 ⟨rfl, rfl⟩))
  have HI0 : Hid (RsI w1 w1 L0 N0 b g n 0 600 b (drainD S V f b n) [] (.slice none 0 0)) := Lib.hid
    ⟨⟨Below.refl _ _, World.ownsRow_nil _ _ _ _⟩, rfl, rfl, by omega, by rw [HF.out.1]; rfl, by rw [HF.out.2], by omega⟩
  clear c0 c1 c2 HC HZ hD0
  go_loopw [7, 8] (fun s7 s8 wr => ∃ (k r q : Nat) (L : List ByteArray), s8 = .int .i64 q ∧ (q : Int) ≤ n ∧ (k : Int) ≤ 600 ∧ (∃ A c, s7 = .slice A k c) ∧ Hid (RsI w1 wr L0 N0 b g n k r q (drainD S V f q n) L s7)) (fun _ s8 _ => n - (intOf s8).toNat)
  case atStart => exact ⟨0, 600, b, [], rfl, by omega, by decide, ⟨_, _, rfl⟩, HI0⟩
  case round =>
    obtain ⟨k, r, q, L, rfl, hqn, hk, ⟨A4, d4, rfl⟩, HI⟩ := hrel
    clear HI0
    have HBr := Lib.hid (HB.out.call HI.out.out.bel)
    obtain ⟨c0, c1, c2, -, -, -⟩ := HX.out.call HI.out.out.bel
    have hlc := (HX.out.call HI.out.out.bel).lt
    have HDq := Lib.hid (fun W (hb : Below wr.heap.size wr W) => HDr.out q W (HBr.out.call hb))
    have HDx := Lib.hid (fun o h => HDd.out q o h)
    have hle := HLe.out q (by omega)
    by_cases hlt : (q : Int) < n
    · generalize drainD S V f q n = B at *
      have HJr := Lib.hid (fun A m c W (h1 : RV W A m 1 (SV B)) (h2 : (m : Int) ≤ 1000) => HJ.out (k : Int) A m c B W h1 h2)
      go_wp2_with fail
      with_reducible refine (HDq.out _ (Below.refl _ _)).mono ?_
      rintro e w3 ⟨A3, m3, d3, rfl, hr3, b3⟩
      have hm4 : (m3 : Int) ≤ 1000 := by have := hr3.sec; omega
      by_cases hj : errJ 2 g k B = 0
      · obtain ⟨o1, o2, o3, -⟩ := errJ_some hj
        have hr1 : 1 ≤ r := by have := HI.out.bl; omega
        obtain ⟨r', rfl⟩ : ∃ r', r = r' + 1 := ⟨r - 1, by omega⟩
        have HSL := Lib.hid (And.intro (scanL_go (r := r') hj) (scanN_go (r := r') hj))
        have HJx := HJr.out A3 m3 d3 w3 hr3 hm4
        rw [hj, if_pos rfl, if_pos rfl, o3] at HJx
        generalize (ofS B).toNat = o at *
        generalize textU (loadS B) = t at *
        have HJy := Lib.hid HJx
        have HB3 := Lib.hid b3
        clear hj o3 HJx hr3 b3
        go_wp2_with fail
        refine HJy.out.mono ?_
        rintro e w4 ⟨rfl, b4⟩
        have HB4 := Lib.hid (HB3.out.trans (b4.mono HB3.out.size))
        have HO4 := Lib.hid (HI.out.out.call HB4.out)
        have hlk : L.length = k := HI.out.len
        obtain ⟨v', w', hap, hO⟩ := HO4.out.more (by omega) t
        have HAP := Lib.hid hap
        have HO := Lib.hid hO
        obtain ⟨Av, cv, rfl, hcv⟩ := hO.val
        have hsn : (L ++ [t]).length = k + 1 := by simp [hlk]
        have hdq := HDx.out o o2
        have HDB := Lib.hid hdq
        clear b4 hap hO HJr HJy hdq HJ HLe HDd HDr HDq HDx
        go_wp2_with (at_builtin; refine wpList_append_run rfl (.tmp 43) (.tmp 45) 22 22 rfl _ _ rfl rfl (.slice Av (L ++ [t]).length cv) w' HAP.out ?_)
        go_roundw
        case rel =>
          refine ⟨k + 1, r', q + o, L ++ [t], by go_num, by omega, by have := HI.out.fuel; omega, ⟨Av, cv, rfl⟩, Lib.hid ⟨by have := HO.out; rwa [hsn] at this, hsn, by have := HI.out.fuel; omega, by have := HI.out.bl; rw [HDB.out, List.length_drop]; omega, ?_, ?_, by rw [HDB.out, List.length_drop]; omega⟩⟩
          · rw [List.append_assoc, List.singleton_append, HDB.out, ← HI.out.txt, HSL.out.1]
          · rw [← HI.out.num, HDB.out, HSL.out.2]; omega
        case measure => simp [intOf]; omega
      · have HEnd := Lib.hid (And.intro (scanL_stop (r := r) hj) (scanN_stop (r := r) hj))
        have HJx := HJr.out A3 m3 d3 w3 hr3 hm4
        rw [if_neg hj, if_neg hj] at HJx
        have hne := neq0 hj
        generalize errJ 2 g k B = e0 at *
        have HJy := Lib.hid HJx
        have HB3 := Lib.hid b3
        clear hj HJx hr3 b3
        go_wp2_with fail
        refine HJy.out.mono ?_
        rintro e w4 ⟨rfl, b4⟩
        have HB4 := Lib.hid (HB3.out.trans (b4.mono HB3.out.size))
        clear b4
        go_wp2_with fail
        refine bodyPost_ret (v := .tuple #[.slice A4 k d4, .int .i64 q, .int .i64 0]) (by simp [results, Tryz.results41, go_sem]) rfl ?_
        have e1 : L = L0 := by have := HI.out.txt; rw [HEnd.out.1, List.append_nil] at this; exact this
        have e2 : q = b + N0 := by have := HI.out.num; rw [HEnd.out.2] at this; simpa using this
        subst e1 e2
        have hown := HI.out.out.own
        rw [HI.out.len] at hown
        exact ⟨_, _, _, by push_cast; rfl, (RV.of_own hown).below HB4.out, HBr.out.call HB4.out⟩
    · have hB : drainD S V f q n = [] := List.eq_nil_of_length_eq_zero (by omega)
      have hj : ¬ errJ 2 g k (drainD S V f q n) = 0 := fun x => by
        rw [hB] at x
        obtain ⟨o1, o2, -, -⟩ := errJ_some x
        simp only [List.length_nil] at o2
        omega
      have HEnd := Lib.hid (And.intro (scanL_stop (r := r) hj) (scanN_stop (r := r) hj))
      clear hj hB hle HDx HDq HLe
      go_wp2_with fail
      refine bodyPost_ret (v := .tuple #[.slice A4 k d4, .int .i64 q, .int .i64 0]) (by simp [results, Tryz.results41, go_sem]) rfl ?_
      have e1 : L = L0 := by have := HI.out.txt; rw [HEnd.out.1, List.append_nil] at this; exact this
      have e2 : q = b + N0 := by have := HI.out.num; rw [HEnd.out.2] at this; simpa using this
      subst e1 e2
      have hown := HI.out.out.own
      rw [HI.out.len] at hown
      exact ⟨_, _, _, by push_cast; rfl, RV.of_own hown, HBr.out⟩

theorem rscan_any : Calls Tryz.prog 41 #[DV A n c A' m c' f, .int .i64 g] w (RetSc w (scanDL S V f g) (scanDA S V f g) (scanDE S V f)) := by
  unfold scanDL scanDA scanDE
  by_cases h : chk S V f = 0
  · rw [if_pos h, if_pos h, if_pos h]
    exact rscan_yes A n c A' m c' f S V g w hD h _ _ rfl rfl
  · rw [if_neg h, if_neg h, if_neg h]
    exact rscan_no A n c A' m c' f S V g w hD h

end
end Go.Proofs.YtkglolnghihegaaGreatDoor.Jrn
