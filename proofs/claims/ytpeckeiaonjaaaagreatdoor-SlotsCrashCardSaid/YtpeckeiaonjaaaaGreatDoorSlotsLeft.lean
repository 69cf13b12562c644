/- Contract of left of the law SlotsCrash: where a crash leaves what may be, it returns true. -/
import Derived.Test.YtpeckeiaonjaaaaGreatDoorSltP
namespace Go.Proofs.YtpeckeiaonjaaaaGreatDoor.Slt
open Go.RowKit Go.Proofs.YtpeckeiaonjaaaaGreatDoor.Dsk Go.Proofs.YtpeckeiaonjaaaaGreatDoor.Sht Go.Proofs.YtpeckeiaonjaaaaGreatDoor.Shf
open Go.Proofs.YtpeckeiaonjaaaaGreatDoor.Crc (Tab)

set_option maxHeartbeats 1000000 in
theorem left_none (A : Option Addr) (n c : Nat) (A' : Option Addr) (m c' : Nat) (S : List ByteArray) (first : ByteArray) (B : Option Addr) (q d : Nat) (e : Int) (w : World) (hD : Dev w A n c A' m c' (-1) S []) (hT : Tab w)
    (h0 : loadDE S [] (-1) 0 = 0 ∧ loadDG S [] (-1) 0 = 1 ∧ loadDT S [] (-1) 0 = first) (h1 : loadDE S [] (-1) 1 ≠ 0) (hb : bestR S [] (-1) = ⟨0, 1, first, 0⟩) (he : e ≠ 0) :
    Calls Tryz.prog 32 #[DV A n c A' m c' (-1), .string first, .slice B q d, .int .i64 e] w fun r w' => r = .returned (.bool true) ∧ Below w.heap.size w w' := by
  have HL0 := Lib.hid (fun W (hb : Below w.heap.size w W) => load_any A n c A' m c' (-1) S [] 0 W (hD.below hb) (Shf.tab_call hT hb))
  have HL1 := Lib.hid (fun W (hb : Below w.heap.size w W) => load_any A n c A' m c' (-1) S [] 1 W (hD.below hb) (Shf.tab_call hT hb))
  have HBe := Lib.hid (fun W (hb : Below w.heap.size w W) => best_any A n c A' m c' (-1) S [] W (hD.below hb) (Shf.tab_call hT hb))
  rw [h0.1, h0.2.1, h0.2.2] at HL0
  rw [hb] at HBe
  unfold RetN at HL0 HL1
  unfold RetB at HBe
  dsimp only at HBe
  have hne := neq0 h1
  have hne2 := neq0 he
  generalize loadDG S [] (-1) 1 = g1 at *
  generalize loadDT S [] (-1) 1 = t1 at *
  generalize loadDE S [] (-1) 1 = e1 at *
  clear hD hT h0 h1 hb he
  go_enter Tryz.func32, Tryz.ntmps32
  go_wp2_with fail
  with_reducible refine (HL0.out _ (new1 w _)).mono ?_
  rintro r w1 ⟨rfl, b1⟩
  have HB1 := Lib.hid (((new1 w (D33 A n c A' m c' (-1))).call b1).push (.cells #[.int .i64 1, .string first] 50))
  have HY1 := Lib.hid (((St.new w A n c A' m c' (-1) 33).call b1).alloc (.cells #[.int .i64 1, .string first] 50))
  have HA1 := Lib.hid (Bx2.new w1 (.int .i64 1) (.string first) 50)
  obtain ⟨c0, c1_, c2, -, -, -⟩ := HY1.out.box
  have hly := HY1.out.lt
  clear b1
  go_wp2_with fail
  with_reducible refine (HL1.out _ HB1.out).mono ?_
  rintro r w2 ⟨rfl, b2⟩
  have HB2 := Lib.hid ((HB1.out.call b2).push (.cells #[.int .i64 g1, .string t1] 50))
  have HY2 := Lib.hid ((HY1.out.call b2).alloc (.cells #[.int .i64 g1, .string t1] 50))
  have HA2 := Lib.hid ((HA1.out.call b2).alloc (.cells #[.int .i64 g1, .string t1] 50))
  have HC2 := Lib.hid (Bx2.new w2 (.int .i64 g1) (.string t1) 50)
  clear b2 HB1 HY1 HA1 c0 c1_ c2 hly HL0 HL1
  obtain ⟨c0, c1_, c2, -, -, -⟩ := HY2.out.box
  have hly := HY2.out.lt
  go_wp2_with fail
  with_reducible refine (HBe.out _ HB2.out).mono ?_
  rintro r w3 ⟨rfl, b3⟩
  have HB3 := Lib.hid ((HB2.out.call b3).push (.cells #[.int .i64 1, .string first] 50))
  have HA3 := Lib.hid ((HA2.out.call b3).alloc (.cells #[.int .i64 1, .string first] 50))
  have HC3 := Lib.hid ((HC2.out.call b3).alloc (.cells #[.int .i64 1, .string first] 50))
  have hb3 := b3.size
  clear HB2 HY2 HBe c0 c1_ c2 hly
  obtain ⟨a0, a1, -, -⟩ := HA2.out.call b3
  have hla := (HA2.out.call b3).lt
  obtain ⟨d0, d1, -, -⟩ := HC2.out.call b3
  have hlc := (HC2.out.call b3).lt
  clear b3 HA2 HC2
  go_wp2_with fail
  go_ret
  exact ⟨rfl, HB3.out⟩

theorem WV_mem {M : List Wr} {x : Wr} (h : x ∈ M) : ∃ i, ∃ hi : i < M.length, M[i] = x := by
  obtain ⟨i, hi, e⟩ := List.getElem_of_mem h
  exact ⟨i, hi, e⟩

/-- Is it one of those so far? -/
def kn (M : List Wr) (x : Wr) (i : Nat) : Bool := (M.take i).any fun y => decide (y = x)
theorem kn_succ {M : List Wr} {x : Wr} {i : Nat} (h : i < M.length) : kn M x (i + 1) = (kn M x i || decide (M[i] = x)) := by
  unfold kn
  rw [List.take_succ_eq_append_getElem h, List.any_append]
  simp
theorem kn_all {M : List Wr} {x : Wr} (h : x ∈ M) {i : Nat} (hi : M.length ≤ i) : kn M x i = true := by
  unfold kn
  rw [List.take_of_length_le hi, List.any_eq_true]
  exact ⟨x, h, by simp⟩

set_option maxHeartbeats 1000000 in
theorem left_some (A : Option Addr) (n c : Nat) (A' : Option Addr) (m c' : Nat) (S : List ByteArray) (first : ByteArray) (B : Option Addr) (q d : Nat) (M : List Wr) (e g1 : Int) (t1 : ByteArray) (w : World) (hD : Dev w A n c A' m c' (-1) S []) (hT : Tab w) (hM : RV w B q 2 (WV M)) (hq : (q : Int) ≤ 100)
    (h0 : loadDE S [] (-1) 0 = 0 ∧ loadDG S [] (-1) 0 = 1 ∧ loadDT S [] (-1) 0 = first) (h1 : loadDE S [] (-1) 1 = 0) (hg : loadDG S [] (-1) 1 = g1) (ht : loadDT S [] (-1) 1 = t1) (hm : (g1, t1) ∈ M)
    (hb : bestR S [] (-1) = ⟨1, g1, t1, 0⟩) (he : e = 0 → ∃ M', M = M' ++ [(g1, t1)]) :
    Calls Tryz.prog 32 #[DV A n c A' m c' (-1), .string first, .slice B q d, .int .i64 e] w fun r w' => r = .returned (.bool true) ∧ Below w.heap.size w w' := by
  have HL0 := Lib.hid (fun W (hb : Below w.heap.size w W) => load_any A n c A' m c' (-1) S [] 0 W (hD.below hb) (Shf.tab_call hT hb))
  have HL1 := Lib.hid (fun W (hb : Below w.heap.size w W) => load_any A n c A' m c' (-1) S [] 1 W (hD.below hb) (Shf.tab_call hT hb))
  have HBe := Lib.hid (fun W (hb : Below w.heap.size w W) => best_any A n c A' m c' (-1) S [] W (hD.below hb) (Shf.tab_call hT hb))
  rw [h0.1, h0.2.1, h0.2.2] at HL0
  rw [h1, hg, ht] at HL1
  rw [hb] at HBe
  unfold RetN at HL0 HL1
  unfold RetB at HBe
  dsimp only at HBe
  have HM := Lib.hid hM
  have HMl := Lib.hid hM.wr
  have HK := Lib.hid (fun i => kn_all hm (i := i))
  have HLast := Lib.hid he
  clear hD hT h0 h1 hb he hg ht hM hm
  go_enter Tryz.func32, Tryz.ntmps32
  go_wp2_with fail
  with_reducible refine (HL0.out _ (new1 w _)).mono ?_
  rintro r w1 ⟨rfl, b1⟩
  have HB1 := Lib.hid (((new1 w (D33 A n c A' m c' (-1))).call b1).push (.cells #[.int .i64 1, .string first] 50))
  have HY1 := Lib.hid (((St.new w A n c A' m c' (-1) 33).call b1).alloc (.cells #[.int .i64 1, .string first] 50))
  have HA1 := Lib.hid (Bx2.new w1 (.int .i64 1) (.string first) 50)
  obtain ⟨c0, c1_, c2, -, -, -⟩ := HY1.out.box
  have hly := HY1.out.lt
  clear b1
  go_wp2_with fail
  with_reducible refine (HL1.out _ HB1.out).mono ?_
  rintro r w2 ⟨rfl, b2⟩
  have HB2 := Lib.hid ((HB1.out.call b2).push (.cells #[.int .i64 g1, .string t1] 50))
  have HY2 := Lib.hid ((HY1.out.call b2).alloc (.cells #[.int .i64 g1, .string t1] 50))
  have HA2 := Lib.hid ((HA1.out.call b2).alloc (.cells #[.int .i64 g1, .string t1] 50))
  have HC2 := Lib.hid (Bx2.new w2 (.int .i64 g1) (.string t1) 50)
  clear b2 HB1 HY1 HA1 c0 c1_ c2 hly HL0 HL1
  obtain ⟨c0, c1_, c2, -, -, -⟩ := HY2.out.box
  have hly := HY2.out.lt
  go_wp2_with fail
  with_reducible refine (HBe.out _ HB2.out).mono ?_
  rintro r w3 ⟨rfl, b3⟩
  have HB3 := Lib.hid ((HB2.out.call b3).push (.cells #[.int .i64 g1, .string t1] 50))
  have HA3 := Lib.hid ((HA2.out.call b3).alloc (.cells #[.int .i64 g1, .string t1] 50))
  have HC3 := Lib.hid ((HC2.out.call b3).alloc (.cells #[.int .i64 g1, .string t1] 50))
  have hb3 := b3.size
  clear HB2 HY2 HBe c0 c1_ c2 hly
  obtain ⟨a0, a1, -, -⟩ := HA2.out.call b3
  have hla := (HA2.out.call b3).lt
  obtain ⟨d0, d1, -, -⟩ := HC2.out.call b3
  have hlc := (HC2.out.call b3).lt
  clear b3 HA2 HC2
  go_wp2_with fail
  have HD3 := Lib.hid (Bx2.new w3 (.int .i64 g1) (.string t1) 50)
  have HM3 := Lib.hid (HM.out.below HB3.out)
  generalize (w3.alloc (.cells #[.int .i64 g1, .string t1] 50)) = W3 at *
  clear a0 a1 d0 d1 hla hlc HM
  go_loopw [16, 17] (fun s16 s17 wr => ∃ j : Nat, j ≤ q ∧ s17 = .int .i64 j ∧ s16 = .bool (kn M (g1, t1) j) ∧ Hid (Below W3.heap.size W3 wr)) (fun _ s17 _ => q - (intOf s17).toNat)
  case atStart => exact ⟨0, Nat.zero_le _, rfl, by simp [kn], Lib.hid (Below.refl _ _)⟩
  case round =>
    obtain ⟨j, hj, rfl, rfl, HI⟩ := hrel
    obtain ⟨a0, a1, -, -⟩ := HA3.out.call HI.out
    obtain ⟨d0, d1, -, -⟩ := HC3.out.call HI.out
    obtain ⟨e0, e1, -, -⟩ := HD3.out.call HI.out
    by_cases hlt : j < q
    · have hlM : j < M.length := by have := HMl.out; omega
      obtain ⟨b, off, rfl, hb, hc0, hc1⟩ := (HM3.out.below HI.out).wrAt hlt hlM
      have HK1 := Lib.hid (kn_succ (x := (g1, t1)) hlM)
      have HId := Lib.hid (HI.out.drew)
      generalize M[j] = x at *
      obtain ⟨xg, xt⟩ := x
      dsimp only at hc0 hc1
      rcases hkj : kn M (g1, t1) j with _ | _
      · rw [hkj, Bool.false_or] at HK1
        by_cases hg : xg = g1
        · subst hg
          by_cases ht : xt = t1
          · subst ht
            rw [decide_eq_true rfl] at HK1
            go_wp2_with fail
            go_region
            all_goals (
              go_wp2_with fail
              go_roundw
              case rel => exact ⟨j + 1, by omega, by go_num, by rw [HK1.out], HId⟩
              case measure => simp [intOf]; omega)
          · have htb : ¬ xt.toList = t1.toList := by rw [ByteArray.toList_eq, ByteArray.toList_eq]; exact fun h => ht (list_ext h)
            rw [decide_eq_false (by simp [ht])] at HK1
            go_wp2_with fail
            go_region
            all_goals (
              go_wp2_with fail
              go_roundw
              case rel => exact ⟨j + 1, by omega, by go_num, by rw [HK1.out], HId⟩
              case measure => simp [intOf]; omega)
        · have hgb : (xg == g1) = false := by simpa using hg
          rw [decide_eq_false (by simp [hg])] at HK1
          go_wp2_with fail
          go_region
          all_goals (
            go_wp2_with fail
            go_roundw
            case rel => exact ⟨j + 1, by omega, by go_num, by rw [HK1.out], HId⟩
            case measure => simp [intOf]; omega)
      · rw [hkj, Bool.true_or] at HK1
        go_wp2_with fail
        go_region
        all_goals (
          go_wp2_with fail
          go_roundw
          case rel => exact ⟨j + 1, by omega, by go_num, by rw [HK1.out], HId⟩
          case measure => simp [intOf]; omega)
    · obtain rfl : j = q := by omega
      rw [HK.out j (by have := HMl.out; omega)]
      by_cases he : e = 0
      · obtain ⟨M', hM'⟩ := HLast.out he
        have hl := HMl.out
        rw [hM'] at hl
        obtain ⟨k, rfl⟩ : ∃ k, j = k + 1 := ⟨M'.length, by simpa using hl.symm⟩
        have hk : k < M.length := by rw [hM', hl]; omega
        have hx : M[k] = (g1, t1) := by
          subst hM'
          have : k = M'.length := by simp at hl; omega
          subst this
          simp
        obtain ⟨b, off, rfl, hb, hc0, hc1⟩ := (HM3.out.below HI.out).wrAt (show k < k + 1 by omega) hk
        rw [hx] at hc0 hc1
        dsimp only at hc0 hc1
        subst he
        clear hx hk hM' hl hlt
        go_wp2_with fail
        go_region
        all_goals (
          go_wp2_with fail
          go_ret
          exact ⟨rfl, HB3.out.call HI.out.drew⟩)
      · have hne := neq0 he
        go_wp2_with fail
        go_region
        all_goals (
          go_wp2_with fail
          go_ret
          exact ⟨rfl, HB3.out.call HI.out.drew⟩)

theorem left_any {S1 S : List ByteArray} {M M' : List Sn} {b : Nat} {first : ByteArray} {e g : Int} {t : ByteArray} (hI : CInv S1 S M b) (hF : First S1 first) (hb : b ≤ 256) (hMM : M = M' ++ [(g, t)])
    (hok : e = 0 → loadDE S [] (-1) 1 = 0 ∧ loadDG S [] (-1) 1 = g ∧ loadDT S [] (-1) 1 = t)
    (A : Option Addr) (n c : Nat) (A' : Option Addr) (m c' : Nat) (B : Option Addr) (q d : Nat) (w : World) (hD : Dev w A n c A' m c' (-1) S []) (hT : Tab w) (hM : RV w B q 2 (WV M)) (hq : (q : Int) ≤ 100) :
    Calls Tryz.prog 32 #[DV A n c A' m c' (-1), .string first, .slice B q d, .int .i64 e] w fun r w' => r = .returned (.bool true) ∧ Below w.heap.size w w' := by
  rcases hI.best hF hb with ⟨h1, h2⟩ | ⟨h1, h2, h3⟩
  · exact left_none A n c A' m c' S first B q d e w hD hT (hI.zero hF) h1 h2 (fun he => h1 (hok he).1)
  · exact left_some A n c A' m c' S first B q d M e _ _ w hD hT hM hq (hI.zero hF) h1 rfl rfl h2 h3 (fun he => ⟨M', by rw [hMM, (hok he).2.1, (hok he).2.2]⟩)

end Go.Proofs.YtpeckeiaonjaaaaGreatDoor.Slt
