/- Contracts of the document's answer for package sheet (errandref04). -/
import Derived.Test.YtkglolnghihegaaGreatDoorOctR
import Derived.Test.YtkglolnghihegaaGreatDoorSheetSeal
import Derived.Test.YtkglolnghihegaaGreatDoorSheetOpenC
import Derived.Laws.BytesArg
import Derived.Laws.IdiomStrings
namespace Go.Proofs.YtkglolnghihegaaGreatDoor.Sht
open Go.RowKit Go.Proofs.YtkglolnghihegaaGreatDoor.Oct

theorem conv_reads {w : World} {a : Option Addr} {n cap : Nat} {l : List UInt8} (h : Reads w a n l) : (convert 59 9 (.slice a n cap)).run Tryz.prog w = .ok (.string ⟨l.toArray⟩) w := by
  obtain ⟨rfl, h2⟩ := h
  by_cases h0 : l.length = 0
  · obtain rfl := List.length_eq_zero_iff.1 h0
    cases a with
    | none => exact run_convert_bytes_nil w 59 5 Tryz.underlying59 Tryz.underlying5 _ _ 9 Tryz.underlying9
    | some ad => exact run_convert_bytes_back w 59 9 5 ad cap [] Tryz.underlying59 Tryz.underlying5 Tryz.underlying9 (fun j hj => by simp at hj)
  · obtain ⟨ad, rfl, hl, hc⟩ := h2 (by omega)
    exact run_convert_bytes_back w 59 9 5 ad cap l Tryz.underlying59 Tryz.underlying5 Tryz.underlying9 hc

theorem rnumber_any (s : ByteArray) (p : Nat) (w : World) (hs : s.size ≤ maxLen) (h : p + 6 ≤ s.size) :
    Calls Tryz.prog 108 #[.string s, .int .i64 p] w fun e w' => e = .returned (.int .i64 (natBE ((s.data.toList.drop p).take 6))) ∧ Below w.heap.size w w' := by
  have hn := fun W => rnum_ok s p 6 W hs (by omega) (by omega) (by omega) (by omega)
  have e : numAt s p (Int.toNat 6) = natBE ((s.data.toList.drop p).take 6) := by simp [numAt]
  rw [e] at hn
  have HN := Lib.hid hn
  generalize natBE ((s.data.toList.drop p).take 6) = N at *
  clear hn e hs h
  go_enter Tryz.func108, Tryz.ntmps108
  go_wp2_with fail
  with_reducible refine (HN.out _).mono ?_
  rintro r w1 ⟨rfl, hb⟩
  have HB := Lib.hid hb
  clear hb
  go_wp2_with fail
  go_ret
  exact ⟨rfl, HB.out.push _⟩

/-- Numbers of as many bytes are the same just if the bytes are. -/
theorem natBE_inj : ∀ n, ∀ l m : List UInt8, l.length = n → m.length = n → natBE l = natBE m → l = m := by
  intro n
  induction n with
  | zero => intro l m hl hm _; rw [List.length_eq_zero_iff.1 hl, List.length_eq_zero_iff.1 hm]
  | succ n ih =>
    intro l m hl hm h
    have snoc : ∀ k : List UInt8, k.length = n + 1 → ∃ k' b, k = k' ++ [b] ∧ k'.length = n := by
      intro k hk
      rcases List.eq_nil_or_concat k with rfl | ⟨k', b, rfl⟩
      · simp at hk
      · exact ⟨k', b, by simp, by simpa using hk⟩
    obtain ⟨l', a, rfl, hl'⟩ := snoc l hl
    obtain ⟨m', b, rfl, hm'⟩ := snoc m hm
    rw [natBE_snoc, natBE_snoc] at h
    have ha := a.toNat_lt
    have hb := b.toNat_lt
    have e1 : natBE l' = natBE m' := by omega
    have e2 : a = b := UInt8.toNat_inj.1 (by omega)
    rw [ih l' m' hl' hm' e1, e2]

theorem ropen_form (s : ByteArray) (w : World) (h : (((s.size : Int)) != 64) = true) :
    Calls Tryz.prog 114 #[.string s] w fun e w' => e = .returned (.tuple #[.int .i64 0, .string ⟨#[]⟩, .int .i64 4]) ∧ Below w.heap.size w w' := by
  go_enter Tryz.func114, Tryz.ntmps114
  go_wp2_with fail
  go_ret3
  exact ⟨rfl, Below.refl _ _⟩

theorem ropen_two (s : ByteArray) (h : s.size = 64) :
    (∀ W, Calls Tryz.prog 108 #[.string s, .int .i64 0] W fun e w' => e = .returned (.int .i64 (natBE (s.data.toList.take 6))) ∧ Below W.heap.size W w') ∧
    (∀ W, Calls Tryz.prog 108 #[.string s, .int .i64 58] W fun e w' => e = .returned (.int .i64 (natBE ((s.data.toList.drop 58).take 6))) ∧ Below W.heap.size W w') := by
  have hm : s.size ≤ maxLen := by unfold maxLen; omega
  refine ⟨fun W => ?_, fun W => ?_⟩
  · have := rnumber_any s 0 W hm (by omega); simpa using this
  · have := rnumber_any s 58 W hm (by omega); simpa using this

set_option maxRecDepth 20000 in
theorem ropen_yes (s : ByteArray) (w : World) (h : s.size = 64) :
    Calls Tryz.prog 114 #[.string s] w fun e w' => e = .returned (.tuple #[.int .i64 (openR s).1, .string (openR s).2.1, .int .i64 (openR s).2.2]) ∧ Below w.heap.size w w' := by
  obtain ⟨hn1, hn2⟩ := ropen_two s h
  have hl1 : (s.data.toList.take 6).length = 6 := by simp; omega
  have hl2 : ((s.data.toList.drop 58).take 6).length = 6 := by simp; omega
  have e : openR s = if natBE (s.data.toList.take 6) = natBE ((s.data.toList.drop 58).take 6) then
      (if 1 ≤ natBE (s.data.toList.take 6) ∧ natBE (s.data.toList.take 6) ≤ 1099511627776 then (((natBE (s.data.toList.take 6) : Nat) : Int), s.extract 6 58, (0 : Int)) else (0, ⟨#[]⟩, 8))
      else (0, ⟨#[]⟩, 3) := by
    unfold openR
    rw [if_pos h]
    by_cases he : s.data.toList.take 6 = (s.data.toList.drop 58).take 6
    · rw [if_pos he, if_pos (congrArg natBE he)]
    · rw [if_neg he, if_neg (fun x => he (natBE_inj 6 _ _ hl1 hl2 x))]
  rw [e]
  have HN1 := Lib.hid hn1
  have HN2 := Lib.hid hn2
  generalize natBE (s.data.toList.take 6) = A at *
  generalize natBE ((s.data.toList.drop 58).take 6) = B at *
  clear hn1 hn2 hl1 hl2 e
  have hs : ((s.size : Int) != 64) = false := by rw [h]; rfl
  by_cases hab : A = B
  · subst hab
    rw [if_pos rfl]
    by_cases hr : 1 ≤ A ∧ A ≤ 1099511627776
    · rw [if_pos hr]
      have d1 : decide ((A : Int) < 1) = false := decide_eq_false (by omega)
      have d2 : decide ((1099511627776 : Int) < A) = false := decide_eq_false (by omega)
      clear hr
      go_enter Tryz.func114, Tryz.ntmps114
      go_wp2_with fail
      with_reducible refine (HN1.out _).mono ?_
      rintro r w1 ⟨rfl, hb⟩
      have HB := Lib.hid hb
      clear hb
      go_wp2_with fail
      with_reducible refine (HN2.out _).mono ?_
      rintro r w2 ⟨rfl, hb⟩
      have HB2 := Lib.hid (HB.out.call hb)
      clear hb
      go_wp2_with fail
      go_quiet (fail)
      go_wp2_with fail
      go_ret3
      exact ⟨rfl, HB2.out.drewN _⟩
    · rw [if_neg hr]
      by_cases d1 : (A : Int) < 1
      all_goals
        first
        | (have d2 : (1099511627776 : Int) < A := by omega
           have d3 : decide ((A : Int) < 1) = false := decide_eq_false d1)
        | skip
        clear hr
        go_enter Tryz.func114, Tryz.ntmps114
        go_wp2_with fail
        with_reducible refine (HN1.out _).mono ?_
        rintro r w1 ⟨rfl, hb⟩
        have HB := Lib.hid hb
        clear hb
        go_wp2_with fail
        with_reducible refine (HN2.out _).mono ?_
        rintro r w2 ⟨rfl, hb⟩
        have HB2 := Lib.hid (HB.out.call hb)
        clear hb
        go_wp2_with fail
        go_ret3
        exact ⟨rfl, HB2.out⟩
  · rw [if_neg hab]
    have hne : ((A : Int) != (B : Int)) = true := by simp; omega
    go_enter Tryz.func114, Tryz.ntmps114
    go_wp2_with fail
    with_reducible refine (HN1.out _).mono ?_
    rintro r w1 ⟨rfl, hb⟩
    have HB := Lib.hid hb
    clear hb
    go_wp2_with fail
    with_reducible refine (HN2.out _).mono ?_
    rintro r w2 ⟨rfl, hb⟩
    have HB2 := Lib.hid (HB.out.call hb)
    clear hb
    go_wp2_with fail
    go_ret3
    exact ⟨rfl, HB2.out⟩

theorem ropen_any (s : ByteArray) (w : World) :
    Calls Tryz.prog 114 #[.string s] w fun e w' => e = .returned (.tuple #[.int .i64 (openR s).1, .string (openR s).2.1, .int .i64 (openR s).2.2]) ∧ Below w.heap.size w w' := by
  by_cases h : s.size = 64
  · exact ropen_yes s w h
  · rw [openR, if_neg h]; exact ropen_form s w (by simp; omega)

theorem rwhole_any (s : ByteArray) (w : World) :
    Calls Tryz.prog 113 #[.string s] w fun e w' => e = .returned (.bool ((openR s).2.2 == 0)) ∧ Below w.heap.size w w' := by
  have HO := Lib.hid (fun W => ropen_any s W)
  generalize openR s = o at *
  obtain ⟨n, b, e⟩ := o
  go_enter Tryz.func113, Tryz.ntmps113
  go_wp2_with fail
  refine (HO.out _).mono ?_
  rintro r w1 ⟨rfl, hb⟩
  go_wp2_with fail
  go_ret
  exact ⟨rfl, hb⟩

theorem rtop_no (s : ByteArray) (w : World) (h : (((s.size : Int)) != 64) = true) :
    Calls Tryz.prog 71 #[.string s] w fun e w' => e = .returned (.int .i64 0) ∧ Below w.heap.size w w' := by
  go_enter Tryz.func71, Tryz.ntmps71
  go_wp2_with fail
  go_ret
  exact ⟨rfl, Below.refl _ _⟩

theorem rtop_yes (s : ByteArray) (w : World) (h : s.size = 64) :
    Calls Tryz.prog 71 #[.string s] w fun e w' => e = .returned (.int .i64 (topR s)) ∧ Below w.heap.size w w' := by
  obtain ⟨hn1, hn2⟩ := ropen_two s h
  unfold topR
  rw [if_pos h]
  have HN1 := Lib.hid hn1
  have HN2 := Lib.hid hn2
  generalize natBE (s.data.toList.take 6) = A at *
  generalize natBE ((s.data.toList.drop 58).take 6) = B at *
  clear hn1 hn2
  rw [show (if A < B then (B : Int) else A) = max (A : Int) (B : Int) from by split <;> omega]
  have hs : ((s.size : Int) != 64) = false := by rw [h]; rfl
  clear h
  go_enter Tryz.func71, Tryz.ntmps71
  go_wp2_with fail
  with_reducible refine (HN1.out _).mono ?_
  rintro r w1 ⟨rfl, hb⟩
  have HB1 := Lib.hid hb
  clear hb
  go_wp2_with fail
  with_reducible refine (HN2.out _).mono ?_
  rintro r w2 ⟨rfl, hb⟩
  have HB := Lib.hid (HB1.out.call hb)
  clear hb
  go_wp2_with fail
  go_ret
  exact ⟨rfl, HB.out⟩

theorem rtop_any (s : ByteArray) (w : World) : Calls Tryz.prog 71 #[.string s] w fun e w' => e = .returned (.int .i64 (topR s)) ∧ Below w.heap.size w w' := by
  by_cases h : s.size = 64
  · exact rtop_yes s w h
  · rw [topR, if_neg h]; exact rtop_no s w (by simp; omega)

theorem rseal_lo (n : Int) (b : ByteArray) (w : World) (h : n < 1) :
    Calls Tryz.prog 118 #[.int .i64 n, .string b] w fun e w' => e = .returned (.tuple #[.string ⟨#[]⟩, .int .i64 8]) ∧ Below w.heap.size w w' := by
  go_enter Tryz.func118, Tryz.ntmps118
  go_wp2_with fail
  go_ret2
  exact ⟨rfl, Below.refl _ _⟩
theorem rseal_hi (n : Int) (b : ByteArray) (w : World) (h : 1099511627776 < n) :
    Calls Tryz.prog 118 #[.int .i64 n, .string b] w fun e w' => e = .returned (.tuple #[.string ⟨#[]⟩, .int .i64 8]) ∧ Below w.heap.size w w' := by
  have h' : decide (n < 1) = false := decide_eq_false (by omega)
  go_enter Tryz.func118, Tryz.ntmps118
  go_wp2_with fail
  go_ret2
  exact ⟨rfl, Below.refl _ _⟩
theorem rseal_long (n : Int) (b : ByteArray) (w : World) (h1 : 1 ≤ n) (h2 : n ≤ 1099511627776) (h3 : (52 : Int) < b.size) :
    Calls Tryz.prog 118 #[.int .i64 n, .string b] w fun e w' => e = .returned (.tuple #[.string ⟨#[]⟩, .int .i64 5]) ∧ Below w.heap.size w w' := by
  have d1 : decide (n < 1) = false := decide_eq_false (by omega)
  have d2 : decide (1099511627776 < n) = false := decide_eq_false (by omega)
  clear h1 h2
  go_enter Tryz.func118, Tryz.ntmps118
  go_wp2_with fail
  go_ret2
  exact ⟨rfl, Below.refl _ _⟩

set_option maxRecDepth 20000 in
set_option maxHeartbeats 400000 in
theorem rseal_ok (n : Nat) (b : ByteArray) (w : World) (h1 : 1 ≤ n) (h2 : n ≤ 1099511627776) (h3 : b.size ≤ 52) :
    Calls Tryz.prog 118 #[.int .i64 n, .string b] w fun e w' => e = .returned (.tuple #[.string ⟨(sealB n b).toArray⟩, .int .i64 0]) ∧ Below w.heap.size w w' := by
  have HP := Lib.hid (fun W => rput_ok none 0 0 [] 6 n W ⟨rfl, fun h => absurd h (by omega)⟩ (by omega) (by omega) (by omega) (by omega) (by omega))
  have d1 : decide ((n : Int) < 1) = false := decide_eq_false (by omega)
  have d2 : decide ((1099511627776 : Int) < n) = false := decide_eq_false (by omega)
  have d3 : decide ((52 : Int) < b.size) = false := decide_eq_false (by omega)
  rw [List.nil_append, show ((6 : Nat) : Int) = 6 from rfl] at HP
  have hl : (beB 6 n).length = 6 := beB_length _ _
  have hS : sealB n b = beB 6 n ++ (b.data.toList ++ (List.replicate (52 - b.size) 0 ++ beB 6 n)) := rfl
  generalize beB 6 n = l at *
  clear h1 h2
  go_enter Tryz.func118, Tryz.ntmps118
  go_wp2_with fail
  with_reducible refine (HP.out _).mono ?_
  rintro r w1 ⟨v, rfl, ho, hb⟩
  obtain ⟨a, cap, rfl, hr⟩ := ho.reads
  have HB := Lib.hid hb
  clear hb
  rw [hl] at hr
  have hcv := conv_reads (cap := cap) hr
  have hmk := run_make_row' (P := Tryz.prog) 59 5 (.int .u8 0) 1 Tryz.underlying59 Tryz.info5 rfl .i64 .i64 (52 - b.size) (by omega) (by omega) w1
  rw [show ((52 - b.size : Nat) : Int) = 52 - b.size from by omega] at hmk
  have hz := made_row w1 (52 - b.size)
  have hcz := conv_reads (cap := 52 - b.size) hz.reads
  rw [List.length_replicate] at hcz
  have hF : (⟨(List.replicate (52 - b.size) 0).toArray⟩ : ByteArray).size = 52 - b.size := rep_size _
  have hFl : (⟨(List.replicate (52 - b.size) 0).toArray⟩ : ByteArray).data.toList = List.replicate (52 - b.size) 0 := rfl
  have hGl : (⟨l.toArray⟩ : ByteArray).data.toList = l := rfl
  have hG : (⟨l.toArray⟩ : ByteArray).size = 6 := by rw [← hl]; rfl
  rw [← hGl, ← hFl] at hS
  generalize (⟨(List.replicate (52 - b.size) 0).toArray⟩ : ByteArray) = F at *
  generalize (⟨l.toArray⟩ : ByteArray) = G at *
  have e := four G b F G
  rw [← hS] at e
  clear hS hFl hGl ho hr hz
  have HB2 := Lib.hid (HB.out.push (.cells (madeCells #[.int .u8 0] (52 - b.size)) 5))
  clear HB
  go_wp2_with fail
  go_ret2
  exact ⟨rfl, HB2.out⟩

theorem rseal_any (n : Int) (b : ByteArray) (w : World) :
    Calls Tryz.prog 118 #[.int .i64 n, .string b] w fun e w' => e = .returned (.tuple #[.string (sealR n b).1, .int .i64 (sealR n b).2]) ∧ Below w.heap.size w w' := by
  unfold sealR
  by_cases h : 1 ≤ n ∧ n ≤ 1099511627776
  · rw [if_pos h]
    obtain ⟨n, rfl⟩ := Int.eq_ofNat_of_zero_le (show 0 ≤ n by omega)
    by_cases hb : b.size ≤ 52
    · rw [if_pos hb]; exact rseal_ok n b w (by omega) (by omega) hb
    · rw [if_neg hb]; exact rseal_long n b w h.1 h.2 (by omega)
  · rw [if_neg h]
    by_cases h1 : n < 1
    · exact rseal_lo n b w h1
    · exact rseal_hi n b w (by omega)

end Go.Proofs.YtkglolnghihegaaGreatDoor.Sht
