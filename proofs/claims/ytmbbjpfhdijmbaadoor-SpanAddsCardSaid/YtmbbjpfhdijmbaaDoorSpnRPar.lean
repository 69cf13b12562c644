/- Contracts of the document's long and Parse. -/
import Derived.Test.YtmbbjpfhdijmbaaDoorSpnRTime
import Derived.Test.YtmbbjpfhdijmbaaDoorSpnLen
namespace Go.Proofs.YtmbbjpfhdijmbaaDoor.Spn
open Go.RowKit
set_option linter.unusedVariables false

theorem nxR_nil {l : List UInt8} (h : okN l = true) : nxR l = [] ↔ cnt l + 1 = l.length := by
  have h3 := (okN_iff.1 h).2.2
  rw [(nx_ok h).2.2, List.drop_eq_nil_iff]
  omega

theorem rlong_l (l : List UInt8) (hs : l.length ≤ 100) (w : World) :
    Calls Tryd.prog 22 #[.string ⟨l.toArray⟩] w fun r w' => r = .returned (.int .i64 (loA l)) ∧ Below w.heap.size w w' := by
  have hz := size_mk l
  have hd : (ByteArray.mk l.toArray).data.toList = l := data_mk l
  have hd0 : (ByteArray.mk l.toArray).data.toList.drop 0 = l := by rw [List.drop_zero, hd]
  have H1 := Lib.hid (fun W => rn_l ⟨l.toArray⟩ 0 87 (by rw [hz]; exact hs) (Nat.zero_le _) (by decide) (by decide) l hd0 W)
  have H2 := Lib.hid (fun W => rn_l ⟨l.toArray⟩ 0 68 (by rw [hz]; exact hs) (Nat.zero_le _) (by decide) (by decide) l hd0 W)
  change Hid (∀ W, Calls Tryd.prog 35 #[.string ⟨l.toArray⟩, .int .i64 0, .int .u8 87] W _) at H1
  change Hid (∀ W, Calls Tryd.prog 35 #[.string ⟨l.toArray⟩, .int .i64 0, .int .u8 68] W _) at H2
  obtain ⟨n0, n1⟩ := nxN_in l
  by_cases h1 : nxC l = 87
  · have ho : okN l = true := nxC_ok (by rw [h1]; decide)
    have hk := rn_yes h1 0
    rw [hk.1, hk.2, Nat.zero_add] at H1
    have hr := nxR_nil ho
    rw [lo_week h1]
    by_cases h2 : nxR l = []
    · have hc := hr.1 h2
      rw [if_pos h2]
      have t1 : (((cnt l + 1 : Nat) : Int) == ((ByteArray.mk l.toArray).size : Nat)) = true := by rw [hz, hc]; simp
      clear hk hr h2 hc hd hd0 hz h1 ho H2
      generalize cnt l + 1 = k at *
      generalize nxN l = n at *
      generalize ByteArray.mk l.toArray = s at *
      go_enter Tryd.func22, Tryd.ntmps22
      go_wp2_with (go_at_call 35; with_reducible refine (H1.out _).mono ?_; rintro e w0 ⟨rfl, rfl⟩)
      go_ret
      exact ⟨rfl, Below.refl _ _⟩
    · have hc : ¬ cnt l + 1 = l.length := fun h => h2 (hr.2 h)
      rw [if_neg h2]
      have t1 : (((cnt l + 1 : Nat) : Int) == ((ByteArray.mk l.toArray).size : Nat)) = false := by rw [hz]; simp; omega
      clear hk hr h2 hc hd hd0 hz h1 ho H2
      generalize cnt l + 1 = k at *
      generalize nxN l = n at *
      generalize ByteArray.mk l.toArray = s at *
      go_enter Tryd.func22, Tryd.ntmps22
      go_wp2_with (go_at_call 35; with_reducible refine (H1.out _).mono ?_; rintro e w0 ⟨rfl, rfl⟩)
      go_ret
      exact ⟨rfl, Below.refl _ _⟩
  · have hk := rn_not h1 0
    rw [hk.1, hk.2] at H1
    by_cases h3 : nxC l = 68
    · have ho : okN l = true := nxC_ok (by rw [h3]; decide)
      have hk2 := rn_yes h3 0
      rw [hk2.1, hk2.2, Nat.zero_add] at H2
      have hr := nxR_nil ho
      have hcl : cnt l + 1 ≤ l.length := (okN_iff.1 ho).2.2
      rw [lo_day h3]
      by_cases h2 : nxR l = []
      · have hc := hr.1 h2
        rw [if_pos h2]
        have t1 : (((cnt l + 1 : Nat) : Int) == ((ByteArray.mk l.toArray).size : Nat)) = true := by rw [hz, hc]; simp
        clear hk hk2 hr h2 hc hd hd0 hz h1 h3 ho hcl
        generalize cnt l + 1 = k at *
        generalize nxN l = n at *
        generalize ByteArray.mk l.toArray = s at *
        go_enter Tryd.func22, Tryd.ntmps22
        go_wp2_with (first
          | (go_at_call 35; with_reducible refine (H1.out _).mono ?_; rintro e w0 ⟨rfl, rfl⟩)
          | (go_at_call 35; with_reducible refine (H2.out _).mono ?_; rintro e w0 ⟨rfl, rfl⟩))
        go_ret
        exact ⟨rfl, Below.refl _ _⟩
      · have hc : ¬ cnt l + 1 = l.length := fun h => h2 (hr.2 h)
        rw [if_neg h2]
        have t1 : (((cnt l + 1 : Nat) : Int) == ((ByteArray.mk l.toArray).size : Nat)) = false := by rw [hz]; simp; omega
        have HT := Lib.hid (fun W => rtime_any ⟨l.toArray⟩ (cnt l + 1) (by rw [hz]; exact hs) (by rw [hz]; exact hcl) W)
        rw [hd, ← (nx_ok ho).2.2] at HT
        obtain ⟨m0, m1⟩ := tmA_ge (nxR l)
        clear hk hk2 hr h2 hc hd hd0 hz h1 h3 ho hcl
        generalize cnt l + 1 = k at *
        generalize nxN l = n at *
        generalize tmA (nxR l) = t at *
        generalize ByteArray.mk l.toArray = s at *
        by_cases ht : t < 0
        · rw [if_pos ht]
          go_enter Tryd.func22, Tryd.ntmps22
          go_wp2_with (first
            | (go_at_call 35; with_reducible refine (H1.out _).mono ?_; rintro e w0 ⟨rfl, rfl⟩)
            | (go_at_call 35; with_reducible refine (H2.out _).mono ?_; rintro e w0 ⟨rfl, rfl⟩)
            | (go_at_call 36; with_reducible refine (HT.out _).mono ?_; rintro e w0 ⟨rfl, hb⟩; have HB := Lib.hid hb; clear hb))
          go_ret
          exact ⟨rfl, HB.out⟩
        · rw [if_neg ht]
          go_enter Tryd.func22, Tryd.ntmps22
          go_wp2_with (first
            | (go_at_call 35; with_reducible refine (H1.out _).mono ?_; rintro e w0 ⟨rfl, rfl⟩)
            | (go_at_call 35; with_reducible refine (H2.out _).mono ?_; rintro e w0 ⟨rfl, rfl⟩)
            | (go_at_call 36; with_reducible refine (HT.out _).mono ?_; rintro e w0 ⟨rfl, hb⟩; have HB := Lib.hid hb; clear hb))
          go_ret
          exact ⟨rfl, HB.out⟩
    · have hk2 := rn_not h3 0
      rw [hk2.1, hk2.2] at H2
      rw [lo_time h1 h3]
      have HT := Lib.hid (fun W => rtime_any ⟨l.toArray⟩ 0 (by rw [hz]; exact hs) (Nat.zero_le _) W)
      rw [hd0] at HT
      change Hid (∀ W, Calls Tryd.prog 36 #[.string ⟨l.toArray⟩, .int .i64 0] W _) at HT
      clear hk hk2 hd hd0 hz h1 h3
      generalize tmA l = t at *
      generalize ByteArray.mk l.toArray = s at *
      go_enter Tryd.func22, Tryd.ntmps22
      go_wp2_with (first
        | (go_at_call 35; with_reducible refine (H1.out _).mono ?_; rintro e w0 ⟨rfl, rfl⟩)
        | (go_at_call 35; with_reducible refine (H2.out _).mono ?_; rintro e w0 ⟨rfl, rfl⟩)
        | (go_at_call 36; with_reducible refine (HT.out _).mono ?_; rintro e w0 ⟨rfl, hb⟩; have HB := Lib.hid hb; clear hb))
      go_ret
      exact ⟨rfl, HB.out⟩
/-- The first letter's ways. -/
theorem rparse_none (s : ByteArray) (h : s.size = 0) (w : World) :
    Calls Tryd.prog 9 #[.string s] w fun r w' => r = .returned (.tuple #[.int .i64 0, .int .i64 4]) ∧ Below w.heap.size w w' := by
  have z : (s.size : Int) = 0 := by omega
  clear h
  go_enter Tryd.func9, Tryd.ntmps9
  go_wp2
  go_ret2
  exact ⟨rfl, Below.refl _ _⟩
theorem rparse_A1 (s t r : ByteArray) (v : Int) (hs : s.size ≤ 100) (z : 0 < s.size) (b : ((s[0]'z).toNat : Int) = 45) (hx : s.extract 1 s.size = t) (hts : t.size ≤ 100) (zt : t.size = 0) (w : World) :
    Calls Tryd.prog 9 #[.string s] w fun r w' => r = .returned (.tuple #[.int .i64 (0), .int .i64 4]) ∧ Below w.heap.size w w' := by
  have z1 : (0 : Int) < s.size := by omega
  have z2 : (t.size : Int) = 0 := by omega
  clear zt
  go_enter Tryd.func9, Tryd.ntmps9
  go_wp2
  go_ret2
  exact ⟨rfl, Below.refl _ _⟩
theorem rparse_A2 (s t r : ByteArray) (v : Int) (hs : s.size ≤ 100) (z : 0 < s.size) (b : ((s[0]'z).toNat : Int) = 45) (hx : s.extract 1 s.size = t) (hts : t.size ≤ 100) (zt : 0 < t.size) (bt : (((t[0]'zt).toNat : Int) != 80) = true) (w : World) :
    Calls Tryd.prog 9 #[.string s] w fun r w' => r = .returned (.tuple #[.int .i64 (0), .int .i64 4]) ∧ Below w.heap.size w w' := by
  have z1 : (0 : Int) < s.size := by omega
  have z2 : (0 : Int) < t.size := by omega
  have zq : ((t.size : Int) == 0) = false := by rw [beq_eq_false_iff_ne]; omega
  go_enter Tryd.func9, Tryd.ntmps9
  go_wp2
  go_ret2
  exact ⟨rfl, Below.refl _ _⟩
theorem rparse_A3 (s t r : ByteArray) (v : Int) (hs : s.size ≤ 100) (z : 0 < s.size) (b : ((s[0]'z).toNat : Int) = 45) (hx : s.extract 1 s.size = t) (hts : t.size ≤ 100) (zt : 0 < t.size) (bt : (((t[0]'zt).toNat : Int) != 80) = false) (hy : t.extract 1 t.size = r) (HL : Hid (∀ W, Calls Tryd.prog 22 #[.string r] W fun r w' => r = .returned (.int .i64 v) ∧ Below W.heap.size W w')) (v0 : v < 0) (v2 : -1 ≤ v) (w : World) :
    Calls Tryd.prog 9 #[.string s] w fun r w' => r = .returned (.tuple #[.int .i64 (0), .int .i64 4]) ∧ Below w.heap.size w w' := by
  have z1 : (0 : Int) < s.size := by omega
  have z2 : (0 : Int) < t.size := by omega
  have zq : ((t.size : Int) == 0) = false := by rw [beq_eq_false_iff_ne]; omega
  go_enter Tryd.func9, Tryd.ntmps9
  go_wp2_with (go_at_call 22; with_reducible refine (HL.out _).mono ?_; rintro e w1 ⟨rfl, hb⟩; have B1 := Lib.hid ((Bl.refl w).call hb); clear hb)
  go_ret2
  exact ⟨rfl, B1.out.below⟩
theorem rparse_A4 (s t r : ByteArray) (v : Int) (hs : s.size ≤ 100) (z : 0 < s.size) (b : ((s[0]'z).toNat : Int) = 45) (hx : s.extract 1 s.size = t) (hts : t.size ≤ 100) (zt : 0 < t.size) (bt : (((t[0]'zt).toNat : Int) != 80) = false) (hy : t.extract 1 t.size = r) (HL : Hid (∀ W, Calls Tryd.prog 22 #[.string r] W fun r w' => r = .returned (.int .i64 v) ∧ Below W.heap.size W w')) (v0 : 86399913600 < v) (v2 : v ≤ 700000000000) (w : World) :
    Calls Tryd.prog 9 #[.string s] w fun r w' => r = .returned (.tuple #[.int .i64 (0), .int .i64 8]) ∧ Below w.heap.size w w' := by
  have z1 : (0 : Int) < s.size := by omega
  have z2 : (0 : Int) < t.size := by omega
  have zq : ((t.size : Int) == 0) = false := by rw [beq_eq_false_iff_ne]; omega
  go_enter Tryd.func9, Tryd.ntmps9
  go_wp2_with (first
    | (go_at_call 22; with_reducible refine (HL.out _).mono ?_; rintro e w1 ⟨rfl, hb⟩; have B1 := Lib.hid ((Bl.refl w).call hb); clear hb)
    | (go_at_call 22; with_reducible refine (HL.out _).mono ?_; rintro e w2 ⟨rfl, hb⟩; have B2 := Lib.hid (B1.out.call hb); clear hb))
  go_ret2
  exact ⟨by first | rfl | simp, B2.out.below⟩
theorem rparse_A5 (s t r : ByteArray) (v : Int) (hs : s.size ≤ 100) (z : 0 < s.size) (b : ((s[0]'z).toNat : Int) = 45) (hx : s.extract 1 s.size = t) (hts : t.size ≤ 100) (zt : 0 < t.size) (bt : (((t[0]'zt).toNat : Int) != 80) = false) (hy : t.extract 1 t.size = r) (HL : Hid (∀ W, Calls Tryd.prog 22 #[.string r] W fun r w' => r = .returned (.int .i64 v) ∧ Below W.heap.size W w')) (v0 : 0 ≤ v) (v1 : v ≤ 86399913600) (w : World) :
    Calls Tryd.prog 9 #[.string s] w fun r w' => r = .returned (.tuple #[.int .i64 (-v), .int .i64 0]) ∧ Below w.heap.size w w' := by
  have z1 : (0 : Int) < s.size := by omega
  have z2 : (0 : Int) < t.size := by omega
  have zq : ((t.size : Int) == 0) = false := by rw [beq_eq_false_iff_ne]; omega
  go_enter Tryd.func9, Tryd.ntmps9
  go_wp2_with (first
    | (go_at_call 22; with_reducible refine (HL.out _).mono ?_; rintro e w1 ⟨rfl, hb⟩; have B1 := Lib.hid ((Bl.refl w).call hb); clear hb)
    | (go_at_call 22; with_reducible refine (HL.out _).mono ?_; rintro e w2 ⟨rfl, hb⟩; have B2 := Lib.hid (B1.out.call hb); clear hb))
  go_ret2
  exact ⟨by first | rfl | simp, B2.out.below⟩
theorem rparse_B1 (s t r : ByteArray) (v : Int) (hs : s.size ≤ 100) (z : 0 < s.size) (b : ((s[0]'z).toNat : Int) = 43) (hx : s.extract 1 s.size = t) (hts : t.size ≤ 100) (zt : t.size = 0) (w : World) :
    Calls Tryd.prog 9 #[.string s] w fun r w' => r = .returned (.tuple #[.int .i64 (0), .int .i64 4]) ∧ Below w.heap.size w w' := by
  have z1 : (0 : Int) < s.size := by omega
  have z2 : (t.size : Int) = 0 := by omega
  clear zt
  go_enter Tryd.func9, Tryd.ntmps9
  go_wp2
  go_ret2
  exact ⟨rfl, Below.refl _ _⟩
theorem rparse_B2 (s t r : ByteArray) (v : Int) (hs : s.size ≤ 100) (z : 0 < s.size) (b : ((s[0]'z).toNat : Int) = 43) (hx : s.extract 1 s.size = t) (hts : t.size ≤ 100) (zt : 0 < t.size) (bt : (((t[0]'zt).toNat : Int) != 80) = true) (w : World) :
    Calls Tryd.prog 9 #[.string s] w fun r w' => r = .returned (.tuple #[.int .i64 (0), .int .i64 4]) ∧ Below w.heap.size w w' := by
  have z1 : (0 : Int) < s.size := by omega
  have z2 : (0 : Int) < t.size := by omega
  have zq : ((t.size : Int) == 0) = false := by rw [beq_eq_false_iff_ne]; omega
  go_enter Tryd.func9, Tryd.ntmps9
  go_wp2
  go_ret2
  exact ⟨rfl, Below.refl _ _⟩
theorem rparse_B3 (s t r : ByteArray) (v : Int) (hs : s.size ≤ 100) (z : 0 < s.size) (b : ((s[0]'z).toNat : Int) = 43) (hx : s.extract 1 s.size = t) (hts : t.size ≤ 100) (zt : 0 < t.size) (bt : (((t[0]'zt).toNat : Int) != 80) = false) (hy : t.extract 1 t.size = r) (HL : Hid (∀ W, Calls Tryd.prog 22 #[.string r] W fun r w' => r = .returned (.int .i64 v) ∧ Below W.heap.size W w')) (v0 : v < 0) (v2 : -1 ≤ v) (w : World) :
    Calls Tryd.prog 9 #[.string s] w fun r w' => r = .returned (.tuple #[.int .i64 (0), .int .i64 4]) ∧ Below w.heap.size w w' := by
  have z1 : (0 : Int) < s.size := by omega
  have z2 : (0 : Int) < t.size := by omega
  have zq : ((t.size : Int) == 0) = false := by rw [beq_eq_false_iff_ne]; omega
  go_enter Tryd.func9, Tryd.ntmps9
  go_wp2_with (go_at_call 22; with_reducible refine (HL.out _).mono ?_; rintro e w1 ⟨rfl, hb⟩; have B1 := Lib.hid ((Bl.refl w).call hb); clear hb)
  go_ret2
  exact ⟨rfl, B1.out.below⟩
theorem rparse_B4 (s t r : ByteArray) (v : Int) (hs : s.size ≤ 100) (z : 0 < s.size) (b : ((s[0]'z).toNat : Int) = 43) (hx : s.extract 1 s.size = t) (hts : t.size ≤ 100) (zt : 0 < t.size) (bt : (((t[0]'zt).toNat : Int) != 80) = false) (hy : t.extract 1 t.size = r) (HL : Hid (∀ W, Calls Tryd.prog 22 #[.string r] W fun r w' => r = .returned (.int .i64 v) ∧ Below W.heap.size W w')) (v0 : 86399913600 < v) (v2 : v ≤ 700000000000) (w : World) :
    Calls Tryd.prog 9 #[.string s] w fun r w' => r = .returned (.tuple #[.int .i64 (0), .int .i64 8]) ∧ Below w.heap.size w w' := by
  have z1 : (0 : Int) < s.size := by omega
  have z2 : (0 : Int) < t.size := by omega
  have zq : ((t.size : Int) == 0) = false := by rw [beq_eq_false_iff_ne]; omega
  go_enter Tryd.func9, Tryd.ntmps9
  go_wp2_with (first
    | (go_at_call 22; with_reducible refine (HL.out _).mono ?_; rintro e w1 ⟨rfl, hb⟩; have B1 := Lib.hid ((Bl.refl w).call hb); clear hb)
    | (go_at_call 22; with_reducible refine (HL.out _).mono ?_; rintro e w2 ⟨rfl, hb⟩; have B2 := Lib.hid (B1.out.call hb); clear hb))
  go_ret2
  exact ⟨by first | rfl | simp, B2.out.below⟩
theorem rparse_B5 (s t r : ByteArray) (v : Int) (hs : s.size ≤ 100) (z : 0 < s.size) (b : ((s[0]'z).toNat : Int) = 43) (hx : s.extract 1 s.size = t) (hts : t.size ≤ 100) (zt : 0 < t.size) (bt : (((t[0]'zt).toNat : Int) != 80) = false) (hy : t.extract 1 t.size = r) (HL : Hid (∀ W, Calls Tryd.prog 22 #[.string r] W fun r w' => r = .returned (.int .i64 v) ∧ Below W.heap.size W w')) (v0 : 0 ≤ v) (v1 : v ≤ 86399913600) (w : World) :
    Calls Tryd.prog 9 #[.string s] w fun r w' => r = .returned (.tuple #[.int .i64 (v), .int .i64 0]) ∧ Below w.heap.size w w' := by
  have z1 : (0 : Int) < s.size := by omega
  have z2 : (0 : Int) < t.size := by omega
  have zq : ((t.size : Int) == 0) = false := by rw [beq_eq_false_iff_ne]; omega
  go_enter Tryd.func9, Tryd.ntmps9
  go_wp2_with (first
    | (go_at_call 22; with_reducible refine (HL.out _).mono ?_; rintro e w1 ⟨rfl, hb⟩; have B1 := Lib.hid ((Bl.refl w).call hb); clear hb)
    | (go_at_call 22; with_reducible refine (HL.out _).mono ?_; rintro e w2 ⟨rfl, hb⟩; have B2 := Lib.hid (B1.out.call hb); clear hb))
  go_ret2
  exact ⟨by first | rfl | simp, B2.out.below⟩
theorem rparse_C2 (s r : ByteArray) (v : Int) (hs : s.size ≤ 100) (z : 0 < s.size) (b : (((s[0]'z).toNat : Int) == 43) = false) (b2 : (((s[0]'z).toNat : Int) == 45) = false) (bt : (((s[0]'z).toNat : Int) != 80) = true) (w : World) :
    Calls Tryd.prog 9 #[.string s] w fun r w' => r = .returned (.tuple #[.int .i64 (0), .int .i64 4]) ∧ Below w.heap.size w w' := by
  have z1 : (0 : Int) < s.size := by omega
  have z2 : (0 : Int) < s.size := by omega
  have zq : ((s.size : Int) == 0) = false := by rw [beq_eq_false_iff_ne]; omega
  go_enter Tryd.func9, Tryd.ntmps9
  go_wp2
  go_ret2
  exact ⟨rfl, Below.refl _ _⟩
theorem rparse_C3 (s r : ByteArray) (v : Int) (hs : s.size ≤ 100) (z : 0 < s.size) (b : (((s[0]'z).toNat : Int) == 43) = false) (b2 : (((s[0]'z).toNat : Int) == 45) = false) (bt : (((s[0]'z).toNat : Int) != 80) = false) (hy : s.extract 1 s.size = r) (HL : Hid (∀ W, Calls Tryd.prog 22 #[.string r] W fun r w' => r = .returned (.int .i64 v) ∧ Below W.heap.size W w')) (v0 : v < 0) (v2 : -1 ≤ v) (w : World) :
    Calls Tryd.prog 9 #[.string s] w fun r w' => r = .returned (.tuple #[.int .i64 (0), .int .i64 4]) ∧ Below w.heap.size w w' := by
  have z1 : (0 : Int) < s.size := by omega
  have z2 : (0 : Int) < s.size := by omega
  have zq : ((s.size : Int) == 0) = false := by rw [beq_eq_false_iff_ne]; omega
  go_enter Tryd.func9, Tryd.ntmps9
  go_wp2_with (go_at_call 22; with_reducible refine (HL.out _).mono ?_; rintro e w1 ⟨rfl, hb⟩; have B1 := Lib.hid ((Bl.refl w).call hb); clear hb)
  go_ret2
  exact ⟨rfl, B1.out.below⟩
theorem rparse_C4 (s r : ByteArray) (v : Int) (hs : s.size ≤ 100) (z : 0 < s.size) (b : (((s[0]'z).toNat : Int) == 43) = false) (b2 : (((s[0]'z).toNat : Int) == 45) = false) (bt : (((s[0]'z).toNat : Int) != 80) = false) (hy : s.extract 1 s.size = r) (HL : Hid (∀ W, Calls Tryd.prog 22 #[.string r] W fun r w' => r = .returned (.int .i64 v) ∧ Below W.heap.size W w')) (v0 : 86399913600 < v) (v2 : v ≤ 700000000000) (w : World) :
    Calls Tryd.prog 9 #[.string s] w fun r w' => r = .returned (.tuple #[.int .i64 (0), .int .i64 8]) ∧ Below w.heap.size w w' := by
  have z1 : (0 : Int) < s.size := by omega
  have z2 : (0 : Int) < s.size := by omega
  have zq : ((s.size : Int) == 0) = false := by rw [beq_eq_false_iff_ne]; omega
  go_enter Tryd.func9, Tryd.ntmps9
  go_wp2_with (first
    | (go_at_call 22; with_reducible refine (HL.out _).mono ?_; rintro e w1 ⟨rfl, hb⟩; have B1 := Lib.hid ((Bl.refl w).call hb); clear hb)
    | (go_at_call 22; with_reducible refine (HL.out _).mono ?_; rintro e w2 ⟨rfl, hb⟩; have B2 := Lib.hid (B1.out.call hb); clear hb))
  go_ret2
  exact ⟨by first | rfl | simp, B2.out.below⟩
theorem rparse_C5 (s r : ByteArray) (v : Int) (hs : s.size ≤ 100) (z : 0 < s.size) (b : (((s[0]'z).toNat : Int) == 43) = false) (b2 : (((s[0]'z).toNat : Int) == 45) = false) (bt : (((s[0]'z).toNat : Int) != 80) = false) (hy : s.extract 1 s.size = r) (HL : Hid (∀ W, Calls Tryd.prog 22 #[.string r] W fun r w' => r = .returned (.int .i64 v) ∧ Below W.heap.size W w')) (v0 : 0 ≤ v) (v1 : v ≤ 86399913600) (w : World) :
    Calls Tryd.prog 9 #[.string s] w fun r w' => r = .returned (.tuple #[.int .i64 (v), .int .i64 0]) ∧ Below w.heap.size w w' := by
  have z1 : (0 : Int) < s.size := by omega
  have z2 : (0 : Int) < s.size := by omega
  have zq : ((s.size : Int) == 0) = false := by rw [beq_eq_false_iff_ne]; omega
  go_enter Tryd.func9, Tryd.ntmps9
  go_wp2_with (first
    | (go_at_call 22; with_reducible refine (HL.out _).mono ?_; rintro e w1 ⟨rfl, hb⟩; have B1 := Lib.hid ((Bl.refl w).call hb); clear hb)
    | (go_at_call 22; with_reducible refine (HL.out _).mono ?_; rintro e w2 ⟨rfl, hb⟩; have B2 := Lib.hid (B1.out.call hb); clear hb))
  go_ret2
  exact ⟨by first | rfl | simp, B2.out.below⟩
theorem ext_one (b : UInt8) (r : List UInt8) : (ByteArray.mk (b :: r).toArray).extract 1 (ByteArray.mk (b :: r).toArray).size = ByteArray.mk r.toArray := by
  rw [ext_drop, data_mk]
  rfl
theorem rparse_l (l : List UInt8) (hs : l.length ≤ 100) (w : World) :
    Calls Tryd.prog 9 #[.string ⟨l.toArray⟩] w fun r w' => r = .returned (.tuple #[.int .i64 (paV l), .int .i64 (paE l)]) ∧ Below w.heap.size w w' := by
  cases l with
  | nil =>
    have e : paE [] = 4 := pa_p rfl
    rw [paV_not (by rw [e]; decide), e]
    exact rparse_none _ rfl w
  | cons b r0 =>
    have hsz : (ByteArray.mk (b :: r0).toArray).size ≤ 100 := by rw [size_mk]; exact hs
    have z : 0 < (ByteArray.mk (b :: r0).toArray).size := by rw [size_mk]; simp
    have hx := ext_one b r0
    have hr0 : r0.length ≤ 100 := by simp at hs; omega
    by_cases hA : b = 45
    · have hb : (((ByteArray.mk (b :: r0).toArray)[0]'z).toNat : Int) = 45 := by rw [hA]; rfl
      have eS : sgR (b :: r0) = r0 := by rw [hA]; rfl
      have eG : sgV (b :: r0) = -1 := by rw [hA]; rfl
      cases r0 with
      | nil =>
        have e : paE [b] = 4 := pa_p (by unfold isP; rw [eS]; rfl)
        rw [paV_not (by rw [e]; decide), e]
        exact rparse_A1 _ _ ByteArray.empty 0 hsz z hb hx (by rw [size_mk]; exact hr0) rfl w
      | cons c q =>
        have zt : 0 < (ByteArray.mk (c :: q).toArray).size := by rw [size_mk]; simp
        have hq : q.length ≤ 100 := by simp at hr0; omega
        by_cases hp : c = 80
        · have bt : ((((ByteArray.mk (c :: q).toArray)[0]'zt).toNat : Int) != 80) = false := by rw [show (ByteArray.mk (c :: q).toArray)[0]'zt = c from rfl, hp]; rfl
          have eP : isP (b :: c :: q) = true := by unfold isP; rw [eS, hp]; rfl
          have eB : bdy (b :: c :: q) = q := by unfold bdy; rw [eS]; rfl
          have HL := Lib.hid (fun W => rlong_l q hq W)
          have hv := leV_in q
          rcases hle : leB q with _ | _
          · have e : paE (b :: c :: q) = 4 := pa_form (by rw [eB]; exact hle)
            have hv0 : loA q = -1 := by unfold loA; rw [if_neg (by simp [hle])]
            rw [paV_not (by rw [e]; decide), e]
            exact rparse_A3 _ _ _ _ hsz z hb hx (by rw [size_mk]; exact hr0) zt bt (ext_one c q) HL (by omega) (by omega) w
          · have hv0 := lo_ok hle
            by_cases hm : leV q ≤ maxS
            · obtain ⟨e1, e2⟩ := pa_ok eP (by rw [eB]; exact hle) (by rw [eB]; exact hm)
              rw [e1, e2, eG, eB, ← hv0, Int.neg_mul, Int.one_mul]
              unfold maxS at hm
              exact rparse_A5 _ _ _ _ hsz z hb hx (by rw [size_mk]; exact hr0) zt bt (ext_one c q) HL (by omega) (by omega) w
            · have e : paE (b :: c :: q) = 8 := pa_range eP (by rw [eB]; exact hle) (by rw [eB]; exact hm)
              rw [paV_not (by rw [e]; decide), e]
              unfold maxS at hm
              exact rparse_A4 _ _ _ _ hsz z hb hx (by rw [size_mk]; exact hr0) zt bt (ext_one c q) HL (by omega) (by omega) w
        · have bt : ((((ByteArray.mk (c :: q).toArray)[0]'zt).toNat : Int) != 80) = true := by rw [show (ByteArray.mk (c :: q).toArray)[0]'zt = c from rfl]; exact u8_ne (b := 80) hp
          have e : paE (b :: c :: q) = 4 := pa_p (by unfold isP; rw [eS]; simpa using hp)
          rw [paV_not (by rw [e]; decide), e]
          exact rparse_A2 _ _ ByteArray.empty 0 hsz z hb hx (by rw [size_mk]; exact hr0) zt bt w
    · by_cases hB : b = 43
      · have hb : (((ByteArray.mk (b :: r0).toArray)[0]'z).toNat : Int) = 43 := by rw [hB]; rfl
        have eS : sgR (b :: r0) = r0 := by rw [hB]; rfl
        have eG : sgV (b :: r0) = 1 := by rw [hB]; rfl
        cases r0 with
        | nil =>
          have e : paE [b] = 4 := pa_p (by unfold isP; rw [eS]; rfl)
          rw [paV_not (by rw [e]; decide), e]
          exact rparse_B1 _ _ ByteArray.empty 0 hsz z hb hx (by rw [size_mk]; exact hr0) rfl w
        | cons c q =>
          have zt : 0 < (ByteArray.mk (c :: q).toArray).size := by rw [size_mk]; simp
          have hq : q.length ≤ 100 := by simp at hr0; omega
          by_cases hp : c = 80
          · have bt : ((((ByteArray.mk (c :: q).toArray)[0]'zt).toNat : Int) != 80) = false := by rw [show (ByteArray.mk (c :: q).toArray)[0]'zt = c from rfl, hp]; rfl
            have eP : isP (b :: c :: q) = true := by unfold isP; rw [eS, hp]; rfl
            have eB : bdy (b :: c :: q) = q := by unfold bdy; rw [eS]; rfl
            have HL := Lib.hid (fun W => rlong_l q hq W)
            have hv := leV_in q
            rcases hle : leB q with _ | _
            · have e : paE (b :: c :: q) = 4 := pa_form (by rw [eB]; exact hle)
              have hv0 : loA q = -1 := by unfold loA; rw [if_neg (by simp [hle])]
              rw [paV_not (by rw [e]; decide), e]
              exact rparse_B3 _ _ _ _ hsz z hb hx (by rw [size_mk]; exact hr0) zt bt (ext_one c q) HL (by omega) (by omega) w
            · have hv0 := lo_ok hle
              by_cases hm : leV q ≤ maxS
              · obtain ⟨e1, e2⟩ := pa_ok eP (by rw [eB]; exact hle) (by rw [eB]; exact hm)
                rw [e1, e2, eG, eB, ← hv0, Int.one_mul]
                unfold maxS at hm
                exact rparse_B5 _ _ _ _ hsz z hb hx (by rw [size_mk]; exact hr0) zt bt (ext_one c q) HL (by omega) (by omega) w
              · have e : paE (b :: c :: q) = 8 := pa_range eP (by rw [eB]; exact hle) (by rw [eB]; exact hm)
                rw [paV_not (by rw [e]; decide), e]
                unfold maxS at hm
                exact rparse_B4 _ _ _ _ hsz z hb hx (by rw [size_mk]; exact hr0) zt bt (ext_one c q) HL (by omega) (by omega) w
          · have bt : ((((ByteArray.mk (c :: q).toArray)[0]'zt).toNat : Int) != 80) = true := by rw [show (ByteArray.mk (c :: q).toArray)[0]'zt = c from rfl]; exact u8_ne (b := 80) hp
            have e : paE (b :: c :: q) = 4 := pa_p (by unfold isP; rw [eS]; simpa using hp)
            rw [paV_not (by rw [e]; decide), e]
            exact rparse_B2 _ _ ByteArray.empty 0 hsz z hb hx (by rw [size_mk]; exact hr0) zt bt w
      · have hb : ((((ByteArray.mk (b :: r0).toArray)[0]'z).toNat : Int) == 43) = false := by
          rw [beq_eq_false_iff_ne]; intro e; exact hB (UInt8.toNat_inj.1 (by show b.toNat = 43; exact Int.ofNat.inj e))
        have hb2 : ((((ByteArray.mk (b :: r0).toArray)[0]'z).toNat : Int) == 45) = false := by
          rw [beq_eq_false_iff_ne]; intro e; exact hA (UInt8.toNat_inj.1 (by show b.toNat = 45; exact Int.ofNat.inj e))
        have eS : sgR (b :: r0) = b :: r0 := if_neg (by simp [hA, hB])
        have eG : sgV (b :: r0) = 1 := if_neg (by simp [hA])
        have hq : r0.length ≤ 100 := hr0
        by_cases hp : b = 80
        · have bt : ((((ByteArray.mk (b :: r0).toArray)[0]'z).toNat : Int) != 80) = false := by rw [show (ByteArray.mk (b :: r0).toArray)[0]'z = b from rfl, hp]; rfl
          have eP : isP (b :: r0) = true := by unfold isP; rw [eS, hp]; rfl
          have eB : bdy (b :: r0) = r0 := by unfold bdy; rw [eS]; rfl
          have HL := Lib.hid (fun W => rlong_l r0 hq W)
          have hv := leV_in r0
          rcases hle : leB r0 with _ | _
          · have e : paE (b :: r0) = 4 := pa_form (by rw [eB]; exact hle)
            have hv0 : loA r0 = -1 := by unfold loA; rw [if_neg (by simp [hle])]
            rw [paV_not (by rw [e]; decide), e]
            exact rparse_C3 _ _ _ hsz z hb hb2 bt hx HL (by omega) (by omega) w
          · have hv0 := lo_ok hle
            by_cases hm : leV r0 ≤ maxS
            · obtain ⟨e1, e2⟩ := pa_ok eP (by rw [eB]; exact hle) (by rw [eB]; exact hm)
              rw [e1, e2, eG, eB, ← hv0, Int.one_mul]
              unfold maxS at hm
              exact rparse_C5 _ _ _ hsz z hb hb2 bt hx HL (by omega) (by omega) w
            · have e : paE (b :: r0) = 8 := pa_range eP (by rw [eB]; exact hle) (by rw [eB]; exact hm)
              rw [paV_not (by rw [e]; decide), e]
              unfold maxS at hm
              exact rparse_C4 _ _ _ hsz z hb hb2 bt hx HL (by omega) (by omega) w
        · have bt : ((((ByteArray.mk (b :: r0).toArray)[0]'z).toNat : Int) != 80) = true := by rw [show (ByteArray.mk (b :: r0).toArray)[0]'z = b from rfl]; exact u8_ne (b := 80) hp
          have e : paE (b :: r0) = 4 := pa_p (by unfold isP; rw [eS]; simpa using hp)
          rw [paV_not (by rw [e]; decide), e]
          exact rparse_C2 _ ByteArray.empty 0 hsz z hb hb2 bt w
end Go.Proofs.YtmbbjpfhdijmbaaDoor.Spn
