/- The walk of FoldRows. -/
import Derived.Test.YtplobfnljlnkkaaDoorFldLawC
import Derived.Test.YtplobfnljlnkkaaDoorFldRowP
set_option linter.unusedVariables false
namespace Go.Proofs.YtplobfnljlnkkaaDoor.Fld
open Go.RowKit Go.Deep Go.Proofs.YtplobfnljlnkkaaDoor.Byt Go.Proofs.YtplobfnljlnkkaaDoor.Utf Go.Proofs.YtplobfnljlnkkaaDoor.Tre

set_option maxRecDepth 20000 in
set_option maxHeartbeats 2000000 in
theorem walk_rows (s : ByteArray) (w : World) (hT : Flt.ETab w) : Calls Tryd.prog 6 #[.string s] w fun r w' => r = .returned (.bool true) ∧ Below w.heap.size w w' := by
  have HT := Lib.hid hT
  have HA := Lib.hid (fun W hW => awake_any W hW)
  clear hT
  by_cases hn : (600 : Int) < s.size
  · go_enter Tryd.func6, Tryd.ntmps6
    go_wp2_with (go_at_call 8; with_reducible refine (HA.out _ HT.out).mono ?_; rintro r w1 ⟨rfl, hb⟩; have B1 := Lib.hid hb; clear hb)
    go_ret
    exact ⟨rfl, B1.out⟩
  have hs : s.size ≤ 600 := by omega
  go_enter Tryd.func6, Tryd.ntmps6
  go_wp2_with fail
  go_loop [3] (fun v => ∃ j : Nat, j ≤ s.size ∧ v = .int .i64 j ∧ Hid (Cl s j)) (fun v => s.size - (intOf v).toNat)
  case atStart => exact ⟨0, Nat.zero_le _, rfl, Lib.hid (fun i hi h0 => absurd h0 (Nat.not_lt_zero i))⟩
  case round =>
    obtain ⟨j, hj, rfl, hc⟩ := hrel
    by_cases hlt : j < s.size
    · have hj' : (j : Int) < s.size := by omega
      by_cases d1 : (s[j]'hlt).toNat = 10
      · go_wp2_with (go_at_call 8; with_reducible refine (HA.out _ HT.out).mono ?_; rintro r w1 ⟨rfl, hb⟩; have B1 := Lib.hid hb; clear hb)
        go_ret
        exact ⟨rfl, B1.out⟩
      · by_cases d2 : (s[j]'hlt).toNat = 13
        · go_wp2_with (go_at_call 8; with_reducible refine (HA.out _ HT.out).mono ?_; rintro r w1 ⟨rfl, hb⟩; have B1 := Lib.hid hb; clear hb)
          go_ret
          exact ⟨rfl, B1.out⟩
        · have HS := Lib.hid (hc.out.step hlt ⟨d1, d2⟩)
          have t1 : (((s[j]'hlt).toNat : Int) == 10) = false := by rw [beq_eq_false_iff_ne]; omega
          have t2 : (((s[j]'hlt).toNat : Int) == 13) = false := by rw [beq_eq_false_iff_ne]; omega
          clear d1 d2
          go_wp2_with fail
          go_round
          case rel => exact ⟨j + 1, by omega, by go_num, HS⟩
          case measure => simp [intOf]; omega
    · obtain rfl : j = s.size := by omega
      have HC := Lib.hid hc.out.clean
      have H1 := Lib.hid (fun W => fold_any s (by omega) W)
      have hl := foldL_len s.data.toList
      have hyl : (ByteArray.mk (foldL s.data.toList).toArray).data.toList = foldL s.data.toList := by simp
      have hy : (ByteArray.mk (foldL s.data.toList).toArray).size ≤ 700 := by rw [size_mk]; rw [len_list] at hl; omega
      have HS0 := Lp.start s.data.toList
      rw [← hyl] at HS0
      clear hl hyl hc
      generalize ByteArray.mk (foldL s.data.toList).toArray = y at *
      have HS := Lib.hid HS0
      clear HS0
      go_wp2_with (go_at_call 15; with_reducible refine (H1.out _).mono ?_; rintro r w1 ⟨rfl, hb⟩; have B1 := Lib.hid (Bl.mk hb hb.size); clear hb)
      clear H1
      go_loopw [5, 6, 7, 8] (fun xv av cv iv wr => ∃ (x : ByteArray) (a n i : Nat), i ≤ y.size ∧ a ≤ y.size ∧ xv = .string x ∧ av = .int .i64 a ∧ cv = .int .i64 n ∧ iv = .int .i64 i ∧ x.size ≤ 600 ∧ n ≤ 600 ∧ Hid (Lp s.data.toList y.data.toList i a x.data.toList n) ∧ Hid (Bl w1 wr)) (fun _ _ _ iv _ => y.size - (intOf iv).toNat)
      case atStart => exact ⟨⟨#[]⟩, 0, 0, 0, Nat.zero_le _, Nat.zero_le _, rfl, rfl, rfl, rfl, by decide, by omega, HS, Lib.hid (Bl.refl w1)⟩
      case round =>
        obtain ⟨x, a, n, i, hi, ha, rfl, rfl, rfl, rfl, hx, hn6, hp, hbl⟩ := hrel
        by_cases h : i + 1 < y.size
        · have h' : (i : Int) + 1 < y.size := by omega
          have hiy : i < y.size := by omega
          rcases hp.out.skip HC.out (by rw [len_list]; exact h) with ⟨k1, k2⟩ | ⟨r, R, hr, hir⟩
          · rw [at_get hiy] at k1
            have t1 : (((y[i]'hiy).toNat : Int) != 13) = true := by simp; omega
            have HN := Lib.hid k2
            clear k1 k2 hp
            go_wp2_with fail
            go_roundw
            case rel => exact ⟨x, a, n, i + 1, by omega, ha, rfl, rfl, rfl, by go_num, hx, hn6, HN, hbl⟩
            case measure => simp [intOf]; omega
          · obtain ⟨e1, e2, e3, e4, e5⟩ := hr.ends
            rw [← hir, at_get hiy] at e1
            rw [← hir, at_get h] at e2
            have t1 : (((y[i]'hiy).toNat : Int) != 13) = false := by rw [e1]; rfl
            have t2 : (((y[i + 1]'h).toNat : Int) != 10) = false := by rw [e2]; rfl
            have hrl := hr.l
            have hrow : (y.extract a i).data.toList = r := by
              have : (y.extract a i).data.toList = sub y.data.toList a i := by unfold sub; simp
              rw [this]
              unfold sub
              rw [show i - a = r.length by omega]
              exact e5
            have hsz : (y.extract a i).size = r.length := by rw [← len_list, hrow]
            have hnx := Lp.next hr
            rw [← hir, show i + 2 = i + 1 + 1 by omega] at hnx
            have hsm := hnx.small
            rw [len_list] at hsm
            have k0 : (a : Int) ≤ i := by omega
            have k1 : (i : Int) ≤ y.size := by omega
            rcases Nat.eq_zero_or_pos a with h0 | h0
            · subst h0
              have hb : body 0 r = (y.extract 0 i).data.toList := by rw [hrow]; rfl
              rw [hb] at hnx hsm
              rw [← hsz] at hrl
              generalize hq : y.extract 0 i = row at *
              have HL := Lib.hid (fun W => len_any row (by omega) W)
              rw [← list_app] at hnx hsm
              rw [len_list] at hsm
              have HN := Lib.hid hnx
              have k2 : (row.size : Int) ≤ 75 := by omega
              have k3 := hsm.2
              have k4 := hsm.1
              clear e1 e2 e3 e4 e5 hrow hsz hnx hsm hb hr hir hp
              go_wp2_with (go_at_call 22; with_reducible refine (HL.out _).mono ?_; rintro r2 w2 ⟨rfl, hb⟩; have B2 := Lib.hid (hbl.out.call hb); clear hb)
              go_roundw
              case rel => exact ⟨x ++ row, i + 1 + 1, n + lenN row.data.toList, i + 1, by omega, by omega, rfl, by go_num, by go_num, by go_num, by omega, by omega, HN, B2⟩
              case measure => simp [intOf]; omega
            · obtain ⟨f1, f2⟩ := hr.f h0
              have h0' : (0 : Int) < a := by omega
              have hb : body a r = ((y.extract a i).extract 1 (y.extract a i).size).data.toList := by
                rw [Fld.tail_list, hrow]
                unfold body
                rw [if_neg (by omega), List.drop_one]
              rw [hb] at hnx hsm
              rw [← hsz] at hrl f1
              rw [← hrow] at f2
              generalize hq : y.extract a i = row at *
              have hr0 : 0 < row.size := by omega
              rw [at_get hr0] at f2
              have t3 : (((row[0]'hr0).toNat : Int) != 32) = false := by rw [f2]; rfl
              have k5 : (1 : Int) ≤ row.size := by omega
              have k6 : ¬ (row.size : Int) < 2 := by omega
              have hs1 : (row.extract 1 row.size).size ≤ 75 := by rw [ByteArray.size_extract]; omega
              generalize hq2 : row.extract 1 row.size = row1 at *
              have HL := Lib.hid (fun W => len_any row1 (by omega) W)
              rw [← list_app] at hnx hsm
              rw [len_list] at hsm
              have HN := Lib.hid hnx
              have k2 : (row.size : Int) ≤ 75 := by omega
              have k3 := hsm.2
              have k4 := hsm.1
              clear e1 e2 e3 e4 e5 hrow hsz hnx hsm hb hr hir hp f1 f2
              go_wp2_with (go_at_call 22; with_reducible refine (HL.out _).mono ?_; rintro r2 w2 ⟨rfl, hb⟩; have B2 := Lib.hid (hbl.out.call hb); clear hb)
              go_roundw
              case rel => exact ⟨x ++ row1, i + 1 + 1, n + lenN row1.data.toList, i + 1, by omega, by omega, rfl, by go_num, by go_num, by go_num, by omega, by omega, HN, B2⟩
              case measure => simp [intOf]; omega
        · obtain ⟨e1, e2, e3⟩ := hp.out.end HC.out (by rw [len_list]; omega)
          rw [len_list] at e1
          have ex : x = s := by rw [← mk_list x, e2, mk_list]
          subst e1 ex e3
          have HL := Lib.hid (fun W => len_any x (by omega) W)
          have tt : (x.toList == x.toList) = true := by simp
          have h' : (y.size : Int) ≤ i + 1 := by omega
          clear e2 hp HS
          go_wp2_with (first
            | (go_at_call 22; with_reducible refine (HL.out _).mono ?_; rintro r w2 ⟨rfl, hb⟩; have B2 := Lib.hid ((B1.out.call hbl.out.below).call hb); clear hb)
            | (go_at_call 8; with_reducible refine (HA.out _ (HT.out.call B2.out.below)).mono ?_; rintro r w9 ⟨rfl, hb⟩; have B9 := Lib.hid (B2.out.call hb); clear hb))
          go_ret
          exact ⟨rfl, B9.out.below⟩
end Go.Proofs.YtplobfnljlnkkaaDoor.Fld
