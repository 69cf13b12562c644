/- Contracts of the document's Add, PrintOffset and ParseOffset. -/
import Derived.Test.YtmbbjpfhdijmbaaDoorSpnTxt
import Derived.Test.YtmbbjpfhdijmbaaDoorSpnOff
namespace Go.Proofs.YtmbbjpfhdijmbaaDoor.Spn
open Go.RowKit
set_option linter.unusedVariables false

theorem ad_not {s n : Int} (h : adB s n = false) : adV s n = 0 ∧ adE s n = 8 := ⟨by unfold adV; rw [h]; rfl, by unfold adE; rw [h]; rfl⟩
theorem ad_yes {s n : Int} (h : adB s n = true) : adV s n = s + n ∧ adE s n = 0 := ⟨if_pos h, if_pos h⟩
theorem adB_iff {s n : Int} : adB s n = true ↔ (0 ≤ s ∧ s ≤ 315537897599) ∧ (-86399913600 ≤ n ∧ n ≤ 86399913600) ∧ 0 ≤ s + n ∧ s + n ≤ 315537897599 := by
  unfold adB
  rw [Bool.and_eq_true, Bool.and_eq_true, scI_iff, spI_iff, scI_iff]
  unfold maxS maxN
  omega
theorem radd_any (s n : Int) (w : World) :
    Calls Tryd.prog 15 #[.int .i64 s, .int .i64 n] w fun r w' => r = .returned (.tuple #[.int .i64 (adV s n), .int .i64 (adE s n)]) ∧ w = w' := by
  rcases h : adB s n with _ | _
  · obtain ⟨e1, e2⟩ := ad_not h
    rw [e1, e2]
    have h' : ¬ ((0 ≤ s ∧ s ≤ 315537897599) ∧ (-86399913600 ≤ n ∧ n ≤ 86399913600) ∧ 0 ≤ s + n ∧ s + n ≤ 315537897599) := fun hx => by have := adB_iff.2 hx; rw [h] at this; cases this
    clear e1 e2 h
    by_cases c1 : s < 0
    · clear h'
      go_enter Tryd.func15, Tryd.ntmps15
      go_wp2
      go_ret2
      exact ⟨rfl, rfl⟩
    by_cases c2 : 315537897599 < s
    · clear h'
      go_enter Tryd.func15, Tryd.ntmps15
      go_wp2
      go_ret2
      exact ⟨rfl, rfl⟩
    by_cases c3 : n < -86399913600
    · clear h'
      go_enter Tryd.func15, Tryd.ntmps15
      go_wp2
      go_ret2
      exact ⟨rfl, rfl⟩
    by_cases c4 : 86399913600 < n
    · clear h'
      go_enter Tryd.func15, Tryd.ntmps15
      go_wp2
      go_ret2
      exact ⟨rfl, rfl⟩
    by_cases c5 : s + n < 0
    · clear h'
      go_enter Tryd.func15, Tryd.ntmps15
      go_wp2
      go_ret2
      exact ⟨rfl, rfl⟩
    · have c6 : 315537897599 < s + n := by omega
      clear h'
      go_enter Tryd.func15, Tryd.ntmps15
      go_wp2
      go_ret2
      exact ⟨rfl, rfl⟩
  · obtain ⟨e1, e2⟩ := ad_yes h
    rw [e1, e2]
    obtain ⟨⟨c1, c2⟩, ⟨c3, c4⟩, c5, c6⟩ := adB_iff.1 h
    clear e1 e2 h
    go_enter Tryd.func15, Tryd.ntmps15
    go_wp2
    go_ret2
    exact ⟨rfl, rfl⟩
theorem mn_eq {m : Int} (h : 0 ≤ m) : m % 3600 / 60 = m / 60 % 60 := by omega
theorem rpo_zero (p : List UInt8) {m : Int} (h0 : 0 ≤ m) (h : m % 60 = 0) : ByteArray.mk (p ++ poB m).toArray = ByteArray.mk p.toArray ++ (ByteArray.mk (two (m / 3600)).toArray ++ ByteArray.mk (two (m / 60 % 60)).toArray) := by
  rw [po_zero h, mn_eq h0]
theorem rpo_some (p : List UInt8) {m : Int} (h0 : 0 ≤ m) (h : ¬ m % 60 = 0) : ByteArray.mk (p ++ poB m).toArray = (ByteArray.mk p.toArray ++ (ByteArray.mk (two (m / 3600)).toArray ++ ByteArray.mk (two (m / 60 % 60)).toArray)) ++ ByteArray.mk (two (m % 60)).toArray := by
  rw [po_some h, mn_eq h0]
theorem rpoff_posA (m : Int) (h0 : 0 ≤ m) (h1 : m ≤ 86399) (h : m % 60 = 0) (w : World) :
    Calls Tryd.prog 17 #[.int .i64 m] w fun r w' => r = .returned (.tuple #[.string ⟨([43] ++ poB m).toArray⟩, .int .i64 0]) ∧ Below w.heap.size w w' := by
  have a0 : 0 ≤ m / 3600 := by omega
  have a1 : m / 3600 < 100 := by omega
  have b0 : 0 ≤ m / 60 % 60 := by omega
  have b1 : m / 60 % 60 < 100 := by omega
  have c0 : 0 ≤ m % 60 := by omega
  have c1 : m % 60 < 100 := by omega
  have d0 : 0 ≤ m / 60 := by omega
  rw [rpo_zero [43] (by omega) h]
  have HH := Lib.hid (fun W => rtwo_any (m / 3600) a0 a1 W)
  have z1 := two_size (m / 3600)
  generalize ByteArray.mk (two (m / 3600)).toArray = t1 at *
  have HM := Lib.hid (fun W => rtwo_any (m / 60 % 60) b0 b1 W)
  have z2 := two_size (m / 60 % 60)
  generalize ByteArray.mk (two (m / 60 % 60)).toArray = t2 at *
  generalize ha : m / 3600 = a at *
  generalize hd : m / 60 = d at *
  generalize hb : d % 60 = b at *
  go_enter Tryd.func17, Tryd.ntmps17
  go_wp2_with (first
    | (go_at_call 29; with_reducible refine (HH.out _).mono ?_; rintro e w1 ⟨rfl, hb⟩; have B1 := Lib.hid ((Bl.refl w).call hb); clear hb)
    | (go_at_call 29; with_reducible refine (HM.out _).mono ?_; rintro e w2 ⟨rfl, hb⟩; have B2 := Lib.hid (B1.out.call hb); clear hb))
  go_ret2
  exact ⟨rfl, B2.out.below⟩
theorem rpoff_posB (m : Int) (h0 : 0 ≤ m) (h1 : m ≤ 86399) (h : 0 < m % 60) (w : World) :
    Calls Tryd.prog 17 #[.int .i64 m] w fun r w' => r = .returned (.tuple #[.string ⟨([43] ++ poB m).toArray⟩, .int .i64 0]) ∧ Below w.heap.size w w' := by
  have a0 : 0 ≤ m / 3600 := by omega
  have a1 : m / 3600 < 100 := by omega
  have b0 : 0 ≤ m / 60 % 60 := by omega
  have b1 : m / 60 % 60 < 100 := by omega
  have c0 : 0 ≤ m % 60 := by omega
  have c1 : m % 60 < 100 := by omega
  have d0 : 0 ≤ m / 60 := by omega
  rw [rpo_some [43] (by omega) (by omega)]
  have HH := Lib.hid (fun W => rtwo_any (m / 3600) a0 a1 W)
  have z1 := two_size (m / 3600)
  generalize ByteArray.mk (two (m / 3600)).toArray = t1 at *
  have HM := Lib.hid (fun W => rtwo_any (m / 60 % 60) b0 b1 W)
  have z2 := two_size (m / 60 % 60)
  generalize ByteArray.mk (two (m / 60 % 60)).toArray = t2 at *
  have HS := Lib.hid (fun W => rtwo_any (m % 60) c0 c1 W)
  have z3 := two_size (m % 60)
  generalize ByteArray.mk (two (m % 60)).toArray = t3 at *
  generalize ha : m / 3600 = a at *
  generalize hd : m / 60 = d at *
  generalize hb : d % 60 = b at *
  generalize hc : m % 60 = c at *
  go_enter Tryd.func17, Tryd.ntmps17
  go_wp2_with (first
    | (go_at_call 29; with_reducible refine (HH.out _).mono ?_; rintro e w1 ⟨rfl, hb⟩; have B1 := Lib.hid ((Bl.refl w).call hb); clear hb)
    | (go_at_call 29; with_reducible refine (HM.out _).mono ?_; rintro e w2 ⟨rfl, hb⟩; have B2 := Lib.hid (B1.out.call hb); clear hb)
    | (go_at_call 29; with_reducible refine (HS.out _).mono ?_; rintro e w3 ⟨rfl, hb⟩; have B3 := Lib.hid (B2.out.call hb); clear hb))
  go_ret2
  exact ⟨rfl, B3.out.below⟩
theorem rpoff_negA (m : Int) (h0 : 0 < m) (h1 : m ≤ 86399) (h : m % 60 = 0) (w : World) :
    Calls Tryd.prog 17 #[.int .i64 (-m)] w fun r w' => r = .returned (.tuple #[.string ⟨([45] ++ poB m).toArray⟩, .int .i64 0]) ∧ Below w.heap.size w w' := by
  have a0 : 0 ≤ m / 3600 := by omega
  have a1 : m / 3600 < 100 := by omega
  have b0 : 0 ≤ m / 60 % 60 := by omega
  have b1 : m / 60 % 60 < 100 := by omega
  have c0 : 0 ≤ m % 60 := by omega
  have c1 : m % 60 < 100 := by omega
  have d0 : 0 ≤ m / 60 := by omega
  rw [rpo_zero [45] (by omega) h]
  have HH := Lib.hid (fun W => rtwo_any (m / 3600) a0 a1 W)
  have z1 := two_size (m / 3600)
  generalize ByteArray.mk (two (m / 3600)).toArray = t1 at *
  have HM := Lib.hid (fun W => rtwo_any (m / 60 % 60) b0 b1 W)
  have z2 := two_size (m / 60 % 60)
  generalize ByteArray.mk (two (m / 60 % 60)).toArray = t2 at *
  generalize ha : m / 3600 = a at *
  generalize hd : m / 60 = d at *
  generalize hb : d % 60 = b at *
  go_enter Tryd.func17, Tryd.ntmps17
  go_wp2_with (first
    | (go_at_call 29; with_reducible refine (HH.out _).mono ?_; rintro e w1 ⟨rfl, hb⟩; have B1 := Lib.hid ((Bl.refl w).call hb); clear hb)
    | (go_at_call 29; with_reducible refine (HM.out _).mono ?_; rintro e w2 ⟨rfl, hb⟩; have B2 := Lib.hid (B1.out.call hb); clear hb))
  go_ret2
  exact ⟨rfl, B2.out.below⟩
theorem rpoff_negB (m : Int) (h0 : 0 < m) (h1 : m ≤ 86399) (h : 0 < m % 60) (w : World) :
    Calls Tryd.prog 17 #[.int .i64 (-m)] w fun r w' => r = .returned (.tuple #[.string ⟨([45] ++ poB m).toArray⟩, .int .i64 0]) ∧ Below w.heap.size w w' := by
  have a0 : 0 ≤ m / 3600 := by omega
  have a1 : m / 3600 < 100 := by omega
  have b0 : 0 ≤ m / 60 % 60 := by omega
  have b1 : m / 60 % 60 < 100 := by omega
  have c0 : 0 ≤ m % 60 := by omega
  have c1 : m % 60 < 100 := by omega
  have d0 : 0 ≤ m / 60 := by omega
  rw [rpo_some [45] (by omega) (by omega)]
  have HH := Lib.hid (fun W => rtwo_any (m / 3600) a0 a1 W)
  have z1 := two_size (m / 3600)
  generalize ByteArray.mk (two (m / 3600)).toArray = t1 at *
  have HM := Lib.hid (fun W => rtwo_any (m / 60 % 60) b0 b1 W)
  have z2 := two_size (m / 60 % 60)
  generalize ByteArray.mk (two (m / 60 % 60)).toArray = t2 at *
  have HS := Lib.hid (fun W => rtwo_any (m % 60) c0 c1 W)
  have z3 := two_size (m % 60)
  generalize ByteArray.mk (two (m % 60)).toArray = t3 at *
  generalize ha : m / 3600 = a at *
  generalize hd : m / 60 = d at *
  generalize hb : d % 60 = b at *
  generalize hc : m % 60 = c at *
  go_enter Tryd.func17, Tryd.ntmps17
  go_wp2_with (first
    | (go_at_call 29; with_reducible refine (HH.out _).mono ?_; rintro e w1 ⟨rfl, hb⟩; have B1 := Lib.hid ((Bl.refl w).call hb); clear hb)
    | (go_at_call 29; with_reducible refine (HM.out _).mono ?_; rintro e w2 ⟨rfl, hb⟩; have B2 := Lib.hid (B1.out.call hb); clear hb)
    | (go_at_call 29; with_reducible refine (HS.out _).mono ?_; rintro e w3 ⟨rfl, hb⟩; have B3 := Lib.hid (B2.out.call hb); clear hb))
  go_ret2
  exact ⟨rfl, B3.out.below⟩
theorem rpoff_any (n : Int) (w : World) :
    Calls Tryd.prog 17 #[.int .i64 n] w fun r w' => r = .returned (.tuple #[.string ⟨(poL n).toArray⟩, .int .i64 (poE n)]) ∧ Below w.heap.size w w' := by
  by_cases hi : -86399 ≤ n ∧ n ≤ 86399
  · have e1 : poE n = 0 := by unfold poE; rw [if_pos (poI_iff.2 hi)]
    have e2 : poL n = poT n := by unfold poL; rw [if_pos (poI_iff.2 hi)]
    rw [e1, e2]
    by_cases h : n < 0
    · obtain ⟨m, rfl⟩ : ∃ m, n = -m := ⟨-n, by omega⟩
      have e : poT (-m) = [45] ++ poB m := by unfold poT; rw [if_pos h, Int.neg_neg]; rfl
      rw [e]
      by_cases q : m % 60 = 0
      · exact rpoff_negA m (by omega) (by omega) q w
      · exact rpoff_negB m (by omega) (by omega) (by omega) w
    · have e : poT n = [43] ++ poB n := by unfold poT; rw [if_neg h]; rfl
      rw [e]
      by_cases q : n % 60 = 0
      · exact rpoff_posA n (by omega) (by omega) q w
      · exact rpoff_posB n (by omega) (by omega) (by omega) w
  · have hn : ¬ poI n = true := fun h => hi (poI_iff.1 h)
    have e1 : poE n = 8 := by unfold poE; rw [if_neg hn]
    have e2 : poL n = [] := by unfold poL; rw [if_neg hn]
    rw [e1, e2]
    clear e1 e2 hn
    by_cases h : n < -86399
    · clear hi
      go_enter Tryd.func17, Tryd.ntmps17
      go_wp2
      go_ret2
      exact ⟨rfl, Below.refl _ _⟩
    · have h2 : 86399 < n := by omega
      clear hi
      go_enter Tryd.func17, Tryd.ntmps17
      go_wp2
      go_ret2
      exact ⟨rfl, Below.refl _ _⟩
end Go.Proofs.YtmbbjpfhdijmbaaDoor.Spn
