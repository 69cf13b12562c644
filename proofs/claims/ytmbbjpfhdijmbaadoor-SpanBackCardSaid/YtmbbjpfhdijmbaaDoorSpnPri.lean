/- Contracts of Print, Add and PrintOffset. -/
import Derived.Test.YtmbbjpfhdijmbaaDoorSpnLen
namespace Go.Proofs.YtmbbjpfhdijmbaaDoor.Spn
open Go.RowKit

theorem pt_len {n : Int} {c : UInt8} (h0 : 0 ≤ n) (h1 : n ≤ 999999) : (pt n c).length ≤ 7 := by
  unfold pt
  split
  · simp
  · have := dec_len h0 h1; simp; omega
theorem pt_size {n : Int} {c : UInt8} (h0 : 0 ≤ n) (h1 : n ≤ 999999) : (ByteArray.mk (pt n c).toArray).size ≤ 7 := by rw [size_mk]; exact pt_len h0 h1
theorem bd_week {m : Int} (h0 : 0 < m) (h : m % 604800 = 0) (p : List UInt8) : ByteArray.mk (p ++ bdL m).toArray = ByteArray.mk p.toArray ++ ByteArray.mk (pt (m / 604800) 87).toArray := by
  rw [mk_app]
  unfold bdL pt
  rw [if_pos h, if_neg (by omega)]
theorem bd_day {m : Int} (h : ¬ m % 604800 = 0) (h2 : m % 86400 = 0) (p : List UInt8) : ByteArray.mk (p ++ bdL m).toArray = ByteArray.mk p.toArray ++ ByteArray.mk (pt (m / 86400) 68).toArray := by
  rw [mk_app]
  unfold bdL tmL
  rw [if_neg h, if_pos h2, List.append_nil]
theorem bd_time {m : Int} (h : ¬ m % 604800 = 0) (h2 : ¬ m % 86400 = 0) (p : List UInt8) : ByteArray.mk (p ++ bdL m).toArray = (ByteArray.mk p.toArray ++ ByteArray.mk (pt (m / 86400) 68).toArray) ++ (((ByteArray.mk #[84] ++ ByteArray.mk (pt (m % 86400 / 3600) 72).toArray) ++ ByteArray.mk (pt (m % 86400 % 3600 / 60) 77).toArray) ++ ByteArray.mk (pt (m % 86400 % 60) 83).toArray) := by
  rw [mk_app, show ByteArray.mk #[84] = ByteArray.mk [84].toArray from rfl, mk_app, mk_app, mk_app, mk_app]
  unfold bdL tmL
  rw [if_neg h, if_neg h2]
  simp

theorem print_posA (m : Int) (h0 : 0 < m) (h1 : m ≤ maxS) (h : m % 604800 = 0) (w : World) (hT : PTab w) :
    Calls Tryd.prog 12 #[.int .i64 m] w fun r w' => r = .returned (.tuple #[.string ⟨([80] ++ bdL m).toArray⟩, .int .i64 0]) ∧ Below w.heap.size w w' := by
  unfold maxS at h1
  have HI := Lib.hid (fun W => isspan_any m W)
  rw [spI_iff.2 ⟨by unfold maxS; omega, by unfold maxS; omega⟩] at HI
  have HT := Lib.hid hT
  clear hT
  rw [bd_week h0 h]
  have h0q : 0 ≤ m / 604800 := by omega
  have h1q : m / 604800 ≤ 999999 := by omega
  have HP := Lib.hid (fun W hW => part_any (m / 604800) 87 h0q h1q W hW)
  have z1 := pt_size (c := 87) h0q h1q
  generalize ByteArray.mk (pt (m / 604800) 87).toArray = t at *
  generalize hq : m / 604800 = q at *
  go_enter Tryd.func12, Tryd.ntmps12
  go_wp2_with (first
    | (go_at_call 21; with_reducible refine (HI.out _).mono ?_; rintro e w0 ⟨rfl, rfl⟩)
    | (go_at_call 25; with_reducible refine (HP.out _ HT.out).mono ?_; rintro e w1 ⟨rfl, hb⟩; have B1 := Lib.hid hb; clear hb))
  go_ret2
  exact ⟨rfl, B1.out⟩

theorem print_posB (m : Int) (h0 : 0 < m) (h1 : m ≤ maxS) (h : ¬ m % 604800 = 0) (h2 : m % 86400 = 0) (w : World) (hT : PTab w) :
    Calls Tryd.prog 12 #[.int .i64 m] w fun r w' => r = .returned (.tuple #[.string ⟨([80] ++ bdL m).toArray⟩, .int .i64 0]) ∧ Below w.heap.size w w' := by
  unfold maxS at h1
  have HI := Lib.hid (fun W => isspan_any m W)
  rw [spI_iff.2 ⟨by unfold maxS; omega, by unfold maxS; omega⟩] at HI
  have HT := Lib.hid hT
  clear hT
  rw [bd_day h h2]
  have h0q : 0 ≤ m / 86400 := by omega
  have h1q : m / 86400 ≤ 999999 := by omega
  have HP := Lib.hid (fun W hW => part_any (m / 86400) 68 h0q h1q W hW)
  have z1 := pt_size (c := 68) h0q h1q
  generalize ByteArray.mk (pt (m / 86400) 68).toArray = t at *
  generalize hq : m / 86400 = q at *
  go_enter Tryd.func12, Tryd.ntmps12
  go_wp2_with (first
    | (go_at_call 21; with_reducible refine (HI.out _).mono ?_; rintro e w0 ⟨rfl, rfl⟩)
    | (go_at_call 25; with_reducible refine (HP.out _ HT.out).mono ?_; rintro e w1 ⟨rfl, hb⟩; have B1 := Lib.hid hb; clear hb))
  go_ret2
  exact ⟨rfl, B1.out⟩

theorem print_posC (m : Int) (h0 : 0 < m) (h1 : m ≤ maxS) (h : ¬ m % 604800 = 0) (h2 : ¬ m % 86400 = 0) (w : World) (hT : PTab w) :
    Calls Tryd.prog 12 #[.int .i64 m] w fun r w' => r = .returned (.tuple #[.string ⟨([80] ++ bdL m).toArray⟩, .int .i64 0]) ∧ Below w.heap.size w w' := by
  unfold maxS at h1
  have HI := Lib.hid (fun W => isspan_any m W)
  rw [spI_iff.2 ⟨by unfold maxS; omega, by unfold maxS; omega⟩] at HI
  have HT := Lib.hid hT
  clear hT
  rw [bd_time h h2]
  have h0q : 0 ≤ m / 86400 := by omega
  have h1q : m / 86400 ≤ 999999 := by omega
  have r0 : 0 < m % 86400 := by omega
  have r1 : m % 86400 < 86400 := by omega
  generalize hr : m % 86400 = r at *
  have a0 : 0 ≤ r / 3600 := by omega
  have a1 : r / 3600 ≤ 999999 := by omega
  have b0 : 0 ≤ r % 3600 / 60 := by omega
  have b1 : r % 3600 / 60 ≤ 999999 := by omega
  have c0 : 0 ≤ r % 60 := by omega
  have c1 : r % 60 ≤ 999999 := by omega
  have d0 : 0 ≤ r % 3600 := by omega
  have HP := Lib.hid (fun W hW => part_any (m / 86400) 68 h0q h1q W hW)
  have z1 := pt_size (c := 68) h0q h1q
  generalize ByteArray.mk (pt (m / 86400) 68).toArray = t1 at *
  have HH := Lib.hid (fun W hW => part_any (r / 3600) 72 a0 a1 W hW)
  have z2 := pt_size (c := 72) a0 a1
  generalize ByteArray.mk (pt (r / 3600) 72).toArray = t2 at *
  have HM := Lib.hid (fun W hW => part_any (r % 3600 / 60) 77 b0 b1 W hW)
  have z3 := pt_size (c := 77) b0 b1
  generalize ByteArray.mk (pt (r % 3600 / 60) 77).toArray = t3 at *
  have HS := Lib.hid (fun W hW => part_any (r % 60) 83 c0 c1 W hW)
  have z4 := pt_size (c := 83) c0 c1
  generalize ByteArray.mk (pt (r % 60) 83).toArray = t4 at *
  generalize hq : m / 86400 = q at *
  generalize ha : r / 3600 = a at *
  generalize hd : r % 3600 = d at *
  generalize hb : d / 60 = b at *
  generalize hc : r % 60 = c at *
  go_enter Tryd.func12, Tryd.ntmps12
  go_wp2_with (first
    | (go_at_call 21; with_reducible refine (HI.out _).mono ?_; rintro e w0 ⟨rfl, rfl⟩)
    | (go_at_call 25; with_reducible refine (HP.out _ HT.out).mono ?_; rintro e w1 ⟨rfl, hb⟩; have B1 := Lib.hid ((Bl.refl w).call hb); clear hb)
    | (go_at_call 25; with_reducible refine (HH.out _ (B1.out.tab HT.out)).mono ?_; rintro e w2 ⟨rfl, hb⟩; have B2 := Lib.hid (B1.out.call hb); clear hb)
    | (go_at_call 25; with_reducible refine (HM.out _ (B2.out.tab HT.out)).mono ?_; rintro e w3 ⟨rfl, hb⟩; have B3 := Lib.hid (B2.out.call hb); clear hb)
    | (go_at_call 25; with_reducible refine (HS.out _ (B3.out.tab HT.out)).mono ?_; rintro e w4 ⟨rfl, hb⟩; have B4 := Lib.hid (B3.out.call hb); clear hb))
  go_ret2
  exact ⟨rfl, B4.out.below⟩

theorem print_negA (m : Int) (h0 : 0 < m) (h1 : m ≤ maxS) (h : m % 604800 = 0) (w : World) (hT : PTab w) :
    Calls Tryd.prog 12 #[.int .i64 (-m)] w fun r w' => r = .returned (.tuple #[.string ⟨([45, 80] ++ bdL m).toArray⟩, .int .i64 0]) ∧ Below w.heap.size w w' := by
  unfold maxS at h1
  have HI := Lib.hid (fun W => isspan_any (-m) W)
  rw [spI_iff.2 ⟨by unfold maxS; omega, by unfold maxS; omega⟩] at HI
  have HT := Lib.hid hT
  clear hT
  rw [bd_week h0 h]
  have h0q : 0 ≤ m / 604800 := by omega
  have h1q : m / 604800 ≤ 999999 := by omega
  have HP := Lib.hid (fun W hW => part_any (m / 604800) 87 h0q h1q W hW)
  have z1 := pt_size (c := 87) h0q h1q
  generalize ByteArray.mk (pt (m / 604800) 87).toArray = t at *
  generalize hq : m / 604800 = q at *
  go_enter Tryd.func12, Tryd.ntmps12
  go_wp2_with (first
    | (go_at_call 21; with_reducible refine (HI.out _).mono ?_; rintro e w0 ⟨rfl, rfl⟩)
    | (go_at_call 25; with_reducible refine (HP.out _ HT.out).mono ?_; rintro e w1 ⟨rfl, hb⟩; have B1 := Lib.hid hb; clear hb))
  go_ret2
  exact ⟨rfl, B1.out⟩

theorem print_negB (m : Int) (h0 : 0 < m) (h1 : m ≤ maxS) (h : ¬ m % 604800 = 0) (h2 : m % 86400 = 0) (w : World) (hT : PTab w) :
    Calls Tryd.prog 12 #[.int .i64 (-m)] w fun r w' => r = .returned (.tuple #[.string ⟨([45, 80] ++ bdL m).toArray⟩, .int .i64 0]) ∧ Below w.heap.size w w' := by
  unfold maxS at h1
  have HI := Lib.hid (fun W => isspan_any (-m) W)
  rw [spI_iff.2 ⟨by unfold maxS; omega, by unfold maxS; omega⟩] at HI
  have HT := Lib.hid hT
  clear hT
  rw [bd_day h h2]
  have h0q : 0 ≤ m / 86400 := by omega
  have h1q : m / 86400 ≤ 999999 := by omega
  have HP := Lib.hid (fun W hW => part_any (m / 86400) 68 h0q h1q W hW)
  have z1 := pt_size (c := 68) h0q h1q
  generalize ByteArray.mk (pt (m / 86400) 68).toArray = t at *
  generalize hq : m / 86400 = q at *
  go_enter Tryd.func12, Tryd.ntmps12
  go_wp2_with (first
    | (go_at_call 21; with_reducible refine (HI.out _).mono ?_; rintro e w0 ⟨rfl, rfl⟩)
    | (go_at_call 25; with_reducible refine (HP.out _ HT.out).mono ?_; rintro e w1 ⟨rfl, hb⟩; have B1 := Lib.hid hb; clear hb))
  go_ret2
  exact ⟨rfl, B1.out⟩

theorem print_negC (m : Int) (h0 : 0 < m) (h1 : m ≤ maxS) (h : ¬ m % 604800 = 0) (h2 : ¬ m % 86400 = 0) (w : World) (hT : PTab w) :
    Calls Tryd.prog 12 #[.int .i64 (-m)] w fun r w' => r = .returned (.tuple #[.string ⟨([45, 80] ++ bdL m).toArray⟩, .int .i64 0]) ∧ Below w.heap.size w w' := by
  unfold maxS at h1
  have HI := Lib.hid (fun W => isspan_any (-m) W)
  rw [spI_iff.2 ⟨by unfold maxS; omega, by unfold maxS; omega⟩] at HI
  have HT := Lib.hid hT
  clear hT
  rw [bd_time h h2]
  have h0q : 0 ≤ m / 86400 := by omega
  have h1q : m / 86400 ≤ 999999 := by omega
  have r0 : 0 < m % 86400 := by omega
  have r1 : m % 86400 < 86400 := by omega
  generalize hr : m % 86400 = r at *
  have a0 : 0 ≤ r / 3600 := by omega
  have a1 : r / 3600 ≤ 999999 := by omega
  have b0 : 0 ≤ r % 3600 / 60 := by omega
  have b1 : r % 3600 / 60 ≤ 999999 := by omega
  have c0 : 0 ≤ r % 60 := by omega
  have c1 : r % 60 ≤ 999999 := by omega
  have d0 : 0 ≤ r % 3600 := by omega
  have HP := Lib.hid (fun W hW => part_any (m / 86400) 68 h0q h1q W hW)
  have z1 := pt_size (c := 68) h0q h1q
  generalize ByteArray.mk (pt (m / 86400) 68).toArray = t1 at *
  have HH := Lib.hid (fun W hW => part_any (r / 3600) 72 a0 a1 W hW)
  have z2 := pt_size (c := 72) a0 a1
  generalize ByteArray.mk (pt (r / 3600) 72).toArray = t2 at *
  have HM := Lib.hid (fun W hW => part_any (r % 3600 / 60) 77 b0 b1 W hW)
  have z3 := pt_size (c := 77) b0 b1
  generalize ByteArray.mk (pt (r % 3600 / 60) 77).toArray = t3 at *
  have HS := Lib.hid (fun W hW => part_any (r % 60) 83 c0 c1 W hW)
  have z4 := pt_size (c := 83) c0 c1
  generalize ByteArray.mk (pt (r % 60) 83).toArray = t4 at *
  generalize hq : m / 86400 = q at *
  generalize ha : r / 3600 = a at *
  generalize hd : r % 3600 = d at *
  generalize hb : d / 60 = b at *
  generalize hc : r % 60 = c at *
  go_enter Tryd.func12, Tryd.ntmps12
  go_wp2_with (first
    | (go_at_call 21; with_reducible refine (HI.out _).mono ?_; rintro e w0 ⟨rfl, rfl⟩)
    | (go_at_call 25; with_reducible refine (HP.out _ HT.out).mono ?_; rintro e w1 ⟨rfl, hb⟩; have B1 := Lib.hid ((Bl.refl w).call hb); clear hb)
    | (go_at_call 25; with_reducible refine (HH.out _ (B1.out.tab HT.out)).mono ?_; rintro e w2 ⟨rfl, hb⟩; have B2 := Lib.hid (B1.out.call hb); clear hb)
    | (go_at_call 25; with_reducible refine (HM.out _ (B2.out.tab HT.out)).mono ?_; rintro e w3 ⟨rfl, hb⟩; have B3 := Lib.hid (B2.out.call hb); clear hb)
    | (go_at_call 25; with_reducible refine (HS.out _ (B3.out.tab HT.out)).mono ?_; rintro e w4 ⟨rfl, hb⟩; have B4 := Lib.hid (B3.out.call hb); clear hb))
  go_ret2
  exact ⟨rfl, B4.out.below⟩

theorem print_any (n : Int) (w : World) (hT : PTab w) :
    Calls Tryd.prog 12 #[.int .i64 n] w fun r w' => r = .returned (.tuple #[.string ⟨(prL n).toArray⟩, .int .i64 (prE n)]) ∧ Below w.heap.size w w' := by
  by_cases hi : -maxS ≤ n ∧ n ≤ maxS
  · have e1 : prE n = 0 := by unfold prE; rw [if_pos (spI_iff.2 hi)]
    have e2 : prL n = prT n := by unfold prL; rw [if_pos (spI_iff.2 hi)]
    rw [e1, e2]
    rcases Int.lt_trichotomy n 0 with h | h | h
    · obtain ⟨m, rfl⟩ : ∃ m, n = -m := ⟨-n, by omega⟩
      have e : prT (-m) = [45, 80] ++ bdL m := by unfold prT; rw [if_neg (by omega), if_pos h, Int.neg_neg]; rfl
      rw [e]
      have h0 : 0 < m := by omega
      have h1 : m ≤ maxS := by omega
      by_cases q : m % 604800 = 0
      · exact print_negA m h0 h1 q w hT
      · by_cases q2 : m % 86400 = 0
        · exact print_negB m h0 h1 q q2 w hT
        · exact print_negC m h0 h1 q q2 w hT
    · subst h
      have HI := Lib.hid (fun W => isspan_any 0 W)
      rw [spI_iff.2 hi] at HI
      have e : ByteArray.mk (prT 0).toArray = ByteArray.mk #[80, 84, 48, 83] := rfl
      rw [e]
      clear e e1 e2 hi hT
      go_enter Tryd.func12, Tryd.ntmps12
      go_wp2_with (go_at_call 21; with_reducible refine (HI.out _).mono ?_; rintro e w0 ⟨rfl, rfl⟩)
      go_ret2
      exact ⟨rfl, Below.refl _ _⟩
    · have e : prT n = [80] ++ bdL n := by unfold prT; rw [if_neg (by omega), if_neg (by omega)]; rfl
      rw [e]
      by_cases q : n % 604800 = 0
      · exact print_posA n h hi.2 q w hT
      · by_cases q2 : n % 86400 = 0
        · exact print_posB n h hi.2 q q2 w hT
        · exact print_posC n h hi.2 q q2 w hT
  · have e1 : prE n = 8 := by unfold prE; rw [if_neg (by rw [spI_no.2 hi]; simp)]
    have e2 : prL n = [] := by unfold prL; rw [if_neg (by rw [spI_no.2 hi]; simp)]
    have HI := Lib.hid (fun W => isspan_any n W)
    rw [spI_no.2 hi] at HI
    rw [e1, e2]
    clear e1 e2 hi hT
    go_enter Tryd.func12, Tryd.ntmps12
    go_wp2_with (go_at_call 21; with_reducible refine (HI.out _).mono ?_; rintro e w0 ⟨rfl, rfl⟩)
    go_ret2
    exact ⟨rfl, Below.refl _ _⟩

theorem add_any (s n : Int) (w : World) :
    Calls Tryd.prog 14 #[.int .i64 s, .int .i64 n] w fun r w' => r = .returned (.tuple #[.int .i64 (adV s n), .int .i64 (adE s n)]) ∧ w = w' := by
  have H1 := Lib.hid (fun W => issec_any s W)
  have H2 := Lib.hid (fun W => isspan_any n W)
  have H3 := Lib.hid (fun W => issec_any (s + n) W)
  have e : adB s n = (scI s && spI n && scI (s + n)) := rfl
  rcases h1 : scI s with _ | _
  · rw [h1] at e H1
    have e1 : adV s n = 0 := by unfold adV; rw [e]; rfl
    have e2 : adE s n = 8 := by unfold adE; rw [e]; rfl
    rw [e1, e2]
    clear e e1 e2 h1
    go_enter Tryd.func14, Tryd.ntmps14
    go_wp2_with (first
      | (go_at_call 27; with_reducible refine (H1.out _).mono ?_; rintro e w0 ⟨rfl, rfl⟩))
    go_ret2
    exact ⟨rfl, rfl⟩
  · rcases h2 : spI n with _ | _
    · rw [h1] at e H1
      rw [h2] at e H2
      have e1 : adV s n = 0 := by unfold adV; rw [e]; rfl
      have e2 : adE s n = 8 := by unfold adE; rw [e]; rfl
      rw [e1, e2]
      clear e e1 e2 h1 h2
      go_enter Tryd.func14, Tryd.ntmps14
      go_wp2_with (first
        | (go_at_call 27; with_reducible refine (H1.out _).mono ?_; rintro e w0 ⟨rfl, rfl⟩)
        | (go_at_call 21; with_reducible refine (H2.out _).mono ?_; rintro e w0 ⟨rfl, rfl⟩))
      go_ret2
      exact ⟨rfl, rfl⟩
    · obtain ⟨s0, s1⟩ := scI_iff.1 h1
      obtain ⟨n0, n1⟩ := spI_iff.1 h2
      unfold maxN at s1
      unfold maxS at n0 n1
      rw [h1] at e H1
      rw [h2] at e H2
      rcases h3 : scI (s + n) with _ | _
      · rw [h3] at e H3
        have e1 : adV s n = 0 := by unfold adV; rw [e]; rfl
        have e2 : adE s n = 8 := by unfold adE; rw [e]; rfl
        rw [e1, e2]
        clear e e1 e2 h1 h2 h3
        go_enter Tryd.func14, Tryd.ntmps14
        go_wp2_with (first
          | (go_at_call 27; with_reducible refine (H1.out _).mono ?_; rintro e w0 ⟨rfl, rfl⟩)
          | (go_at_call 21; with_reducible refine (H2.out _).mono ?_; rintro e w0 ⟨rfl, rfl⟩)
          | (go_at_call 27; with_reducible refine (H3.out _).mono ?_; rintro e w0 ⟨rfl, rfl⟩))
        go_ret2
        exact ⟨rfl, rfl⟩
      · rw [h3] at e H3
        have e1 : adV s n = s + n := by unfold adV; rw [e]; rfl
        have e2 : adE s n = 0 := by unfold adE; rw [e]; rfl
        rw [e1, e2]
        clear e e1 e2 h1 h2 h3
        go_enter Tryd.func14, Tryd.ntmps14
        go_wp2_with (first
          | (go_at_call 27; with_reducible refine (H1.out _).mono ?_; rintro e w0 ⟨rfl, rfl⟩)
          | (go_at_call 21; with_reducible refine (H2.out _).mono ?_; rintro e w0 ⟨rfl, rfl⟩)
          | (go_at_call 27; with_reducible refine (H3.out _).mono ?_; rintro e w0 ⟨rfl, rfl⟩))
        go_ret2
        exact ⟨rfl, rfl⟩

theorem po_zero {m : Int} (h : m % 60 = 0) (p : List UInt8) : ByteArray.mk (p ++ poB m).toArray = ByteArray.mk p.toArray ++ (ByteArray.mk (two (m / 3600)).toArray ++ ByteArray.mk (two (m % 3600 / 60)).toArray) := by
  rw [mk_app, mk_app]
  unfold poB
  rw [if_pos h, List.append_nil]
theorem po_some {m : Int} (h : ¬ m % 60 = 0) (p : List UInt8) : ByteArray.mk (p ++ poB m).toArray = (ByteArray.mk p.toArray ++ (ByteArray.mk (two (m / 3600)).toArray ++ ByteArray.mk (two (m % 3600 / 60)).toArray)) ++ ByteArray.mk (two (m % 60)).toArray := by
  rw [mk_app, mk_app, mk_app]
  unfold poB
  rw [if_neg h]
  simp
theorem two_size (n : Int) : (ByteArray.mk (two n).toArray).size = 2 := rfl

theorem poff_posA (m : Int) (h0 : 0 ≤ m) (h1 : m ≤ 86399) (h : m % 60 = 0) (w : World) :
    Calls Tryd.prog 16 #[.int .i64 m] w fun r w' => r = .returned (.tuple #[.string ⟨([43] ++ poB m).toArray⟩, .int .i64 0]) ∧ w = w' := by
  have a0 : 0 ≤ m / 3600 := by omega
  have a1 : m / 3600 < 100 := by omega
  have b0 : 0 ≤ m % 3600 / 60 := by omega
  have b1 : m % 3600 / 60 < 100 := by omega
  have c0 : 0 ≤ m % 60 := by omega
  have c1 : m % 60 < 100 := by omega
  have d0 : 0 ≤ m % 3600 := by omega
  rw [po_zero h]
  have HH := Lib.hid (fun W => two_any (m / 3600) a0 a1 W)
  have z1 := two_size (m / 3600)
  generalize ByteArray.mk (two (m / 3600)).toArray = t1 at *
  have HM := Lib.hid (fun W => two_any (m % 3600 / 60) b0 b1 W)
  have z2 := two_size (m % 3600 / 60)
  generalize ByteArray.mk (two (m % 3600 / 60)).toArray = t2 at *
  generalize ha : m / 3600 = a at *
  generalize hd : m % 3600 = d at *
  generalize hb : d / 60 = b at *
  go_enter Tryd.func16, Tryd.ntmps16
  go_wp2_with (first
    | (go_at_call 28; with_reducible refine (HH.out _).mono ?_; rintro e w0 ⟨rfl, rfl⟩)
    | (go_at_call 28; with_reducible refine (HM.out _).mono ?_; rintro e w0 ⟨rfl, rfl⟩))
  go_ret2
  exact ⟨rfl, rfl⟩

theorem poff_posB (m : Int) (h0 : 0 ≤ m) (h1 : m ≤ 86399) (h : ¬ m % 60 = 0) (w : World) :
    Calls Tryd.prog 16 #[.int .i64 m] w fun r w' => r = .returned (.tuple #[.string ⟨([43] ++ poB m).toArray⟩, .int .i64 0]) ∧ w = w' := by
  have a0 : 0 ≤ m / 3600 := by omega
  have a1 : m / 3600 < 100 := by omega
  have b0 : 0 ≤ m % 3600 / 60 := by omega
  have b1 : m % 3600 / 60 < 100 := by omega
  have c0 : 0 ≤ m % 60 := by omega
  have c1 : m % 60 < 100 := by omega
  have d0 : 0 ≤ m % 3600 := by omega
  rw [po_some h]
  have HH := Lib.hid (fun W => two_any (m / 3600) a0 a1 W)
  have z1 := two_size (m / 3600)
  generalize ByteArray.mk (two (m / 3600)).toArray = t1 at *
  have HM := Lib.hid (fun W => two_any (m % 3600 / 60) b0 b1 W)
  have z2 := two_size (m % 3600 / 60)
  generalize ByteArray.mk (two (m % 3600 / 60)).toArray = t2 at *
  have HS := Lib.hid (fun W => two_any (m % 60) c0 c1 W)
  have z3 := two_size (m % 60)
  generalize ByteArray.mk (two (m % 60)).toArray = t3 at *
  generalize ha : m / 3600 = a at *
  generalize hd : m % 3600 = d at *
  generalize hb : d / 60 = b at *
  generalize hc : m % 60 = c at *
  go_enter Tryd.func16, Tryd.ntmps16
  go_wp2_with (first
    | (go_at_call 28; with_reducible refine (HH.out _).mono ?_; rintro e w0 ⟨rfl, rfl⟩)
    | (go_at_call 28; with_reducible refine (HM.out _).mono ?_; rintro e w0 ⟨rfl, rfl⟩)
    | (go_at_call 28; with_reducible refine (HS.out _).mono ?_; rintro e w0 ⟨rfl, rfl⟩))
  go_ret2
  exact ⟨rfl, rfl⟩

theorem poff_negA (m : Int) (h0 : 0 < m) (h1 : m ≤ 86399) (h : m % 60 = 0) (w : World) :
    Calls Tryd.prog 16 #[.int .i64 (-m)] w fun r w' => r = .returned (.tuple #[.string ⟨([45] ++ poB m).toArray⟩, .int .i64 0]) ∧ w = w' := by
  have a0 : 0 ≤ m / 3600 := by omega
  have a1 : m / 3600 < 100 := by omega
  have b0 : 0 ≤ m % 3600 / 60 := by omega
  have b1 : m % 3600 / 60 < 100 := by omega
  have c0 : 0 ≤ m % 60 := by omega
  have c1 : m % 60 < 100 := by omega
  have d0 : 0 ≤ m % 3600 := by omega
  rw [po_zero h]
  have HH := Lib.hid (fun W => two_any (m / 3600) a0 a1 W)
  have z1 := two_size (m / 3600)
  generalize ByteArray.mk (two (m / 3600)).toArray = t1 at *
  have HM := Lib.hid (fun W => two_any (m % 3600 / 60) b0 b1 W)
  have z2 := two_size (m % 3600 / 60)
  generalize ByteArray.mk (two (m % 3600 / 60)).toArray = t2 at *
  generalize ha : m / 3600 = a at *
  generalize hd : m % 3600 = d at *
  generalize hb : d / 60 = b at *
  go_enter Tryd.func16, Tryd.ntmps16
  go_wp2_with (first
    | (go_at_call 28; with_reducible refine (HH.out _).mono ?_; rintro e w0 ⟨rfl, rfl⟩)
    | (go_at_call 28; with_reducible refine (HM.out _).mono ?_; rintro e w0 ⟨rfl, rfl⟩))
  go_ret2
  exact ⟨rfl, rfl⟩

theorem poff_negB (m : Int) (h0 : 0 < m) (h1 : m ≤ 86399) (h : ¬ m % 60 = 0) (w : World) :
    Calls Tryd.prog 16 #[.int .i64 (-m)] w fun r w' => r = .returned (.tuple #[.string ⟨([45] ++ poB m).toArray⟩, .int .i64 0]) ∧ w = w' := by
  have a0 : 0 ≤ m / 3600 := by omega
  have a1 : m / 3600 < 100 := by omega
  have b0 : 0 ≤ m % 3600 / 60 := by omega
  have b1 : m % 3600 / 60 < 100 := by omega
  have c0 : 0 ≤ m % 60 := by omega
  have c1 : m % 60 < 100 := by omega
  have d0 : 0 ≤ m % 3600 := by omega
  rw [po_some h]
  have HH := Lib.hid (fun W => two_any (m / 3600) a0 a1 W)
  have z1 := two_size (m / 3600)
  generalize ByteArray.mk (two (m / 3600)).toArray = t1 at *
  have HM := Lib.hid (fun W => two_any (m % 3600 / 60) b0 b1 W)
  have z2 := two_size (m % 3600 / 60)
  generalize ByteArray.mk (two (m % 3600 / 60)).toArray = t2 at *
  have HS := Lib.hid (fun W => two_any (m % 60) c0 c1 W)
  have z3 := two_size (m % 60)
  generalize ByteArray.mk (two (m % 60)).toArray = t3 at *
  generalize ha : m / 3600 = a at *
  generalize hd : m % 3600 = d at *
  generalize hb : d / 60 = b at *
  generalize hc : m % 60 = c at *
  go_enter Tryd.func16, Tryd.ntmps16
  go_wp2_with (first
    | (go_at_call 28; with_reducible refine (HH.out _).mono ?_; rintro e w0 ⟨rfl, rfl⟩)
    | (go_at_call 28; with_reducible refine (HM.out _).mono ?_; rintro e w0 ⟨rfl, rfl⟩)
    | (go_at_call 28; with_reducible refine (HS.out _).mono ?_; rintro e w0 ⟨rfl, rfl⟩))
  go_ret2
  exact ⟨rfl, rfl⟩

theorem poff_any (n : Int) (w : World) :
    Calls Tryd.prog 16 #[.int .i64 n] w fun r w' => r = .returned (.tuple #[.string ⟨(poL n).toArray⟩, .int .i64 (poE n)]) ∧ w = w' := by
  by_cases hi : -86399 ≤ n ∧ n ≤ 86399
  · have e1 : poE n = 0 := by unfold poE; rw [if_pos (poI_iff.2 hi)]
    have e2 : poL n = poT n := by unfold poL; rw [if_pos (poI_iff.2 hi)]
    rw [e1, e2]
    by_cases h : n < 0
    · obtain ⟨m, rfl⟩ : ∃ m, n = -m := ⟨-n, by omega⟩
      have e : poT (-m) = [45] ++ poB m := by unfold poT; rw [if_pos h, Int.neg_neg]; rfl
      rw [e]
      by_cases q : m % 60 = 0
      · exact poff_negA m (by omega) (by omega) q w
      · exact poff_negB m (by omega) (by omega) q w
    · have e : poT n = [43] ++ poB n := by unfold poT; rw [if_neg h]; rfl
      rw [e]
      by_cases q : n % 60 = 0
      · exact poff_posA n (by omega) (by omega) q w
      · exact poff_posB n (by omega) (by omega) q w
  · have hn : ¬ poI n = true := fun h => hi (poI_iff.1 h)
    have e1 : poE n = 8 := by unfold poE; rw [if_neg hn]
    have e2 : poL n = [] := by unfold poL; rw [if_neg hn]
    rw [e1, e2]
    clear e1 e2 hn
    by_cases h : n < -86399
    · clear hi
      go_enter Tryd.func16, Tryd.ntmps16
      go_wp2
      go_ret2
      exact ⟨rfl, rfl⟩
    · have h2 : 86399 < n := by omega
      clear hi
      go_enter Tryd.func16, Tryd.ntmps16
      go_wp2
      go_ret2
      exact ⟨rfl, rfl⟩
end Go.Proofs.YtmbbjpfhdijmbaaDoor.Spn
