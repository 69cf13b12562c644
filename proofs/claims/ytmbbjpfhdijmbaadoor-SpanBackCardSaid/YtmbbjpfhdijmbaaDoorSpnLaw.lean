/- The walks of SpanParses, SpanTells, SpanBack and SpanAdds. -/
import Derived.Test.YtmbbjpfhdijmbaaDoorSpnAw
import Derived.Test.YtmbbjpfhdijmbaaDoorSpnRPar
import Derived.Test.YtmbbjpfhdijmbaaDoorSpnRPri
import Derived.Test.YtmbbjpfhdijmbaaDoorSpnROAll
namespace Go.Proofs.YtmbbjpfhdijmbaaDoor.Spn
open Go.RowKit

theorem parse_s (s : ByteArray) (hs : s.size ≤ 60) (w : World) : Calls Tryd.prog 8 #[.string s] w fun r w' => r = .returned (.tuple #[.int .i64 (paV s.data.toList), .int .i64 (paE s.data.toList)]) ∧ Below w.heap.size w w' := by
  have h := parse_l s.data.toList (by rw [len_list]; omega) w
  rwa [mk_list] at h
theorem rparse_s (s : ByteArray) (hs : s.size ≤ 60) (w : World) : Calls Tryd.prog 9 #[.string s] w fun r w' => r = .returned (.tuple #[.int .i64 (paV s.data.toList), .int .i64 (paE s.data.toList)]) ∧ Below w.heap.size w w' := by
  have h := rparse_l s.data.toList (by rw [len_list]; omega) w
  rwa [mk_list] at h
theorem poffset_s (s : ByteArray) (hs : s.size ≤ 60) (w : World) : Calls Tryd.prog 10 #[.string s] w fun r w' => r = .returned (.tuple #[.int .i64 (ofV s.data.toList), .int .i64 (ofE s.data.toList)]) ∧ Below w.heap.size w w' := by
  have h := poffset_l s.data.toList (by rw [len_list]; omega) w
  rwa [mk_list] at h
theorem rpoffset_s (s : ByteArray) (w : World) : Calls Tryd.prog 11 #[.string s] w fun r w' => r = .returned (.tuple #[.int .i64 (ofV s.data.toList), .int .i64 (ofE s.data.toList)]) ∧ Below w.heap.size w w' := by
  have h := rpoffset_l s.data.toList w
  rwa [mk_list] at h

theorem walk_parses (s t : ByteArray) (w : World) (hT : PTab w) :
    Calls Tryd.prog 3 #[.string s, .string t] w fun r w' => r = .returned (.bool true) ∧ Below w.heap.size w w' := by
  have HT := Lib.hid hT
  clear hT
  have HA := Lib.hid (fun W hW => awake_any W hW)
  by_cases h : (60 : Int) < s.size
  · go_enter Tryd.func3, Tryd.ntmps3
    go_wp2_with (go_at_call 7; with_reducible refine (HA.out _ HT.out).mono ?_; rintro e w1 ⟨rfl, hb⟩; have B1 := Lib.hid hb; clear hb)
    go_ret
    exact ⟨rfl, B1.out⟩
  by_cases h2 : (60 : Int) < t.size
  · go_enter Tryd.func3, Tryd.ntmps3
    go_wp2_with (go_at_call 7; with_reducible refine (HA.out _ HT.out).mono ?_; rintro e w1 ⟨rfl, hb⟩; have B1 := Lib.hid hb; clear hb)
    go_ret
    exact ⟨rfl, B1.out⟩
  · have hs : s.size ≤ 60 := by omega
    have ht : t.size ≤ 60 := by omega
    have H1 := Lib.hid (fun W => parse_s s hs W)
    have H2 := Lib.hid (fun W => rparse_s s hs W)
    have H3 := Lib.hid (fun W => poffset_s t ht W)
    have H4 := Lib.hid (fun W => rpoffset_s t W)
    generalize paV s.data.toList = a at *
    generalize paE s.data.toList = e at *
    generalize ofV t.data.toList = c at *
    generalize ofE t.data.toList = g at *
    have t1 : (a == a) = true := by simp
    have t2 : (e == e) = true := by simp
    have t3 : (c == c) = true := by simp
    have t4 : (g == g) = true := by simp
    go_enter Tryd.func3, Tryd.ntmps3
    go_wp2_with (first
      | (go_at_call 8; with_reducible refine (H1.out _).mono ?_; rintro e w1 ⟨rfl, hb⟩; have B1 := Lib.hid ((Bl.refl w).call hb); clear hb)
      | (go_at_call 9; with_reducible refine (H2.out _).mono ?_; rintro e w2 ⟨rfl, hb⟩; have B2 := Lib.hid (B1.out.call hb); clear hb)
      | (go_at_call 10; with_reducible refine (H3.out _).mono ?_; rintro e w3 ⟨rfl, hb⟩; have B3 := Lib.hid (B2.out.call hb); clear hb)
      | (go_at_call 11; with_reducible refine (H4.out _).mono ?_; rintro e w4 ⟨rfl, hb⟩; have B4 := Lib.hid (B3.out.call hb); clear hb)
      | (go_at_call 7; with_reducible refine (HA.out _ (B4.out.tab HT.out)).mono ?_; rintro e w5 ⟨rfl, hb⟩; have B5 := Lib.hid (B4.out.call hb); clear hb))
    go_ret
    exact ⟨rfl, B5.out.below⟩

theorem walk_tells (n sec off : Int) (w : World) (hT : PTab w) :
    Calls Tryd.prog 4 #[.int .i64 n, .int .i64 sec, .int .i64 off] w fun r w' => r = .returned (.bool true) ∧ Below w.heap.size w w' := by
  have HT := Lib.hid hT
  clear hT
  have HA := Lib.hid (fun W hW => awake_any W hW)
  have H1 := Lib.hid (fun W hW => print_any n W hW)
  have H2 := Lib.hid (fun W => rprint_any n W)
  have H3 := Lib.hid (fun W => add_any sec n W)
  have H4 := Lib.hid (fun W => radd_any sec n W)
  have H5 := Lib.hid (fun W => poff_any off W)
  have H6 := Lib.hid (fun W => rpoff_any off W)
  generalize ByteArray.mk (prL n).toArray = s at *
  generalize prE n = e at *
  generalize adV sec n = a at *
  generalize adE sec n = g at *
  generalize ByteArray.mk (poL off).toArray = u at *
  generalize poE off = i at *
  have t1 : (s.toList == s.toList) = true := by simp
  have t2 : (e == e) = true := by simp
  have t3 : (a == a) = true := by simp
  have t4 : (g == g) = true := by simp
  have t5 : (u.toList == u.toList) = true := by simp
  have t6 : (i == i) = true := by simp
  go_enter Tryd.func4, Tryd.ntmps4
  go_wp2_with (first
    | (go_at_call 12; with_reducible refine (H1.out _ HT.out).mono ?_; rintro e w1 ⟨rfl, hb⟩; have B1 := Lib.hid ((Bl.refl w).call hb); clear hb)
    | (go_at_call 13; with_reducible refine (H2.out _).mono ?_; rintro e w2 ⟨rfl, hb⟩; have B2 := Lib.hid (B1.out.call hb); clear hb)
    | (go_at_call 14; with_reducible refine (H3.out _).mono ?_; rintro e w0 ⟨rfl, rfl⟩)
    | (go_at_call 15; with_reducible refine (H4.out _).mono ?_; rintro e w0 ⟨rfl, rfl⟩)
    | (go_at_call 16; with_reducible refine (H5.out _).mono ?_; rintro e w0 ⟨rfl, rfl⟩)
    | (go_at_call 17; with_reducible refine (H6.out _).mono ?_; rintro e w3 ⟨rfl, hb⟩; have B3 := Lib.hid (B2.out.call hb); clear hb)
    | (go_at_call 7; with_reducible refine (HA.out _ (B3.out.tab HT.out)).mono ?_; rintro e w4 ⟨rfl, hb⟩; have B4 := Lib.hid (B3.out.call hb); clear hb))
  go_ret
  exact ⟨rfl, B4.out.below⟩

theorem adB_small {s n : Int} (s0 : 0 ≤ s) (s1 : s ≤ 315537897599) (n0 : -4294967296 ≤ n) (n1 : n ≤ 4294967296) : adB s n = scI (s + n) := by
  unfold adB
  rw [scI_iff.2 ⟨s0, by unfold maxN; exact s1⟩, spI_iff.2 ⟨by unfold maxS; omega, by unfold maxS; omega⟩]
  rfl

theorem walk_adds (sec a b : Int) (s0 : 0 ≤ sec) (a0 : -2147483648 ≤ a) (a1 : a ≤ 2147483647) (b0 : -2147483648 ≤ b) (b1 : b ≤ 2147483647) (w : World) (hT : PTab w) :
    Calls Tryd.prog 6 #[.int .u64 sec, .int .i32 a, .int .i32 b] w fun r w' => r = .returned (.bool true) ∧ Below w.heap.size w w' := by
  have HT := Lib.hid hT
  clear hT
  have HA := Lib.hid (fun W hW => awake_any W hW)
  have et : sec.tmod 315537897600 = sec % 315537897600 := Int.tmod_eq_emod_of_nonneg s0
  have c0 : 0 ≤ sec % 315537897600 := by omega
  have c1 : sec % 315537897600 ≤ 315537897599 := by omega
  generalize hk : sec % 315537897600 = k at *
  have H1 := Lib.hid (fun W => add_any k a W)
  have e1 := adB_small (s := k) (n := a) c0 c1 (by omega) (by omega)
  rcases hs : scI (k + a) with _ | _
  · rw [hs] at e1
    obtain ⟨f1, f2⟩ := ad_not e1
    rw [f1, f2] at H1
    have hn : ¬ (0 ≤ k + a ∧ k + a ≤ maxN) := fun h => by have := scI_iff.2 h; rw [hs] at this; cases this
    unfold maxN at hn
    clear e1 f1 f2 hs
    by_cases q : k + a < 0
    · clear hn
      go_enter Tryd.func6, Tryd.ntmps6
      go_wp2_with (first
        | (go_at_call 14; with_reducible refine (H1.out _).mono ?_; rintro e w0 ⟨rfl, rfl⟩)
        | (go_at_call 7; with_reducible refine (HA.out _ HT.out).mono ?_; rintro e w1 ⟨rfl, hb⟩; have B1 := Lib.hid hb; clear hb))
      go_ret
      exact ⟨rfl, B1.out⟩
    · have q2 : 315537897599 < k + a := by omega
      clear hn
      go_enter Tryd.func6, Tryd.ntmps6
      go_wp2_with (first
        | (go_at_call 14; with_reducible refine (H1.out _).mono ?_; rintro e w0 ⟨rfl, rfl⟩)
        | (go_at_call 7; with_reducible refine (HA.out _ HT.out).mono ?_; rintro e w1 ⟨rfl, hb⟩; have B1 := Lib.hid hb; clear hb))
      go_ret
      exact ⟨rfl, B1.out⟩
  · rw [hs] at e1
    obtain ⟨f1, f2⟩ := ad_yes e1
    rw [f1, f2] at H1
    obtain ⟨x0, x1⟩ := scI_iff.1 hs
    unfold maxN at x1
    have H2 := Lib.hid (fun W => add_any (k + a) (-a) W)
    have e2 := adB_small (s := k + a) (n := -a) x0 x1 (by omega) (by omega)
    rw [show k + a + -a = k by omega, scI_iff.2 ⟨c0, by unfold maxN; exact c1⟩] at e2
    obtain ⟨f3, f4⟩ := ad_yes e2
    rw [f3, f4, show k + a + -a = k by omega] at H2
    have H3 := Lib.hid (fun W => add_any (k + a) b W)
    have H4 := Lib.hid (fun W => add_any k (a + b) W)
    have e3 := adB_small (s := k + a) (n := b) x0 x1 (by omega) (by omega)
    have e4 := adB_small (s := k) (n := a + b) c0 c1 (by omega) (by omega)
    have ev : adV k (a + b) = adV (k + a) b := by unfold adV; rw [e3, e4, show k + a + b = k + (a + b) by omega]
    have ee : adE k (a + b) = adE (k + a) b := by unfold adE; rw [e3, e4, show k + a + b = k + (a + b) by omega]
    rw [ev, ee] at H4
    have t0 : (k + a - k == a) = true := by rw [beq_iff_eq]; omega
    clear e1 f1 f2 hs e2 f3 f4 e3 e4 ev ee
    generalize adV (k + a) b = z at *
    generalize adE (k + a) b = g at *
    generalize hx : k + a = x at *
    have t1 : (k == k) = true := by simp
    have t2 : (z == z) = true := by simp
    have t3 : (g == g) = true := by simp
    have HX := Lib.hid hx
    clear hx
    go_enter Tryd.func6, Tryd.ntmps6
    go_wp2_with (first
      | (go_at_call 14; with_reducible refine (H1.out _).mono ?_; rintro e w0 ⟨rfl, rfl⟩)
      | (go_at_call 14; with_reducible refine (H2.out _).mono ?_; rintro e w0 ⟨rfl, rfl⟩)
      | (go_at_call 14; with_reducible refine (H3.out _).mono ?_; rintro e w0 ⟨rfl, rfl⟩)
      | (go_at_call 14; with_reducible refine (H4.out _).mono ?_; rintro e w0 ⟨rfl, rfl⟩)
      | (go_at_call 7; with_reducible refine (HA.out _ HT.out).mono ?_; rintro e w1 ⟨rfl, hb⟩; have B1 := Lib.hid hb; clear hb))
    go_ret
    exact ⟨rfl, B1.out⟩
end Go.Proofs.YtmbbjpfhdijmbaaDoor.Spn
