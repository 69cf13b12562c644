/- Contracts of next and take: a text's first part. -/
import Derived.Test.YtmbbjpfhdijmbaaDoorSpnSmall
import Derived.BigQuiet
import Derived.OwnWalk
import Derived.Lib.Atoi
import Derived.Lib.Strings
namespace Go.Proofs.YtmbbjpfhdijmbaaDoor.Spn
open Go.RowKit

/-- A world of the class G, as one thing. -/
structure Wd (G : World → Prop) where
  W : World
  ok : G W
theorem wp_region_class {P : Program} {id : Nat} {Q : Exit → Act → World → Prop} {a : Act} {w : World} {l : List Oper} (G : World → Prop) (hG : G { w with drawn := w.drawn + 1 })
    (hm : P.follows .mixedOrders = true) (hB : Region.lexB .any l.toArray = true)
    (h : Nonempty (Wd G) → wpQuiet P l.toArray (fun w' => ∃ x : Wd G, w' = x.W) (fun a' => ∀ w', (∃ x : Wd G, w' = x.W) → Q .normal a' w') l a) : (Code.region id l.toArray true).wp P Q a w :=
  wp_region_quiet (C := fun w' => ∃ x : Wd G, w' = x.W) hm hB ⟨⟨_, hG⟩, rfl⟩ (by simpa using h ⟨⟨_, hG⟩⟩)
theorem wd_call {P : Program} {f : FuncId} {args : Array Value} {G : World → Prop} {x : Wd G} {v : Value} (hk : ∀ W W', G W → Below W.heap.size W W' → G W')
    (h : Calls P f args x.W fun r w' => r = .returned v ∧ Below x.W.heap.size x.W w') : Calls P f args x.W fun r w'' => r = .returned v ∧ ∃ y : Wd G, w'' = y.W :=
  h.mono fun _ _ ⟨he, hb⟩ => ⟨he, ⟨_, hk _ _ x.ok hb⟩, rfl⟩
/-- What a call may have made. -/
structure Bl (w w1 : World) : Prop where
  below : Below w.heap.size w w1
  le : w.heap.size ≤ w1.heap.size
theorem Bl.refl (w : World) : Bl w w := ⟨Below.refl _ _, Nat.le_refl _⟩
theorem Bl.call {w w1 w2 : World} (h : Bl w w1) (hb : Below w1.heap.size w1 w2) : Bl w w2 := ⟨h.below.trans (hb.mono h.le), by have := hb.size; have := h.le; omega⟩
theorem Bl.keep {w : World} : ∀ W W', Bl w W → Below W.heap.size W W' → Bl w W' := fun _ _ h hb => h.call hb
theorem Bl.tab {w w1 : World} (h : Bl w w1) (hT : PTab w) : PTab w1 := ptab_below hT h.below

theorem ext_take (s : ByteArray) (k : Nat) : s.extract 0 k = ⟨(s.data.toList.take k).toArray⟩ := by
  apply ByteArray.ext
  apply Array.toList_inj.1
  simp
theorem ext_drop (s : ByteArray) (k : Nat) : s.extract k s.size = ⟨(s.data.toList.drop k).toArray⟩ := by
  apply ByteArray.ext
  apply Array.toList_inj.1
  rw [Lib.extract_data, List.take_of_length_le]
  rw [List.length_drop, ← Lib.size_eq]
  exact Nat.le_refl _

theorem next_any (s : ByteArray) (hs : s.size ≤ 100) (w : World) :
    Calls Tryd.prog 32 #[.string s] w fun r w' => r = .returned (.tuple #[.int .i64 (nxN s.data.toList), .int .u8 (nxC s.data.toList).toNat, .string ⟨(nxR s.data.toList).toArray⟩]) ∧ Below w.heap.size w w' := by
  have HC := Lib.hid (fun W => count_any s hs W)
  rcases ho : okN s.data.toList with _ | _
  · obtain ⟨e1, e2, e3⟩ := nx_not ho
    rw [e1, e2, e3]
    have hc : cnt s.data.toList = 0 ∨ 6 < cnt s.data.toList ∨ cnt s.data.toList = s.size := by
      have h := cnt_le s.data.toList
      rw [len_list] at h
      have h2 : ¬ (1 ≤ cnt s.data.toList ∧ cnt s.data.toList ≤ 6 ∧ cnt s.data.toList < s.size) := by rw [← len_list, ← okN_iff, ho]; simp
      omega
    clear e1 e2 e3 ho
    generalize cnt s.data.toList = k at *
    rcases hc with rfl | hc | rfl
    · go_enter Tryd.func32, Tryd.ntmps32
      go_wp2_with (go_at_call 23; with_reducible refine (HC.out _).mono ?_; rintro e w' ⟨rfl, rfl⟩)
      go_ret3
      exact ⟨rfl, Below.refl _ _⟩
    · have n0 : ((k : Int) == 0) = false := by simp; omega
      have n6 : (6 : Int) < k := by omega
      go_enter Tryd.func32, Tryd.ntmps32
      go_wp2_with (go_at_call 23; with_reducible refine (HC.out _).mono ?_; rintro e w' ⟨rfl, rfl⟩)
      go_ret3
      exact ⟨rfl, Below.refl _ _⟩
    · go_enter Tryd.func32, Tryd.ntmps32
      go_wp2_with (go_at_call 23; with_reducible refine (HC.out _).mono ?_; rintro e w' ⟨rfl, rfl⟩)
      all_goals go_ret3
      all_goals exact ⟨rfl, Below.refl _ _⟩
  · obtain ⟨k1, k2, k3⟩ := okN_iff.1 ho
    obtain ⟨e1, e2, e3⟩ := nx_ok ho
    have HN := Lib.hid (fun W => number_any ⟨(s.data.toList.take (cnt s.data.toList)).toArray⟩ (by rw [data_mk]; exact cnt_all _ (Nat.le_refl _)) (by rw [size_mk, List.length_take]; omega) (by rw [size_mk, List.length_take]; omega) W)
    rw [data_mk, ← e1] at HN
    have HR := Lib.hid (ext_drop s (cnt s.data.toList + 1))
    rw [← e3] at HR
    have k4 : cnt s.data.toList < s.size := by rwa [len_list] at k3
    have HT := Lib.hid (ext_take s (cnt s.data.toList))
    have hx : s[cnt s.data.toList] = nxC s.data.toList := by rw [e2, ← getD k4]
    clear e1 e2 e3 ho k3
    generalize nxN s.data.toList = n at *
    generalize nxC s.data.toList = c at *
    generalize ByteArray.mk (nxR s.data.toList).toArray = r at *
    rw [← HT.out] at HN
    clear HT
    generalize cnt s.data.toList = k at *
    have hx2 : (s[k].toNat : Int) = c.toNat := by rw [hx]
    have n0 : ((k : Int) == 0) = false := by simp; omega
    have n6 : ((k : Int) == s.size) = false := by simp; omega
    have HX := Lib.hid hx2
    clear hx hx2
    go_enter Tryd.func32, Tryd.ntmps32
    go_wp2_with (go_at_call 23; with_reducible refine (HC.out _).mono ?_; rintro e w' ⟨rfl, rfl⟩)
    refine wp_region_class (Bl w) ((Bl.refl w).call (Joins.below_draws _ _ 1)) (by kernel_rfl) (by kernel_rfl) ?_
    intro hne
    go_big_quiet_step (fail)
    go_big_quiet_step (fail)
    go_big_quiet_step (fail)
    go_big_quiet_step (exact wd_call Bl.keep (HN.out _))
    go_big_quiet_step (fail)
    go_big_quiet_step (fail)
    go_big_quiet_step (fail)
    go_big_quiet_step (fail)
    go_big_quiet_step (fail)
    go_big_quiet_step (fail)
    go_big_quiet_step (fail)
    go_big_quiet_step (fail)
    go_big_quiet_step (fail)
    go_big_quiet_step (fail)
    refine wpQuiet_nil ?_
    rintro _ ⟨z, rfl⟩
    have HB := Lib.hid z.ok.below
    go_wp2_with fail
    go_ret3
    exact ⟨by rw [HX.out, HR.out]; rfl, HB.out⟩

theorem u8_ne {a b : UInt8} (h : ¬ a = b) : ((a.toNat : Int) != (b.toNat : Int)) = true := by
  simp; intro e; exact h (UInt8.toNat_inj.1 (by omega))
theorem u8_eq {a b : UInt8} (h : a = b) : ((a.toNat : Int) != (b.toNat : Int)) = false := by simp [h]
theorem take_any (s : ByteArray) (c : UInt8) (hs : s.size ≤ 100) (w : World) :
    Calls Tryd.prog 33 #[.string s, .int .u8 c.toNat] w fun r w' => r = .returned (.tuple #[.int .i64 (tkN c s.data.toList), .string ⟨(tkR c s.data.toList).toArray⟩]) ∧ Below w.heap.size w w' := by
  have HN := Lib.hid (fun W => next_any s hs W)
  by_cases h : nxC s.data.toList = c
  · obtain ⟨e1, e2⟩ := tk_yes h
    rw [e1, e2]
    have h2 := u8_eq h
    clear e1 e2 h
    generalize nxN s.data.toList = n at *
    generalize nxC s.data.toList = d at *
    generalize ByteArray.mk (nxR s.data.toList).toArray = r at *
    go_enter Tryd.func33, Tryd.ntmps33
    go_wp2_with (go_at_call 32; with_reducible refine (HN.out _).mono ?_; rintro e w1 ⟨rfl, hb⟩; have B1 := Lib.hid hb; clear hb)
    go_ret2
    exact ⟨rfl, B1.out⟩
  · obtain ⟨e1, e2⟩ := tk_not h
    rw [e1, e2, mk_list]
    have h2 := u8_ne h
    clear e1 e2 h
    generalize nxN s.data.toList = n at *
    generalize nxC s.data.toList = d at *
    generalize ByteArray.mk (nxR s.data.toList).toArray = r at *
    go_enter Tryd.func33, Tryd.ntmps33
    go_wp2_with (go_at_call 32; with_reducible refine (HN.out _).mono ?_; rintro e w1 ⟨rfl, hb⟩; have B1 := Lib.hid hb; clear hb)
    go_ret2
    exact ⟨rfl, B1.out⟩
/-- The same at texts that are lists. -/
theorem next_l (l : List UInt8) (hs : l.length ≤ 100) (w : World) :
    Calls Tryd.prog 32 #[.string ⟨l.toArray⟩] w fun r w' => r = .returned (.tuple #[.int .i64 (nxN l), .int .u8 (nxC l).toNat, .string ⟨(nxR l).toArray⟩]) ∧ Below w.heap.size w w' := by
  have := next_any ⟨l.toArray⟩ (by rw [size_mk]; exact hs) w
  rwa [data_mk] at this
theorem take_l (l : List UInt8) (c : UInt8) (hs : l.length ≤ 100) (w : World) :
    Calls Tryd.prog 33 #[.string ⟨l.toArray⟩, .int .u8 c.toNat] w fun r w' => r = .returned (.tuple #[.int .i64 (tkN c l), .string ⟨(tkR c l).toArray⟩]) ∧ Below w.heap.size w w' := by
  have := take_any ⟨l.toArray⟩ c (by rw [size_mk]; exact hs) w
  rwa [data_mk] at this
theorem take_d (l : List UInt8) (hs : l.length ≤ 100) (w : World) :
    Calls Tryd.prog 33 #[.string ⟨l.toArray⟩, .int .u8 68] w fun r w' => r = .returned (.tuple #[.int .i64 (tkN 68 l), .string ⟨(tkR 68 l).toArray⟩]) ∧ Below w.heap.size w w' := take_l l 68 hs w
theorem take_h (l : List UInt8) (hs : l.length ≤ 100) (w : World) :
    Calls Tryd.prog 33 #[.string ⟨l.toArray⟩, .int .u8 72] w fun r w' => r = .returned (.tuple #[.int .i64 (tkN 72 l), .string ⟨(ck1 l).toArray⟩]) ∧ Below w.heap.size w w' := take_l l 72 hs w
theorem take_m (l : List UInt8) (hs : (ck1 l).length ≤ 100) (w : World) :
    Calls Tryd.prog 33 #[.string ⟨(ck1 l).toArray⟩, .int .u8 77] w fun r w' => r = .returned (.tuple #[.int .i64 (tkN 77 (ck1 l)), .string ⟨(ck2 l).toArray⟩]) ∧ Below w.heap.size w w' := take_l (ck1 l) 77 hs w
theorem take_s (l : List UInt8) (hs : (ck2 l).length ≤ 100) (w : World) :
    Calls Tryd.prog 33 #[.string ⟨(ck2 l).toArray⟩, .int .u8 83] w fun r w' => r = .returned (.tuple #[.int .i64 (tkN 83 (ck2 l)), .string ⟨(ck3 l).toArray⟩]) ∧ Below w.heap.size w w' := take_l (ck2 l) 83 hs w
theorem tkR_len (c : UInt8) (l : List UInt8) : (tkR c l).length ≤ l.length := by
  unfold tkR
  split
  · exact nxR_len l
  · exact Nat.le_refl _
theorem isE_mk (l : List UInt8) : (ByteArray.mk l.toArray).toList.isEmpty = l.isEmpty := by rw [ByteArray.toList_eq, data_mk]

theorem clock_l (l : List UInt8) (hs : l.length ≤ 100) (w : World) :
    Calls Tryd.prog 34 #[.string ⟨l.toArray⟩] w fun r w' => r = .returned (.tuple #[.int .i64 (ckV l), .bool (ckB l)]) ∧ Below w.heap.size w w' := by
  have HN := Lib.hid (fun W => next_l l hs W)
  rcases hh : hms l with _ | _
  · have e1 : ckV l = 0 := by unfold ckV; rw [if_neg (by simp [hh])]
    have e2 : ckB l = false := by unfold ckB; rw [hh]; rfl
    rw [e1, e2]
    clear e1 e2
    simp only [hms, Bool.or_eq_false_iff, beq_eq_false_iff_ne] at hh
    obtain ⟨⟨h1, h2⟩, h3⟩ := hh
    have t1 : ((nxC l).toNat : Int) ≠ 72 := fun e => h1 (UInt8.toNat_inj.1 (by show (nxC l).toNat = 72; omega))
    have t2 : ((nxC l).toNat : Int) ≠ 77 := fun e => h2 (UInt8.toNat_inj.1 (by show (nxC l).toNat = 77; omega))
    have t3 : ((nxC l).toNat : Int) ≠ 83 := fun e => h3 (UInt8.toNat_inj.1 (by show (nxC l).toNat = 83; omega))
    clear h1 h2 h3
    generalize nxN l = n at *
    generalize nxC l = d at *
    generalize ByteArray.mk (nxR l).toArray = r at *
    generalize ByteArray.mk l.toArray = s at *
    go_enter Tryd.func34, Tryd.ntmps34
    go_wp2_with (go_at_call 32; with_reducible refine (HN.out _).mono ?_; rintro e w1 ⟨rfl, hb⟩; have B1 := Lib.hid hb; clear hb)
    go_ret2
    exact ⟨rfl, B1.out⟩
  · have e1 : ckV l = tkN 72 l * 3600 + tkN 77 (ck1 l) * 60 + tkN 83 (ck2 l) := if_pos hh
    have e2 : ckB l = (ByteArray.mk (ck3 l).toArray).toList.isEmpty := by rw [isE_mk]; unfold ckB; rw [hh]; rfl
    rw [e1, e2]
    clear e1 e2
    have l1 : (ck1 l).length ≤ 100 := Nat.le_trans (tkR_len _ _) hs
    have l2 : (ck2 l).length ≤ 100 := Nat.le_trans (tkR_len _ _) l1
    have HH := Lib.hid (fun W => take_h l hs W)
    have HM := Lib.hid (fun W => take_m l l1 W)
    have HS := Lib.hid (fun W => take_s l l2 W)
    obtain ⟨a0, a1⟩ := tkN_in 72 l
    obtain ⟨b0, b1⟩ := tkN_in 77 (ck1 l)
    obtain ⟨c0, c1⟩ := tkN_in 83 (ck2 l)
    simp only [hms, Bool.or_eq_true, beq_iff_eq] at hh
    by_cases h1 : nxC l = 72
    · have t1 : ((nxC l).toNat : Int) = 72 := by rw [h1]; rfl
      clear h1 hh
      generalize nxN l = n at *
      generalize nxC l = d at *
      generalize tkN 72 l = x at *
      generalize tkN 77 (ck1 l) = y at *
      generalize tkN 83 (ck2 l) = z at *
      generalize ByteArray.mk (nxR l).toArray = r at *
      generalize ByteArray.mk (ck1 l).toArray = s1 at *
      generalize ByteArray.mk (ck2 l).toArray = s2 at *
      generalize ByteArray.mk (ck3 l).toArray = s3 at *
      generalize ByteArray.mk l.toArray = s at *
      go_enter Tryd.func34, Tryd.ntmps34
      go_wp2_with (first
        | (go_at_call 32; with_reducible refine (HN.out _).mono ?_; rintro e w1 ⟨rfl, hb⟩; have B1 := Lib.hid ((Bl.refl w).call hb); clear hb)
        | (go_at_call 33; with_reducible refine (HH.out _).mono ?_; rintro e w2 ⟨rfl, hb⟩; have B2 := Lib.hid (B1.out.call hb); clear hb)
        | (go_at_call 33; with_reducible refine (HM.out _).mono ?_; rintro e w3 ⟨rfl, hb⟩; have B3 := Lib.hid (B2.out.call hb); clear hb)
        | (go_at_call 33; with_reducible refine (HS.out _).mono ?_; rintro e w4 ⟨rfl, hb⟩; have B4 := Lib.hid (B3.out.call hb); clear hb))
      go_ret2
      exact ⟨rfl, B4.out.below⟩
    · obtain ⟨q1, q2⟩ := tk_not h1
      have q2 : ck1 l = l := q2
      rw [q1]
      rw [q2] at b0 b1 HM
      by_cases h2 : nxC l = 77
      · have t1 : ((nxC l).toNat : Int) = 77 := by rw [h2]; rfl
        rw [q2]
        clear h1 hh h2 HH q1 q2 a0 a1
        generalize nxN l = n at *
        generalize nxC l = d at *
        generalize tkN 77 l = y at *
        generalize tkN 83 (ck2 l) = z at *
        generalize ByteArray.mk (nxR l).toArray = r at *
        generalize ByteArray.mk (ck2 l).toArray = s2 at *
        generalize ByteArray.mk (ck3 l).toArray = s3 at *
        generalize ByteArray.mk l.toArray = s at *
        go_enter Tryd.func34, Tryd.ntmps34
        go_wp2_with (first
          | (go_at_call 32; with_reducible refine (HN.out _).mono ?_; rintro e w1 ⟨rfl, hb⟩; have B1 := Lib.hid ((Bl.refl w).call hb); clear hb)
          | (go_at_call 33; with_reducible refine (HM.out _).mono ?_; rintro e w3 ⟨rfl, hb⟩; have B3 := Lib.hid (B1.out.call hb); clear hb)
          | (go_at_call 33; with_reducible refine (HS.out _).mono ?_; rintro e w4 ⟨rfl, hb⟩; have B4 := Lib.hid (B3.out.call hb); clear hb))
        go_ret2
        refine ⟨?_, B4.out.below⟩
        try simp
      · have h3 : nxC l = 83 := (hh.resolve_left (fun h => h.elim h1 h2))
        obtain ⟨p1, p2⟩ := tk_not h2
        have p3 : ck2 l = l := by unfold ck2; rw [q2]; exact p2
        have t1 : ((nxC l).toNat : Int) = 83 := by rw [h3]; rfl
        rw [q2, p1, p3]
        rw [p3] at c0 c1 HS
        clear h1 hh h2 h3 HH HM q1 q2 p1 p2 p3 a0 a1 b0 b1
        generalize nxN l = n at *
        generalize nxC l = d at *
        generalize tkN 83 l = z at *
        generalize ByteArray.mk (nxR l).toArray = r at *
        generalize ByteArray.mk (ck3 l).toArray = s3 at *
        generalize ByteArray.mk l.toArray = s at *
        go_enter Tryd.func34, Tryd.ntmps34
        go_wp2_with (first
          | (go_at_call 32; with_reducible refine (HN.out _).mono ?_; rintro e w1 ⟨rfl, hb⟩; have B1 := Lib.hid ((Bl.refl w).call hb); clear hb)
          | (go_at_call 33; with_reducible refine (HS.out _).mono ?_; rintro e w4 ⟨rfl, hb⟩; have B4 := Lib.hid (B1.out.call hb); clear hb))
        go_ret2
        refine ⟨?_, B4.out.below⟩
        try simp
end Go.Proofs.YtmbbjpfhdijmbaaDoor.Spn
