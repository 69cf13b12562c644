/- Contract of the document's time. -/
import Derived.Test.YtmbbjpfhdijmbaaDoorSpnRNum
namespace Go.Proofs.YtmbbjpfhdijmbaaDoor.Spn
open Go.RowKit
set_option linter.unusedSimpArgs false

theorem rn_l (s : ByteArray) (a : Nat) (c : UInt8) (hs : s.size ≤ 100) (ha : a ≤ s.size) (hc0 : ¬ c = 0) (hcd : isDg c = false) (l : List UInt8) (hl : s.data.toList.drop a = l) (w : World) :
    Calls Tryd.prog 35 #[.string s, .int .i64 a, .int .u8 c.toNat] w fun r w' => r = .returned (.tuple #[.int .i64 (tkN c l), .int .i64 (rnK c l a)]) ∧ w = w' := by
  have := rnumber_any s a c hs ha hc0 hcd w
  rwa [hl] at this
/-- What is left behind the first parts of a time, and their seconds. -/
def rm (l : List UInt8) : Nat → List UInt8
  | 0 => l
  | 1 => ck1 l
  | 2 => ck2 l
  | _ => ck3 l
def sm (l : List UInt8) : Nat → Int
  | 0 => 0
  | 1 => tkN 72 l * 3600
  | 2 => tkN 72 l * 3600 + tkN 77 (ck1 l) * 60
  | _ => ckS l
theorem sm_1 (l : List UInt8) : sm l 1 = sm l 0 + tkN 72 (rm l 0) * 3600 := by
  rw [show sm l 1 = tkN 72 l * 3600 from rfl, show sm l 0 = 0 from rfl, show rm l 0 = l from rfl, Int.zero_add]
theorem sm_2 (l : List UInt8) : sm l 2 = sm l 1 + tkN 77 (rm l 1) * 60 := by
  rw [show sm l 2 = tkN 72 l * 3600 + tkN 77 (ck1 l) * 60 from rfl, show sm l 1 = tkN 72 l * 3600 from rfl, show rm l 1 = ck1 l from rfl]
theorem sm_3 (l : List UInt8) : sm l 3 = sm l 2 + tkN 83 (rm l 2) * 1 := by
  rw [show sm l 3 = ckS l from rfl, show sm l 2 = tkN 72 l * 3600 + tkN 77 (ck1 l) * 60 from rfl, show rm l 2 = ck2 l from rfl, Int.mul_one]
  rfl
theorem sm_in (l : List UInt8) (i : Nat) : 0 ≤ sm l i ∧ sm l i ≤ 3700000000 := by
  have := tkN_in 72 l; have := tkN_in 77 (ck1 l); have := ckS_in l
  match i with
  | 0 => simp [sm]
  | 1 => simp only [sm]; omega
  | 2 => simp only [sm]; omega
  | n + 3 => simp only [sm]; omega
theorem tm_not {l : List UInt8} (h : isT l = false) : tmA l = -1 := by unfold tmA; rw [if_neg (by simp [h])]
theorem tm_end {l : List UInt8} (h : l.tail = []) : tmA l = -1 := by
  unfold tmA
  rw [if_neg]
  rintro ⟨-, h2⟩
  rw [h] at h2
  revert h2
  decide
theorem tm_all {l : List UInt8} (h : isT l = true) (h2 : ck3 l.tail = []) (h3 : l.tail ≠ []) : tmA l = ckS l.tail := by
  unfold tmA
  rw [if_pos]
  refine ⟨h, ?_⟩
  rcases hh : hms l.tail with _ | _
  · exact absurd ((ck_none hh).1.symm.trans h2) h3
  · unfold ckB; rw [hh, h2]; rfl
theorem tm_left {l : List UInt8} (h2 : ck3 l.tail ≠ []) : tmA l = -1 := by
  unfold tmA
  rw [if_neg]
  rintro ⟨-, h⟩
  unfold ckB at h
  simp at h
  exact h2 h.2
/-- A part is taken at a place. -/
theorem at_take {s : ByteArray} {a : Nat} {l : List UInt8} {c : UInt8} (hl : s.data.toList.drop a = l) (hc0 : ¬ c = 0) (h : nxC l = c) : a + cnt l + 1 ≤ s.size ∧ s.data.toList.drop (a + cnt l + 1) = tkR c l ∧ tkN c l = nxN l ∧ rnK c l a = ((a + cnt l + 1 : Nat) : Int) := by
  have ho : okN l = true := nxC_ok (by rw [h]; exact hc0)
  obtain ⟨-, -, e⟩ := nx_ok ho
  have h3 := (okN_iff.1 ho).2.2
  have hn := drop_len s a
  rw [hl] at hn
  refine ⟨by omega, ?_, (tk_yes h).1, (rn_yes h a).2⟩
  rw [(tk_yes h).2, e, ← hl, List.drop_drop]
  rfl
theorem at_skip {a : Nat} {l : List UInt8} {c : UInt8} (h : ¬ nxC l = c) : tkR c l = l ∧ tkN c l = 0 ∧ rnK c l a = -1 := ⟨(tk_not h).2, (tk_not h).1, (rn_not h a).2⟩
theorem drop_nil {s : ByteArray} {a : Nat} (ha : a ≤ s.size) : s.data.toList.drop a = [] ↔ a = s.size := by
  rw [List.drop_eq_nil_iff, len_list]; omega
theorem drop_tail (s : ByteArray) (a : Nat) : (s.data.toList.drop a).tail = s.data.toList.drop (a + 1) := by rw [List.tail_drop]
theorem drop_head {s : ByteArray} {a : Nat} (h : a < s.size) : (s.data.toList.drop a).head? = some s[a] := by
  rw [List.head?_drop, List.getElem?_eq_getElem (by rw [len_list]; exact h), getD h]

/-- The tables of letters and units lie there. -/
structure Tm (w wr : World) : Prop where
  bl : Bl w wr
  l0 : wr.cell? ⟨w.heap.size, 0, none⟩ = some (.int .u8 72)
  l1 : wr.cell? ⟨w.heap.size, 1, none⟩ = some (.int .u8 77)
  l2 : wr.cell? ⟨w.heap.size, 2, none⟩ = some (.int .u8 83)
  u0 : wr.cell? ⟨w.heap.size + 1, 0, none⟩ = some (.int .i64 3600)
  u1 : wr.cell? ⟨w.heap.size + 1, 1, none⟩ = some (.int .i64 60)
  u2 : wr.cell? ⟨w.heap.size + 1, 2, none⟩ = some (.int .i64 1)
theorem tm_new (w : World) : Tm w ((w.alloc (.cells #[.int .u8 72, .int .u8 77, .int .u8 83] 60)).alloc (.cells #[.int .i64 3600, .int .i64 60, .int .i64 1] 61)) := by
  have hL := (Blk.new w 60 #[.int .u8 72, .int .u8 77, .int .u8 83]).call (new1 _ (.cells #[.int .i64 3600, .int .i64 60, .int .i64 1] 61))
  have hU := Blk.new (w.alloc (.cells #[.int .u8 72, .int .u8 77, .int .u8 83] 60)) 61 #[.int .i64 3600, .int .i64 60, .int .i64 1]
  rw [World.size_alloc] at hU
  exact ⟨((Bl.refl w).call (new1 _ _)).call (new1 _ _), hL.cell (i := 0) (by decide), hL.cell (i := 1) (by decide), hL.cell (i := 2) (by decide), hU.cell (i := 0) (by decide), hU.cell (i := 1) (by decide), hU.cell (i := 2) (by decide)⟩

set_option maxHeartbeats 800000 in
theorem rtime_any (s : ByteArray) (a : Nat) (hs : s.size ≤ 100) (ha : a ≤ s.size) (w : World) :
    Calls Tryd.prog 36 #[.string s, .int .i64 a] w fun r w' => r = .returned (.int .i64 (tmA (s.data.toList.drop a))) ∧ Below w.heap.size w w' := by
  by_cases h1 : a = s.size
  · have e : tmA (s.data.toList.drop a) = -1 := by rw [(drop_nil ha).2 h1]; decide
    have t1 : (s.size : Int) ≤ a := by omega
    rw [e]
    clear e h1
    go_enter Tryd.func36, Tryd.ntmps36
    go_wp2
    go_ret
    exact ⟨rfl, Below.refl _ _⟩
  · have hi : a < s.size := by omega
    have t1 : (a : Int) < s.size := by omega
    have t0 : decide (s.size ≤ a) = false := by simp; omega
    have hh := drop_head hi
    by_cases h2 : s[a] = 84
    · have t2 : ((s[a].toNat : Int) != 84) = false := by rw [h2]; rfl
      have hT : isT (s.data.toList.drop a) = true := by unfold isT; rw [hh, h2]; rfl
      have htl := drop_tail s a
      by_cases h3 : a + 1 = s.size
      · have e : tmA (s.data.toList.drop a) = -1 := tm_end (by rw [htl]; exact (drop_nil (by omega)).2 h3)
        have t3 : ((a : Int) + 1 == s.size) = true := by simp; omega
        rw [e]
        clear e h1 h2 h3 hh hT htl
        go_enter Tryd.func36, Tryd.ntmps36
        go_wp2
        go_ret
        exact ⟨rfl, Below.refl _ _⟩
      · have h4 : a + 1 ≤ s.size := by omega
        have t3 : ((a : Int) + 1 == s.size) = false := by simp; omega
        have hne : (s.data.toList.drop a).tail ≠ [] := by rw [htl]; exact fun h => h3 ((drop_nil h4).1 h)
        have HA := Lib.hid (fun h => tm_all hT h hne)
        have HB := Lib.hid (fun h => tm_left (l := s.data.toList.drop a) h)
        have HD := Lib.hid htl.symm
        generalize tmA (s.data.toList.drop a) = res at *
        generalize (s.data.toList.drop a).tail = l at *
        have HI := Lib.hid (fun i => sm_in l i)
        have HN := Lib.hid (fun i => tkN_in i l)
        clear h1 h2 h3 hh hT htl hne
        go_enter Tryd.func36, Tryd.ntmps36
        go_wp2_with fail
        have HW := Lib.hid (tm_new w)
        go_loopw [1, 5, 8] (fun p q i wr => ∃ (x j : Nat), j ≤ 3 ∧ x ≤ s.size ∧ i = .int .i64 j ∧ p = .int .i64 x ∧ q = .int .i64 (sm l j) ∧ Hid (s.data.toList.drop x = rm l j) ∧ Hid (Tm w wr)) (fun _ _ i _ => (3 - intOf i).toNat)
        case atStart =>
          refine ⟨a + 1, 0, ?_, ?_, ?_, ?_, ?_, ?_, ?_⟩
          · omega
          · exact h4
          · rfl
          · simp
          · rfl
          · exact HD
          · exact HW
        case round =>
          obtain ⟨x, j, hj, hx, rfl, rfl, rfl, hd, ht⟩ := hrel
          obtain ⟨m0, m1⟩ := HI.out j
          have hj4 : j = 0 ∨ j = 1 ∨ j = 2 ∨ j = 3 := by omega
          rcases hj4 with rfl | rfl | rfl | rfl
          · have cl := ht.out.l0
            have cu := ht.out.u0
            have HR := Lib.hid (fun W => rn_l s x 72 hs hx (by decide) (by decide) (rm l 0) hd.out W)
            change Hid (∀ W, Calls Tryd.prog 35 #[.string s, .int .i64 x, .int .u8 72] W _) at HR
            obtain ⟨n0, n1⟩ := tkN_in 72 (rm l 0)
            obtain ⟨q0, q1⟩ := HI.out 1
            by_cases hc : nxC (rm l 0) = 72
            · obtain ⟨p1, p2, p3, p4⟩ := at_take hd.out (by decide) hc
              have HP := Lib.hid p2
              have HS := Lib.hid (sm_1 l)
              rw [p4] at HR
              clear p2 p3 p4 hc hd HA HB
              generalize x + cnt (rm l 0) + 1 = y at *
              generalize tkN 72 (rm l 0) = n at *
              generalize hz : sm l 0 = z at *
              generalize hz2 : sm l 1 = z2 at *
              have e2 : z + n * 3600 = z2 := HS.out.symm
              rw [← e2] at hz2 q0 q1
              have HZ := Lib.hid hz2
              clear HS e2 hz hz2
              go_wp2_with (go_at_call 35; with_reducible refine (HR.out _).mono ?_; rintro e w0 ⟨rfl, rfl⟩)
              go_roundw
              case rel => exact ⟨y, 1, by omega, p1, by go_num, rfl, by rw [HZ.out] <;> simp, HP, ht⟩
              case measure => simp [intOf]
            · obtain ⟨p2, p3, p4⟩ := at_skip (a := x) hc
              have HP := Lib.hid (show s.data.toList.drop x = rm l 1 by rw [hd.out]; exact p2.symm)
              have HS := Lib.hid (show sm l 0 = sm l 1 by rw [sm_1, p3, Int.zero_mul, Int.add_zero])
              rw [p4] at HR
              clear p2 p3 p4 hc hd HA HB
              generalize tkN 72 (rm l 0) = n at *
              generalize sm l 0 = z at *
              go_wp2_with (go_at_call 35; with_reducible refine (HR.out _).mono ?_; rintro e w0 ⟨rfl, rfl⟩)
              go_roundw
              case rel => exact ⟨x, 1, by omega, hx, by go_num, rfl, by rw [HS.out], HP, ht⟩
              case measure => simp [intOf]
          · have cl := ht.out.l1
            have cu := ht.out.u1
            have HR := Lib.hid (fun W => rn_l s x 77 hs hx (by decide) (by decide) (rm l 1) hd.out W)
            change Hid (∀ W, Calls Tryd.prog 35 #[.string s, .int .i64 x, .int .u8 77] W _) at HR
            obtain ⟨n0, n1⟩ := tkN_in 77 (rm l 1)
            obtain ⟨q0, q1⟩ := HI.out 2
            by_cases hc : nxC (rm l 1) = 77
            · obtain ⟨p1, p2, p3, p4⟩ := at_take hd.out (by decide) hc
              have HP := Lib.hid p2
              have HS := Lib.hid (sm_2 l)
              rw [p4] at HR
              clear p2 p3 p4 hc hd HA HB
              generalize x + cnt (rm l 1) + 1 = y at *
              generalize tkN 77 (rm l 1) = n at *
              generalize hz : sm l 1 = z at *
              generalize hz2 : sm l 2 = z2 at *
              have e2 : z + n * 60 = z2 := HS.out.symm
              rw [← e2] at hz2 q0 q1
              have HZ := Lib.hid hz2
              clear HS e2 hz hz2
              go_wp2_with (go_at_call 35; with_reducible refine (HR.out _).mono ?_; rintro e w0 ⟨rfl, rfl⟩)
              go_roundw
              case rel => exact ⟨y, 2, by omega, p1, by go_num, rfl, by rw [HZ.out] <;> simp, HP, ht⟩
              case measure => simp [intOf]
            · obtain ⟨p2, p3, p4⟩ := at_skip (a := x) hc
              have HP := Lib.hid (show s.data.toList.drop x = rm l 2 by rw [hd.out]; exact p2.symm)
              have HS := Lib.hid (show sm l 1 = sm l 2 by rw [sm_2, p3, Int.zero_mul, Int.add_zero])
              rw [p4] at HR
              clear p2 p3 p4 hc hd HA HB
              generalize tkN 77 (rm l 1) = n at *
              generalize sm l 1 = z at *
              go_wp2_with (go_at_call 35; with_reducible refine (HR.out _).mono ?_; rintro e w0 ⟨rfl, rfl⟩)
              go_roundw
              case rel => exact ⟨x, 2, by omega, hx, by go_num, rfl, by rw [HS.out], HP, ht⟩
              case measure => simp [intOf]
          · have cl := ht.out.l2
            have cu := ht.out.u2
            have HR := Lib.hid (fun W => rn_l s x 83 hs hx (by decide) (by decide) (rm l 2) hd.out W)
            change Hid (∀ W, Calls Tryd.prog 35 #[.string s, .int .i64 x, .int .u8 83] W _) at HR
            obtain ⟨n0, n1⟩ := tkN_in 83 (rm l 2)
            obtain ⟨q0, q1⟩ := HI.out 3
            by_cases hc : nxC (rm l 2) = 83
            · obtain ⟨p1, p2, p3, p4⟩ := at_take hd.out (by decide) hc
              have HP := Lib.hid p2
              have HS := Lib.hid (sm_3 l)
              rw [p4] at HR
              clear p2 p3 p4 hc hd HA HB
              generalize x + cnt (rm l 2) + 1 = y at *
              generalize tkN 83 (rm l 2) = n at *
              generalize hz : sm l 2 = z at *
              generalize hz2 : sm l 3 = z2 at *
              have e2 : z + n * 1 = z2 := HS.out.symm
              rw [← e2] at hz2 q0 q1
              have HZ := Lib.hid hz2
              clear HS e2 hz hz2
              go_wp2_with (go_at_call 35; with_reducible refine (HR.out _).mono ?_; rintro e w0 ⟨rfl, rfl⟩)
              go_roundw
              case rel => exact ⟨y, 3, by omega, p1, by go_num, rfl, by rw [HZ.out] <;> simp, HP, ht⟩
              case measure => simp [intOf]
            · obtain ⟨p2, p3, p4⟩ := at_skip (a := x) hc
              have HP := Lib.hid (show s.data.toList.drop x = rm l 3 by rw [hd.out]; exact p2.symm)
              have HS := Lib.hid (show sm l 2 = sm l 3 by rw [sm_3, p3, Int.zero_mul, Int.add_zero])
              rw [p4] at HR
              clear p2 p3 p4 hc hd HA HB
              generalize tkN 83 (rm l 2) = n at *
              generalize sm l 2 = z at *
              go_wp2_with (go_at_call 35; with_reducible refine (HR.out _).mono ?_; rintro e w0 ⟨rfl, rfl⟩)
              go_roundw
              case rel => exact ⟨x, 3, by omega, hx, by go_num, rfl, by rw [HS.out], HP, ht⟩
              case measure => simp [intOf]
          · by_cases hz : x = s.size
            · have e : res = ckS l := HA.out (by have := hd.out; rw [(drop_nil hx).2 hz] at this; exact this.symm)
              have e2 : sm l 3 = ckS l := rfl
              have hz2 : ((x : Int) != s.size) = false := by simp [hz]
              have HE := Lib.hid (e.trans e2.symm)
              clear HA HB hd hz e e2
              generalize sm l 3 = z at *
              go_wp2_with fail
              go_ret
              exact ⟨by rw [HE.out]; rfl, ht.out.bl.below⟩
            · have e : res = -1 := HB.out (by have := hd.out; intro h; rw [show rm l 3 = ck3 l from rfl, h] at this; exact hz ((drop_nil hx).1 this))
              have hz2 : ((x : Int) != s.size) = true := by simp; omega
              clear HA HB hd hz
              go_wp2_with fail
              go_ret
              exact ⟨by rw [e]; rfl, ht.out.bl.below⟩
    · have t2 : ((s[a].toNat : Int) != 84) = true := by simp; intro e; exact h2 (UInt8.toNat_inj.1 (by show s[a].toNat = 84; omega))
      have e : tmA (s.data.toList.drop a) = -1 := tm_not (by unfold isT; rw [hh]; simpa using h2)
      rw [e]
      clear e h1 h2 hh
      go_enter Tryd.func36, Tryd.ntmps36
      go_wp2
      go_ret
      exact ⟨rfl, Below.refl _ _⟩
end Go.Proofs.YtmbbjpfhdijmbaaDoor.Spn
