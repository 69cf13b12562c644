/- Contract of the document's number: the number at a place, with this letter behind it. -/
import Derived.Test.YtmbbjpfhdijmbaaDoorSpnTxt
namespace Go.Proofs.YtmbbjpfhdijmbaaDoor.Spn
open Go.RowKit

/-- The place behind a part with this letter; -1: there is none. -/
def rnK (c : UInt8) (l : List UInt8) (a : Nat) : Int := if nxC l = c then ((a + cnt l + 1 : Nat) : Int) else -1
theorem rn_yes {c : UInt8} {l : List UInt8} (h : nxC l = c) (a : Nat) : tkN c l = nxN l ∧ rnK c l a = ((a + cnt l + 1 : Nat) : Int) := ⟨if_pos h, if_pos h⟩
theorem rn_not {c : UInt8} {l : List UInt8} (h : ¬ nxC l = c) (a : Nat) : tkN c l = 0 ∧ rnK c l a = -1 := ⟨if_neg h, if_neg h⟩

section
variable {s : ByteArray} {a k : Nat}
theorem drop_len (s : ByteArray) (a : Nat) : (s.data.toList.drop a).length = s.size - a := by rw [List.length_drop, len_list]
theorem drop_get (ha : a ≤ k) (h : k < s.size) : (s.data.toList.drop a)[k - a]'(by rw [drop_len]; omega) = s[k] := by
  rw [List.getElem_drop]
  simp only [show a + (k - a) = k by omega]
  exact getD h
theorem rn_step (ha : a ≤ k) (h : k < s.size) (hk : k - a ≤ cnt (s.data.toList.drop a)) (hd : 48 ≤ s[k].toNat ∧ s[k].toNat ≤ 57) :
    k + 1 - a ≤ cnt (s.data.toList.drop a) ∧ dv ((s.data.toList.drop a).take (k + 1 - a)) = dv ((s.data.toList.drop a).take (k - a)) * 10 + ((s[k].toNat : Int) - 48) := by
  have hl : k - a < (s.data.toList.drop a).length := by rw [drop_len]; omega
  have e : k + 1 - a = (k - a) + 1 := by omega
  rw [e]
  refine ⟨cnt_step hl hk (by rw [drop_get ha h, isDg_iff]; exact hd), ?_⟩
  rw [List.take_succ_eq_append_getElem hl, dv_snoc, drop_get ha h]
theorem rn_stop (ha : a ≤ k) (h : k < s.size) (hk : k - a ≤ cnt (s.data.toList.drop a)) (hd : ¬ (48 ≤ s[k].toNat ∧ s[k].toNat ≤ 57)) :
    cnt (s.data.toList.drop a) = k - a :=
  cnt_end (by rw [drop_len]; omega) hk (by rw [drop_get ha h, isDg_no]; exact hd)
theorem rn_bound (hk : k - a ≤ cnt (s.data.toList.drop a)) (h6 : k - a ≤ 6) : 0 ≤ dv ((s.data.toList.drop a).take (k - a)) ∧ dv ((s.data.toList.drop a).take (k - a)) ≤ 999999 :=
  dv_six (cnt_all _ hk) (by rw [List.length_take]; omega)
theorem okN_no {l : List UInt8} (h : ¬ (1 ≤ cnt l ∧ cnt l ≤ 6 ∧ cnt l < l.length)) : okN l = false := by
  rcases e : okN l with _ | _
  · rfl
  · exact absurd (okN_iff.1 e) h
/-- More than six digits: no part. -/
theorem rn_long {l : List UInt8} (h : 7 ≤ cnt l) : nxC l = 0 := (nx_not (okN_no (fun e => by omega))).2.1
theorem rn_none {l : List UInt8} (h : cnt l = 0 ∨ cnt l = l.length) : nxC l = 0 := (nx_not (okN_no (fun e => by omega))).2.1
theorem rn_some (ha : a < k) (h : k < s.size) (h6 : k - a ≤ 6) (hc : cnt (s.data.toList.drop a) = k - a) : nxC (s.data.toList.drop a) = s[k] ∧ nxN (s.data.toList.drop a) = dv ((s.data.toList.drop a).take (k - a)) := by
  have ho : okN (s.data.toList.drop a) = true := okN_iff.2 ⟨by omega, by omega, by rw [drop_len]; omega⟩
  obtain ⟨e1, e2, -⟩ := nx_ok ho
  refine ⟨?_, by rw [e1, hc]⟩
  rw [e2]
  simp only [hc]
  exact drop_get (by omega) h
end

theorem rnumber_any (s : ByteArray) (a : Nat) (c : UInt8) (hs : s.size ≤ 100) (ha : a ≤ s.size) (hc0 : ¬ c = 0) (hcd : isDg c = false) (w : World) :
    Calls Tryd.prog 35 #[.string s, .int .i64 a, .int .u8 c.toNat] w fun r w' => r = .returned (.tuple #[.int .i64 (tkN c (s.data.toList.drop a)), .int .i64 (rnK c (s.data.toList.drop a) a)]) ∧ w = w' := by
  have hc1 : ∀ b : UInt8, (48 ≤ b.toNat ∧ b.toNat ≤ 57) → ¬ b = c := by rintro b hb rfl; rw [isDg_no] at hcd; exact hcd hb
  have HC := Lib.hid hc1
  have HN : Hid (∀ h : nxC (s.data.toList.drop a) = 0, tkN c (s.data.toList.drop a) = 0 ∧ rnK c (s.data.toList.drop a) a = -1) := Lib.hid (fun h => rn_not (by rw [h]; exact fun e => hc0 e.symm) a)
  clear hc1 hc0 hcd
  have HE := Lib.hid (drop_len s a)
  generalize hL : s.data.toList.drop a = l at *
  have HL := Lib.hid hL
  clear hL
  go_enter Tryd.func35, Tryd.ntmps35
  go_wp2
  go_loop [8, 9] (fun n i => ∃ k : Nat, a ≤ k ∧ (k : Int) ≤ s.size ∧ (k : Int) - a ≤ 6 ∧ i = .int .i64 k ∧ n = .int .i64 (dv (l.take (k - a))) ∧ Hid (k - a ≤ cnt l)) (fun _ i => (s.size - intOf i).toNat)
  case atStart => exact ⟨a, Nat.le_refl _, by omega, by omega, rfl, by rw [Nat.sub_self]; rfl, Lib.hid (by omega)⟩
  case round =>
    obtain ⟨k, hak, hk, h6, rfl, rfl, hcn⟩ := hrel
    by_cases hlt : (k : Int) < s.size
    · have hi : k < s.size := by omega
      have HX : Hid (_ → k + 1 - a ≤ cnt l ∧ dv (l.take (k + 1 - a)) = dv (l.take (k - a)) * 10 + ((s[k].toNat : Int) - 48)) := Lib.hid (fun hb => by have := rn_step (s := s) (a := a) hak hi (by rw [HL.out]; exact hcn.out) hb; rwa [HL.out] at this)
      have HY : Hid (_ → cnt l = k - a) := Lib.hid (fun hb => by have := rn_stop (s := s) (a := a) hak hi (by rw [HL.out]; exact hcn.out) hb; rwa [HL.out] at this)
      have HB : 0 ≤ dv (l.take (k - a)) ∧ dv (l.take (k - a)) ≤ 999999 := by have := rn_bound (s := s) (a := a) (k := k) (by rw [HL.out]; exact hcn.out) (by omega); rwa [HL.out] at this
      obtain ⟨b0, b1⟩ := HB
      by_cases c1 : 48 ≤ s[k].toNat
      · by_cases c2 : s[k].toNat ≤ 57
        · by_cases c3 : (k : Int) - a < 6
          · go_wp2
            go_round
            case rel => exact ⟨k + 1, by omega, by omega, by omega, by go_num, by rw [(HX.out ⟨c1, c2⟩).2], Lib.hid (HX.out ⟨c1, c2⟩).1⟩
            case measure => simp [intOf]; omega
          · have HZ := Lib.hid (HN.out (rn_long (by have := (HX.out ⟨c1, c2⟩).1; omega)))
            have hne := u8_ne (HC.out s[k] ⟨c1, c2⟩)
            have n1 : ((k : Int) == a) = false := by simp; omega
            clear HX HY
            go_wp2
            go_ret2
            exact ⟨by rw [HZ.out.1, HZ.out.2]; rfl, rfl⟩
        · have hcnt := HY.out (by omega)
          clear HX HY
          by_cases n1 : k = a
          · have HZ := Lib.hid (HN.out (rn_none (by left; omega)))
            have n2 : ((k : Int) == a) = true := by simp [n1]
            clear hcnt n1
            go_wp2
            go_ret2
            exact ⟨by rw [HZ.out.1, HZ.out.2]; rfl, rfl⟩
          · have n2 : ((k : Int) == a) = false := by simp; omega
            have n3 : ((k : Int) == s.size) = false := by simp; omega
            have hq := rn_some (s := s) (a := a) (k := k) (by omega) hi (by omega) (by rw [HL.out]; exact hcnt)
            rw [HL.out] at hq
            by_cases hc : s[k] = c
            · have HZ := Lib.hid (rn_yes (c := c) (l := l) (by rw [hq.1, hc]) a)
              have HQ := Lib.hid hq
              have HK := Lib.hid (show ((a + cnt l + 1 : Nat) : Int) = k + 1 by omega)
              have hne := u8_eq hc
              clear hcnt n1 hc hq
              go_wp2
              go_ret2
              exact ⟨by rw [HZ.out.1, HZ.out.2, HQ.out.2, HK.out]; first | rfl | (congr 4; first | rfl | go_num), rfl⟩
            · have HZ := Lib.hid (rn_not (c := c) (l := l) (by rw [hq.1]; exact hc) a)
              have hne := u8_ne hc
              clear hcnt n1 hc hq
              go_wp2
              go_ret2
              exact ⟨by rw [HZ.out.1, HZ.out.2]; rfl, rfl⟩
      · have hcnt := HY.out (by omega)
        clear HX HY
        by_cases n1 : k = a
        · have HZ := Lib.hid (HN.out (rn_none (by left; omega)))
          have n2 : ((k : Int) == a) = true := by simp [n1]
          clear hcnt n1
          go_wp2
          go_ret2
          exact ⟨by rw [HZ.out.1, HZ.out.2]; rfl, rfl⟩
        · have n2 : ((k : Int) == a) = false := by simp; omega
          have n3 : ((k : Int) == s.size) = false := by simp; omega
          have hq := rn_some (s := s) (a := a) (k := k) (by omega) hi (by omega) (by rw [HL.out]; exact hcnt)
          rw [HL.out] at hq
          by_cases hc : s[k] = c
          · have HZ := Lib.hid (rn_yes (c := c) (l := l) (by rw [hq.1, hc]) a)
            have HQ := Lib.hid hq
            have HK := Lib.hid (show ((a + cnt l + 1 : Nat) : Int) = k + 1 by omega)
            have hne := u8_eq hc
            clear hcnt n1 hc hq
            go_wp2
            go_ret2
            exact ⟨by rw [HZ.out.1, HZ.out.2, HQ.out.2, HK.out]; first | rfl | (congr 4; first | rfl | go_num), rfl⟩
          · have HZ := Lib.hid (rn_not (c := c) (l := l) (by rw [hq.1]; exact hc) a)
            have hne := u8_ne hc
            clear hcnt n1 hc hq
            go_wp2
            go_ret2
            exact ⟨by rw [HZ.out.1, HZ.out.2]; rfl, rfl⟩
    · obtain rfl : k = s.size := by omega
      have HZ := Lib.hid (HN.out (rn_none (by right; have := hcn.out; have := cnt_le l; have := HE.out; omega)))
      by_cases n1 : s.size = a
      · have n2 : ((s.size : Int) == a) = true := by simp [n1]
        clear n1
        go_wp2
        go_ret2
        exact ⟨by rw [HZ.out.1, HZ.out.2]; rfl, rfl⟩
      · have n2 : ((s.size : Int) == a) = false := by simp; omega
        clear n1
        go_wp2
        go_ret2
        exact ⟨by rw [HZ.out.1, HZ.out.2]; rfl, rfl⟩
end Go.Proofs.YtmbbjpfhdijmbaaDoor.Spn
