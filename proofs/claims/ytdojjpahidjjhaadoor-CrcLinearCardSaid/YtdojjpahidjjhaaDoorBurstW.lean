/- The walk of CrcBurst: it returns true; it writes nothing that was there. -/
import Derived.Test.YtdojjpahidjjhaaDoorBuf
namespace Go.Proofs.YtdojjpahidjjhaaDoor
open Go.RowKit Go.Deep

/-- What the loop keeps: k bits have been looked at, from the place p on. -/
def Kept (w : World) (s : ByteArray) (t : BitVec 32) (p k : Nat) (tb : Bool) (l : List UInt8) (wr : World) : Prop :=
  l.length = s.data.toList.length ∧ Buf wr w.heap.size l ∧ Below w.heap.size w wr ∧ (tb = true ↔ low t k ≠ 0#32) ∧
    overL (~~~ 0#32) l = overL (~~~ 0#32) s.data.toList ^^^ steps (8 * s.data.toList.length - p) (low t k)

theorem bit_yes {t : BitVec 32} {k : Nat} (h : t.toNat / 2 ^ k % 2 = 1) : (bits .and .u32 (uv t / 2 ^ k) 1 == 1) = true := by
  have e : uv t / 2 ^ k = ((t.toNat / 2 ^ k : Nat) : Int) := by unfold uv; rw [Int.natCast_ediv, Int.natCast_pow]; rfl
  have hlt : t.toNat / 2 ^ k < 4294967296 := Nat.lt_of_le_of_lt (Nat.div_le_self _ _) t.isLt
  rw [e, show (1 : Int) = ((1 : Nat) : Int) from rfl, u32_and_nat _ _ hlt (by decide), Nat.and_one_is_mod, h]
  rfl
theorem bit_no {t : BitVec 32} {k : Nat} (h : ¬ t.toNat / 2 ^ k % 2 = 1) : (bits .and .u32 (uv t / 2 ^ k) 1 == 1) = false := by
  have e : uv t / 2 ^ k = ((t.toNat / 2 ^ k : Nat) : Int) := by unfold uv; rw [Int.natCast_ediv, Int.natCast_pow]; rfl
  have hlt : t.toNat / 2 ^ k < 4294967296 := Nat.lt_of_le_of_lt (Nat.div_le_self _ _) t.isLt
  rw [e, show (1 : Int) = ((1 : Nat) : Int) from rfl, u32_and_nat _ _ hlt (by decide), Nat.and_one_is_mod, show t.toNat / 2 ^ k % 2 = 0 by omega]
  rfl

theorem Buf.cell_at {w : World} {g : Nat} {l : List UInt8} (h : Buf w g l) {i : Nat} (hi : i < l.length) : ∃ c, l[i]? = some c ∧ w.cell? ⟨g, i, none⟩ = some (.int .u8 c.toNat) :=
  ⟨l[i], List.getElem?_eq_getElem hi, h.cell hi⟩

theorem turn_cell (c : UInt8) (r : Nat) (hr : r < 8) : bits .xor .u8 (c.toNat : Int) (2 ^ r % 256) = ((c ^^^ UInt8.ofNat (2 ^ r)).toNat : Int) := by
  have e : (2 : Int) ^ r % 256 = (((UInt8.ofNat (2 ^ r)).toNat : Nat) : Int) := by
    have : ∀ r : Fin 8, (2 : Int) ^ r.val % 256 = (((UInt8.ofNat (2 ^ r.val)).toNat : Nat) : Int) := by decide
    exact this ⟨r, hr⟩
  rw [e, u8_xor_nat _ _ c.toNat_lt (UInt8.toNat_lt _), UInt8.toNat_xor]

theorem turnAt_set {l : List UInt8} {q r : Nat} {c : UInt8} (h : l[q]? = some c) : turnAt l q r = l.set q (c ^^^ UInt8.ofNat (2 ^ r)) := by
  unfold turnAt
  apply List.ext_getElem?
  intro i
  rw [List.getElem?_modify, List.getElem?_set]
  by_cases hi : q = i
  · subst hi
    have hlt : q < l.length := (List.getElem?_eq_some_iff.1 h).1
    rw [h]
    simp [hlt]
  · simp [hi]

theorem size_mk (l : List UInt8) : (ByteArray.mk l.toArray).size = l.length := by simp [ByteArray.size]

theorem uv_inj {a b : BitVec 32} : uv a = uv b ↔ a = b := by
  unfold uv
  constructor
  · intro h; exact BitVec.eq_of_toNat_eq (by omega)
  · intro h; rw [h]

theorem Kept.fin {w : World} {s : ByteArray} {t : BitVec 32} {p k : Nat} {tb : Bool} {l : List UInt8} {wr : World} (h : Kept w s t p k tb l wr) :
    l.length = s.size ∧ Buf wr w.heap.size l ∧ Below w.heap.size w wr ∧ (uv (goL 0#32 l) != uv (goL 0#32 s.data.toList)) = tb := by
  obtain ⟨h1, h2, h3, h4, h5⟩ := h
  refine ⟨by simpa using h1, h2, h3, ?_⟩
  have h6 := burst_end l s.data.toList t _ k h5
  rw [Bool.eq_iff_iff, bne_iff_ne, ne_eq, uv_inj, h6, h4]

theorem sum_mk (l : List UInt8) (w : World) (hs : (ByteArray.mk l.toArray).size ≤ maxLen) (hT : Tab w) :
    Calls Tryd.prog 9 #[.string ⟨l.toArray⟩] w fun r w' => r = .returned (.int .u32 (uv (goL 0#32 l))) ∧ w = w' := sum_any ⟨l.toArray⟩ w hs hT

set_option maxHeartbeats 1000000 in
theorem walk_burst (s : ByteArray) (a : Nat) (t : BitVec 32) (w : World) (hs : s.size ≤ 300) (hs0 : 0 < s.size) (ha : a < 65536) (hT : Tab w) (hz : 0 < w.heap.size) :
    Calls Tryd.prog 6 #[.string s, .int .u16 a, .int .u32 (uv t)] w fun r w' => r = .returned (.bool true) ∧ Below w.heap.size w w' := by
  have HT := Lib.hid hT
  clear hT
  obtain ⟨p, hp, hp2⟩ : ∃ p : Nat, (a : Int) % (8 * (s.size : Int)) = (p : Int) ∧ p < 8 * s.size :=
    ⟨a % (8 * s.size), by rw [Int.natCast_emod, Int.natCast_mul]; rfl, Nat.mod_lt _ (by omega)⟩
  obtain ⟨cap, w1, hrun, hbuf, hbel⟩ := conv_to s w
  have K0 : Hid (Kept w s t p 0 false s.data.toList w1) := Lib.hid ⟨rfl, hbuf, hbel, by simp [low_zero], by rw [low_zero, steps_zero, BitVec.xor_zero]⟩
  have HB := Lib.hid hbel
  clear hbuf hbel
  have hd : ((s.size : Int) == 0) = false := beq_eq_false_iff_ne.2 (by omega)
  go_enter Tryd.func6, Tryd.ntmps6
  go_wp2_with fail
  rw [hp]
  clear hrun hp
  go_loopw [9, 10] (fun x i wr => ∃ (k : Nat) (tb : Bool) (l : List UInt8), k ≤ 32 ∧ i = .int .i64 k ∧ x = .bool tb ∧ Hid (Kept w s t p k tb l wr)) (fun _ i _ => 32 - (intOf i).toNat)
  case atStart => exact ⟨0, false, _, by omega, rfl, rfl, K0⟩
  case round =>
    obtain ⟨k, tb, l, hk, rfl, rfl, HK⟩ := hrel
    by_cases hlt : k < 32
    · by_cases hin : p + k < 8 * s.size
      · obtain ⟨q, r, hq, hr, hqr, hr8⟩ : ∃ q r : Nat, ((p : Int) + k) / 8 = q ∧ ((p : Int) + k) % 8 = r ∧ p + k = 8 * q + r ∧ r < 8 := ⟨(p + k) / 8, (p + k) % 8, by omega, by omega, by omega, by omega⟩
        by_cases hbit : t.toNat / 2 ^ k % 2 = 1
        · have hb := bit_yes hbit
          have hql : q < s.size := by omega
          obtain ⟨hl, hbuf, hbel, htb, hov⟩ := HK.out
          obtain ⟨c, hlc, hc⟩ := hbuf.cell_at (i := q) (by rw [hl]; simpa using hql)
          have HC := Lib.hid hlc
          have hcb := c.toNat_lt
          have hf := hbuf.live (i := q) (by rw [hl]; simpa using hql)
          have hl' := Lib.hid hl
          have hbuf' := Lib.hid hbuf
          have hbel' := Lib.hid hbel
          have htb' := Lib.hid htb
          have hov' := Lib.hid hov
          have hbit' := Lib.hid hbit
          clear hl hbuf hbel htb hov hbit HK hlc
          go_wp2
          go_roundw
          case rel =>
            refine ⟨k + 1, true, turnAt l q r, by omega, by go_num, rfl, Lib.hid ?_⟩
            have hlen := hl'.out
            have hs' : s.data.toList.length = s.size := by simp
            have hq' : (p + k) / 8 = q := by omega
            have hr' : (p + k) % 8 = r := by omega
            refine ⟨by rw [turnAt_length]; exact hlen, ?_, hbel'.out.setCell (Nat.le_refl _) _, ?_, ?_⟩
            · rw [turn_cell c r hr8, turnAt_set HC.out]
              exact hbuf'.out.set (by omega) _
            · exact ⟨fun _ => low_ne t k hlt hbit'.out, fun _ => rfl⟩
            · have := burst_step l s.data.toList t p k (~~~ 0#32) hlen hlt (by omega) hov'.out hbit'.out
              rwa [hq', hr'] at this
          case measure => simp [intOf]; omega
        · have hb := bit_no hbit
          have hbit' := Lib.hid hbit
          clear hbit
          go_wp2
          go_roundw
          case rel =>
            refine ⟨k + 1, tb, l, by omega, by go_num, rfl, Lib.hid ?_⟩
            obtain ⟨h1, h2, h3, h4, h5⟩ := HK.out
            have e := low_succ_no t k (by have := hbit'.out; omega)
            exact ⟨h1, h2, h3, by rw [e]; exact h4, by rw [e]; exact h5⟩
          case measure => simp [intOf]; omega
      · have hn : decide ((p : Int) + k < 8 * s.size) = false := by simp; omega
        obtain ⟨hl, hbuf, hbel, hne⟩ := Kept.fin HK.out
        have hcv := conv_back (cap := cap) hbuf
        rw [hl] at hcv
        have HS : Hid (s.size ≤ maxLen) := Lib.hid (by unfold maxLen; omega)
        have HL : Hid ((ByteArray.mk l.toArray).size ≤ maxLen) := Lib.hid (by rw [size_mk, hl]; exact HS.out)
        have HTr := Lib.hid (HT.out.below hbel hz)
        have HBel := Lib.hid hbel
        clear hl hbuf hbel HK K0 HB
        cases tb
        all_goals
          go_wp2_with (first
            | (go_at_call 9; (with_reducible refine (sum_mk _ _ HL.out HTr.out).mono ?_); rintro e w' ⟨rfl, rfl⟩)
            | (go_at_call 9; (with_reducible refine (sum_any _ _ HS.out HTr.out).mono ?_); rintro e w' ⟨rfl, rfl⟩)
            | (go_at_call 8; (with_reducible refine (awake_any _ HTr.out).mono ?_); rintro e w' ⟨rfl, rfl⟩))
          go_ret
          exact ⟨rfl, HBel.out⟩
    · obtain ⟨hl, hbuf, hbel, hne⟩ := Kept.fin HK.out
      have hcv := conv_back (cap := cap) hbuf
      rw [hl] at hcv
      have HS : Hid (s.size ≤ maxLen) := Lib.hid (by unfold maxLen; omega)
      have HL : Hid ((ByteArray.mk l.toArray).size ≤ maxLen) := Lib.hid (by rw [size_mk, hl]; exact HS.out)
      have HTr := Lib.hid (HT.out.below hbel hz)
      have HBel := Lib.hid hbel
      clear hl hbuf hbel HK K0 HB
      cases tb
      all_goals
        go_wp2_with (first
          | (go_at_call 9; (with_reducible refine (sum_mk _ _ HL.out HTr.out).mono ?_); rintro e w' ⟨rfl, rfl⟩)
          | (go_at_call 9; (with_reducible refine (sum_any _ _ HS.out HTr.out).mono ?_); rintro e w' ⟨rfl, rfl⟩)
          | (go_at_call 8; (with_reducible refine (awake_any _ HTr.out).mono ?_); rintro e w' ⟨rfl, rfl⟩))
        go_ret
        exact ⟨rfl, HBel.out⟩

theorem walk_burst_out (s : ByteArray) (a : Int) (t : BitVec 32) (w : World) (hs : s.size ≤ maxLen) (h : s.size = 0 ∨ 300 < s.size) (hT : Tab w) :
    Calls Tryd.prog 6 #[.string s, .int .u16 a, .int .u32 (uv t)] w fun r w' => r = .returned (.bool true) ∧ w = w' := by
  have HT := Lib.hid hT
  clear hT
  unfold maxLen at hs
  by_cases h0 : s.size = 0
  · have hd : ((s.size : Int) == 0) = true := beq_iff_eq.2 (by omega)
    clear h h0
    go_enter Tryd.func6, Tryd.ntmps6
    go_wp2_with (go_at_call 8; (with_reducible refine (awake_any _ HT.out).mono ?_); rintro e w' ⟨rfl, rfl⟩)
    go_ret
    exact ⟨rfl, rfl⟩
  · have h3 : 300 < s.size := by omega
    have hd : ((s.size : Int) == 0) = false := beq_eq_false_iff_ne.2 (by omega)
    clear h h0
    go_enter Tryd.func6, Tryd.ntmps6
    go_wp2_with (go_at_call 8; (with_reducible refine (awake_any _ HT.out).mono ?_); rintro e w' ⟨rfl, rfl⟩)
    go_ret
    exact ⟨rfl, rfl⟩

theorem walk_burst_any (s : ByteArray) (a : Int) (t : BitVec 32) (w : World) (hs : s.size ≤ maxLen) (ha : 0 ≤ a) (ha2 : a < 65536) (hT : Tab w) (hz : 0 < w.heap.size) :
    Calls Tryd.prog 6 #[.string s, .int .u16 a, .int .u32 (uv t)] w fun r w' => r = .returned (.bool true) ∧ Below w.heap.size w w' := by
  by_cases h : s.size = 0 ∨ 300 < s.size
  · exact (walk_burst_out s a t w hs h hT).mono fun e w' ⟨he, hw⟩ => ⟨he, hw ▸ Below.refl _ _⟩
  · obtain ⟨n, rfl⟩ := Int.eq_ofNat_of_zero_le ha
    exact walk_burst s n t w (by omega) (by omega) (by omega) hT hz

end Go.Proofs.YtdojjpahidjjhaaDoor
