/- The walk of OctetBack. -/
import Derived.Test.YtannhdhibajbkaaBackR
import Derived.Test.YtannhdhibajbkaaRefPut
namespace Go.Proofs.Ytannhdhibajbkaa
open Go.RowKit Go.Deep Go.Lib

theorem OwnB.slice {w : World} {B : Nat} {v : Value} {l : List UInt8} (h : OwnB w B v l) : ∃ a cap, v = .slice a l.length cap ∧ Reads w a l.length l ∧ l.length ≤ cap := by
  obtain ⟨a, cap, rfl, hr⟩ := h.reads
  refine ⟨a, cap, rfl, hr, ?_⟩
  rcases h.2 with ⟨e, h0⟩ | ⟨g, cap', cur, e, hB, hg, h1, -⟩
  · injection e with e1 e2 e3; omega
  · injection e with e1 e2 e3; omega
theorem OwnB.mono {w : World} {B B' : Nat} {v : Value} {l : List UInt8} (h : OwnB w B v l) (hB : B' ≤ B) : OwnB w B' v l := by
  refine ⟨h.1, ?_⟩
  rcases h.2 with h | ⟨g, cap, cur, e, hb, r⟩
  · exact .inl h
  · exact .inr ⟨g, cap, cur, e, by omega, r⟩
theorem Reads.take {w : World} {a : Option Addr} {n m : Nat} {l : List UInt8} (h : Reads w a n l) (hm : m ≤ n) : Reads w a m (l.take m) := by
  obtain ⟨h1, h2⟩ := h
  refine ⟨by rw [List.length_take]; omega, fun h0 => ?_⟩
  obtain ⟨ad, e, hl, hc⟩ := h2 (by omega)
  refine ⟨ad, e, hl, fun i hi => ?_⟩
  rw [List.length_take] at hi
  rw [List.getElem_take]
  exact hc i (by omega)

theorem putR_fits (l : List UInt8) (k z : Nat) (hz : z < 4294967296) : putR l (4 + (k : Int) % 4) z = (l ++ beB (4 + k % 4) z, 0) := by
  unfold putR
  have e : (4 + (k : Int) % 4).toNat = 4 + k % 4 := by omega
  have h4 : 256 ^ 4 ≤ 256 ^ (4 + k % 4) := Nat.pow_le_pow_right (by omega) (by omega)
  rw [if_pos (by omega), e, Int.toNat_natCast, if_pos ⟨by omega, by omega⟩]
theorem strR_fits (l : List UInt8) (s : ByteArray) (h : s.size ≤ 60) : strR l s = (l ++ (beB 2 s.size ++ s.data.toList), 0) := by
  unfold strR
  rw [if_pos (by omega)]
theorem encN_take (ns : List Nat) (k : Nat) (hk : k < ns.length) : encN (ns.take (k + 1)) 0 = encN (ns.take k) 0 ++ beB (4 + k % 4) ns[k] := by
  rw [List.take_succ_eq_append_getElem hk, encN_snoc, List.length_take, Nat.min_eq_left (by omega), Nat.zero_add]
theorem encT_take (ls : List ByteArray) (k : Nat) (hk : k < ls.length) : encT (ls.take (k + 1)) = encT (ls.take k) ++ (beB 2 ls[k].size ++ ls[k].data.toList) := by
  rw [List.take_succ_eq_append_getElem hk, encT_snoc]

set_option maxRecDepth 100000 in
set_option maxHeartbeats 4000000 in
theorem walk_back (a1 a2 : Option Addr) (n1 c1 n2 c2 : Nat) (ns : List Nat) (ls : List ByteArray) (w : World)
    (hN : ReadsV w a1 n1 (ns.map fun n : Nat => Value.int .u32 (n : Int))) (hL : ReadsV w a2 n2 (ls.map .string)) (hm1 : n1 ≤ maxLen) (hm2 : n2 ≤ maxLen) (hn : ∀ n ∈ ns, n < 4294967296) (hls : ∀ s ∈ ls, s.size ≤ maxLen) :
    Calls Try.prog 5 #[.slice a1 n1 c1, .slice a2 n2 c2] w fun r w' => r = .returned (.bool true) ∧ Below w.heap.size w w' := by
  unfold maxLen at hm1 hm2
  by_cases hg : ¬ ((n1 : Int) ≤ 20 ∧ (n2 : Int) ≤ 10)
  · by_cases h1 : (20 : Int) < n1
    all_goals
      go_enter Try.func5, Try.ntmps5
      go_wp2_with (go_at_call 7; refine (awake_any _).mono ?_; rintro e w' ⟨rfl, hb⟩)
      go_ret
      exact ⟨rfl, hb⟩
  obtain ⟨g1, g2⟩ := Decidable.not_not.1 hg
  clear hg
  have d1 : decide ((20 : Int) < n1) = false := decide_eq_false (by omega)
  have d2 : decide ((10 : Int) < n2) = false := decide_eq_false (by omega)
  have HN := Lib.hid hN
  have HL := Lib.hid hL
  have Hn := Lib.hid hn
  have Hls := Lib.hid hls
  clear hN hL hn hls
  go_enter Try.func5, Try.ntmps5
  go_wp2_with fail
  go_loop [5] (fun i => ∃ k : Nat, k ≤ n2 ∧ i = .int .i64 k ∧ Hid (∀ j, (hj : j < ls.length) → j < k → ls[j].size ≤ 60)) (fun i => n2 - (intOf i).toNat)
  case atStart => exact ⟨0, by omega, rfl, Lib.hid (fun j _ h => absurd h (by omega))⟩
  case round =>
    obtain ⟨k, hk, rfl, Hk⟩ := hrel
    by_cases hlt : k < n2
    · obtain ⟨b, off, rfl, hlb, hc⟩ := HL.out.2 (by omega)
      have hkl : k < ls.length := by have := HL.out.1; simp at this; omega
      have hck := hc k (by simpa using hkl)
      rw [List.getElem_map] at hck
      have hz0 := Hls.out ls[k] (List.getElem_mem hkl)
      unfold maxLen at hz0
      have HS : Hid (ls[k].size ≤ 60 → ∀ j, (hj : j < ls.length) → j < k + 1 → ls[j].size ≤ 60) := Lib.hid (fun h60 j hj hj2 => by
        by_cases e : j = k
        · subst e; exact h60
        · exact Hk.out j hj (by omega))
      generalize ls[k] = z at *
      clear hc Hk
      by_cases h60 : (60 : Int) < z.size
      · go_wp2_with (go_at_call 7; refine (awake_any _).mono ?_; rintro e w' ⟨rfl, hb⟩)
        go_ret
        exact ⟨rfl, hb⟩
      · go_wp2_with fail
        go_round
        case rel => exact ⟨k + 1, by omega, by go_num, Lib.hid (HS.out (by omega))⟩
        case measure => simp [intOf]; omega
    · have H60 : Hid (∀ s ∈ ls, s.size ≤ 60) := Lib.hid (fun s hs => by
        obtain ⟨j, hj, rfl⟩ := List.getElem_of_mem hs
        exact Hk.out j hj (by have := HL.out.1; simp at this; omega))
      clear Hk Hls
      go_wp2_with fail
      go_loopw [6, 7] (fun v i wr => ∃ k : Nat, k ≤ n1 ∧ i = .int .i64 k ∧ OwnB wr w.heap.size v (encN (ns.take k) 0) ∧ Below w.heap.size w wr) (fun _ i _ => n1 - (intOf i).toNat)
      case atStart => exact ⟨0, by omega, rfl, OwnB.nil _ _, Below.refl _ _⟩
      case round =>
        obtain ⟨i, hi, rfl, hown, hbel⟩ := hrel
        have hln : ns.length = n1 := by have := HN.out.1; simpa using this
        by_cases hlt1 : i < n1
        · obtain ⟨b, off, rfl, hlb, hc⟩ := (HN.out.below hbel).2 (by omega)
          have hkl : i < ns.length := by omega
          have hck := hc i (by simpa using hkl)
          rw [List.getElem_map] at hck
          have hz0 := Hn.out ns[i] (List.getElem_mem hkl)
          obtain ⟨a, cap, rfl, hr, hcap⟩ := hown.slice
          have hle := encN_length_le (ns.take i) 0
          have hle2 : (ns.take i).length ≤ i := List.length_take_le ..
          have HP := Lib.hid (put_any a _ cap _ (4 + (i : Int) % 4) ns[i] wr hr (by omega) (by omega))
          rw [putR_fits _ i ns[i] hz0, ← encN_take ns i hkl] at HP
          have HBel := Lib.hid hbel
          generalize ns[i] = z at *
          generalize hE : encN (ns.take i) 0 = E at *
          have hzz : (z : Int) ≤ 4294967295 := by omega
          clear hc hbel hown hr hE hle hle2 hln
          go_wp2_with fail
          refine HP.out.mono ?_
          rintro r w2 ⟨v2, rfl, ho2, hb2⟩
          have HO2 := Lib.hid (ho2.mono HBel.out.size)
          have HB2 := Lib.hid (HBel.out.call hb2)
          clear ho2 hb2 HBel HP
          go_wp2_with fail
          go_roundw
          case rel => exact ⟨i + 1, by omega, by go_num, HO2.out, HB2.out⟩
          case measure => simp [intOf]; omega
        · have hE : encN (ns.take i) 0 = encN ns 0 := by rw [List.take_of_length_le (by omega)]
          rw [hE] at hown
          have HO := Lib.hid hown
          have HB := Lib.hid hbel
          have hle := encN_length_le ns 0
          obtain ⟨wo, rfl⟩ : ∃ wo : World, wo = wr := ⟨_, rfl⟩
          clear hE hown hbel
          go_wp2_with fail
          go_loopw [6, 10] (fun v i wr => ∃ k : Nat, k ≤ n2 ∧ i = .int .i64 k ∧ OwnB wr w.heap.size v (encN ns 0 ++ encT (ls.take k)) ∧ Below w.heap.size w wr) (fun _ i _ => n2 - (intOf i).toNat)
          case atStart => exact ⟨0, by omega, rfl, by simpa [encT] using HO.out, HB.out⟩
          case round =>
            clear HO HB
            obtain ⟨j, hj, rfl, hown, hbel⟩ := hrel
            have hll : ls.length = n2 := by have := HL.out.1; simpa using this
            by_cases hlt2 : j < n2
            · obtain ⟨b, off, rfl, hlb, hc⟩ := (HL.out.below hbel).2 (by omega)
              have hkl : j < ls.length := by omega
              have hck := hc j (by simpa using hkl)
              rw [List.getElem_map] at hck
              have hz0 := H60.out ls[j] (List.getElem_mem hkl)
              obtain ⟨a, cap, rfl, hr, hcap⟩ := hown.slice
              have hle3 := encT_length_le (ls.take j) (fun t ht => H60.out t (List.mem_of_mem_take ht))
              have hle2 : (ls.take j).length ≤ j := List.length_take_le ..
              have HP := Lib.hid (str_any a _ cap _ ls[j] wr hr (by rw [List.length_append]; omega))
              rw [strR_fits _ ls[j] hz0, List.append_assoc, ← encT_take ls j hkl] at HP
              have HBel := Lib.hid hbel
              generalize ls[j] = z at *
              generalize hE : encN ns 0 ++ encT (ls.take j) = E at *
              clear hc hbel hown hr hE hle2 hle3 hll
              go_wp2_with fail
              refine HP.out.mono ?_
              rintro r w2 ⟨v2, rfl, ho2, hb2⟩
              have HO2 := Lib.hid (ho2.mono HBel.out.size)
              have HB2 := Lib.hid (HBel.out.call hb2)
              clear ho2 hb2 HBel HP
              go_wp2_with fail
              go_roundw
              case rel => exact ⟨j + 1, by omega, by go_num, HO2.out, HB2.out⟩
              case measure => simp [intOf]; omega
            · have hE : ls.take j = ls := List.take_of_length_le (by omega)
              rw [hE] at hown
              have hle3 := encT_length_le ls H60.out
              have hT := Lib.hid (fromN_true ⟨(encN ns 0 ++ encT ls).toArray⟩ ls H60.out ns 0 0 (Nat.zero_le _) Hn.out (by simp))
              have hF : Hid (∀ s : ByteArray, s.size ≠ (encN ns 0 ++ encT ls).length → fromN s ls ns 0 0 0 = false) := Lib.hid (fun s hs => fromN_false s ls ns 0 0 0 (fun _ => ⟨by omega, fun e => hs (by omega)⟩))
              have hEl : (encN ns 0 ++ encT ls).length ≤ 760 := by rw [List.length_append]; omega
              generalize encN ns 0 ++ encT ls = E at *
              obtain ⟨a, cap, rfl, hr, hcap⟩ := hown.slice
              have hc0 := conv_reads (cap := cap) hr
              have HR0 := Lib.hid hr
              have HB0 := Lib.hid hbel
              have HN0 := Lib.hid (HN.out.below hbel)
              have HL0 := Lib.hid (HL.out.below hbel)
              clear hE hown hr hbel hle hle3 HN HL
              have h20 : n1 ≤ 20 := by omega
              have h10 : n2 ≤ 10 := by omega
              have HC : Hid (∀ (s : ByteArray) (W : World) (R : Bool), s.size ≤ 1000 → fromN s ls ns 0 0 0 = R → ReadsV W a1 n1 (ns.map fun n : Nat => Value.int .u32 (n : Int)) → ReadsV W a2 n2 (ls.map .string) →
                  Calls Try.prog 25 #[.string s, .slice a1 n1 c1, .slice a2 n2 c2] W fun r w' => r = .returned (.bool R) ∧ Below W.heap.size W w') := Lib.hid (fun s W R h1 h2 h3 h4 => by
                rw [← h2]
                exact reads_any s a1 a2 n1 c1 n2 c2 ns ls W (by unfold maxLen; omega) h3 h4 h20 h10 Hn.out)
              go_wp2_with fail
              refine (HC.out ⟨E.toArray⟩ _ true (show E.toArray.size ≤ 1000 by simp; omega) (by simpa using hT.out) HN0.out HL0.out).mono ?_
              rintro r w2 ⟨rfl, hb2⟩
              have HR2 := Lib.hid (HR0.out.below hb2)
              have HB2 := Lib.hid (HB0.out.call hb2)
              have HN2 := Lib.hid (HN0.out.below hb2)
              have HL2 := Lib.hid (HL0.out.below hb2)
              clear hb2 HR0 HB0 HN0 HL0 hc0 hT
              have HS2 : Hid ((⟨E.toArray⟩ ++ ⟨#[0]⟩ : ByteArray).size = E.length + 1) := Lib.hid (by rw [ByteArray.size_append]; show E.toArray.size + 1 = _; simp)
              by_cases h0 : 0 < E.length
              · have hd0 : decide ((0 : Int) < (E.length : Int)) = true := decide_eq_true (by omega)
                have hc2 := conv_reads (cap := cap) (HR2.out.take (show E.length - 1 ≤ E.length by omega))
                have i1 : (0 : Int) ≤ (E.length : Int) - 1 := by omega
                have i2 : ((E.length : Int) - 1).toNat = E.length - 1 := by omega
                have i3 : (E.length : Int) - 1 ≤ cap := by omega
                have hs1 : (⟨(E.take (E.length - 1)).toArray⟩ : ByteArray).size = E.length - 1 := by show (E.take (E.length - 1)).toArray.size = _; simp
                have HS1 := Lib.hid hs1
                clear hs1
                go_wp2_with fail
                refine (HC.out _ _ false (by rw [HS1.out]; omega) (hF.out _ (by rw [HS1.out]; omega)) HN2.out HL2.out).mono ?_
                rintro r w3 ⟨rfl, hb3⟩
                have hc3 := conv_reads (cap := cap) (HR2.out.below hb3)
                have HB3 := Lib.hid (HB2.out.call hb3)
                have HN3 := Lib.hid (HN2.out.below hb3)
                have HL3 := Lib.hid (HL2.out.below hb3)
                clear hb3 HR2 HB2 HN2 HL2 hc2 i1 i2 i3 HS1
                go_wp2_with fail
                with_reducible refine (HC.out _ _ false ?_ ?_ HN3.out HL3.out).mono ?_
                · rw [HS2.out]; omega
                · exact hF.out _ (by rw [HS2.out]; omega)
                rintro r w4 ⟨rfl, hb4⟩
                have HB4 := Lib.hid (HB3.out.call hb4)
                clear hb4 HB3 HN3 HL3 hc3
                go_wp2_with fail
                refine (awake_any _).mono ?_
                rintro r w5 ⟨rfl, hb5⟩
                have HB5 := Lib.hid (HB4.out.call hb5)
                clear hb5 HB4
                go_wp2
                go_ret
                exact ⟨rfl, HB5.out⟩
              · have hd0 : decide ((0 : Int) < (E.length : Int)) = false := decide_eq_false (by omega)
                have hc3 := conv_reads (cap := cap) HR2.out
                have HB3 := HB2
                have HN3 := HN2
                have HL3 := HL2
                clear HR2 HB2 HN2 HL2
                go_wp2_with fail
                with_reducible refine (HC.out _ _ false ?_ ?_ HN3.out HL3.out).mono ?_
                · rw [HS2.out]; omega
                · exact hF.out _ (by rw [HS2.out]; omega)
                rintro r w4 ⟨rfl, hb4⟩
                have HB4 := Lib.hid (HB3.out.call hb4)
                clear hb4 HB3 HN3 HL3 hc3
                go_wp2_with fail
                refine (awake_any _).mono ?_
                rintro r w5 ⟨rfl, hb5⟩
                have HB5 := Lib.hid (HB4.out.call hb5)
                clear hb5 HB4
                go_wp2
                go_ret
                exact ⟨rfl, HB5.out⟩

end Go.Proofs.Ytannhdhibajbkaa
