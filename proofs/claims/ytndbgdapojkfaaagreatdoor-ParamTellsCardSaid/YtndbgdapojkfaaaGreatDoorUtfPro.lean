/- Contracts of package utf. -/
import Derived.Test.YtndbgdapojkfaaaGreatDoorUtfDec
import Derived.Test.YtndbgdapojkfaaaGreatDoorShelf
import Derived.LoopTactic
set_option linter.unusedVariables false
namespace Go.Proofs.YtndbgdapojkfaaaGreatDoor.Utf
open Go.RowKit Go.Proofs.YtndbgdapojkfaaaGreatDoor.Byt

theorem iter_below (w : World) (s : ByteArray) (i : Nat) : Below w.heap.size w (w.iter s i) := new1 w _
/-- A round of a range over a text, at a place. -/
theorem next_any (w : World) (s : ByteArray) (i : Nat) (h : i < s.size) : ∃ (r k : Nat), wd (s.data.toList.drop i) = k ∧ (Utf8.decode s i).1 = r ∧ 1 ≤ k ∧ k ≤ 4 ∧ i + k ≤ s.size ∧ ∀ ty, (Instr.next (.pointer (some ⟨w.heap.size, 0, none⟩)) true ty).run Tryz.prog (w.iter s i) = .ok (.tuple #[.bool true, .int .i64 i, .int .i32 r]) (w.iter s (i + k)) := by
  have hw := wd_le _ (drop_ne h)
  rw [List.length_drop, len_list] at hw
  refine ⟨_, _, rfl, rfl, hw.1, hw.2.1, by omega, fun ty => ?_⟩
  rw [run_next_any w s i ty h, (decode_any s i h).1]
theorem next_end (w : World) (s : ByteArray) (ty : TypeId) : (Instr.next (.pointer (some ⟨w.heap.size, 0, none⟩)) true ty).run Tryz.prog (w.iter s s.size) = .ok (.tuple #[.bool false]) (w.iter s s.size) := run_next_end w s s.size ty (by omega)

theorem dec_ways (n b0 b1 b2 b3 : Nat) (h0 : b0 < 256) (h1 : b1 < 256) (h2 : b2 < 256) (h3 : b3 < 256) : (b0 < 128 ∧ Lib.decodeN n b0 b1 b2 b3 = (b0, 1)) ∨ Lib.decodeN n b0 b1 b2 b3 = (65533, 1) ∨ ((Lib.decodeN n b0 b1 b2 b3).1 ≤ 2047) ∨
    (2 < n ∧ 224 ≤ b0 ∧ b0 ≤ 239 ∧ 128 ≤ b1 ∧ b1 ≤ 191 ∧ 128 ≤ b2 ∧ b2 ≤ 191 ∧ (Lib.decodeN n b0 b1 b2 b3).1 = b0 % 16 * 4096 + b1 % 64 * 64 + b2 % 64) ∨ 65536 ≤ (Lib.decodeN n b0 b1 b2 b3).1 := by
  unfold Lib.decodeN
  by_cases c0 : b0 < 128
  · rw [if_pos c0]; exact .inl ⟨c0, rfl⟩
  rw [if_neg c0]
  by_cases c1 : b0 / 32 = 6 ∧ (1 < n ∧ b1 / 64 = 2)
  · rw [if_pos c1]
    by_cases d : b0 % 32 * 64 + b1 % 64 ≥ 128
    · rw [if_pos d]; exact .inr (.inr (.inl (by show b0 % 32 * 64 + b1 % 64 ≤ 2047; omega)))
    · rw [if_neg d]; exact .inr (.inl rfl)
  rw [if_neg c1]
  by_cases c2 : b0 / 16 = 14 ∧ (1 < n ∧ b1 / 64 = 2) ∧ (2 < n ∧ b2 / 64 = 2)
  · rw [if_pos c2]
    split
    · exact .inr (.inr (.inr (.inl ⟨by omega, by omega, by omega, by omega, by omega, by omega, by omega, rfl⟩)))
    · exact .inr (.inl rfl)
  rw [if_neg c2]
  split
  · split
    · rename_i d
      exact .inr (.inr (.inr (.inr d.1)))
    · exact .inr (.inl rfl)
  · exact .inr (.inl rfl)
theorem szN_one (n b0 b1 b2 b3 : Nat) (h : szN n b0 b1 b2 b3 = 1) : b0 < 128 := by
  unfold szN at h
  repeat' split at h
  all_goals omega
/-- Where the rune FFFD is told, and the first byte is not bad. -/
theorem fffd (n b0 b1 b2 b3 : Nat) (hn : 1 ≤ n) (h0 : b0 < 256) (h1 : b1 < 256) (h2 : b2 < 256) (h3 : b3 < 256) (h : (Lib.decodeN n b0 b1 b2 b3).1 = 65533) (hz : szN n b0 b1 b2 b3 ≠ 0) : 2 < n ∧ b0 = 239 ∧ b1 = 191 ∧ b2 = 189 := by
  have hd := (dec_sz n b0 b1 b2 b3 hn h0 h1 h2 h3).1
  rw [if_neg hz] at hd
  rcases dec_ways n b0 b1 b2 b3 h0 h1 h2 h3 with ⟨c, e⟩ | e | e | ⟨c0, c1, c2, c3, c4, c5, c6, e⟩ | e
  · rw [e] at h
    have : b0 = 65533 := h
    omega
  · rw [e] at hd
    have hone := szN_one n b0 b1 b2 b3 hd.symm
    have e2 : Lib.decodeN n b0 b1 b2 b3 = (b0, 1) := by unfold Lib.decodeN; rw [if_pos hone]
    rw [e2] at h
    have : b0 = 65533 := h
    omega
  · omega
  · rw [e] at h
    omega
  · omega
theorem fffd_pre (L : List UInt8) (h : Lib.hasPrefix L (ByteArray.mk #[239, 191, 189]).data.toList = true) : Sz L = 3 := by
  unfold Lib.hasPrefix at h
  obtain ⟨t, rfl⟩ := List.isPrefixOf_iff_prefix.1 h
  show szN _ 239 191 189 _ = 3
  have hl : 2 < ((ByteArray.mk #[239, 191, 189]).data.toList ++ t).length := by rw [List.length_append]; show 2 < 3 + t.length; omega
  generalize ((ByteArray.mk #[239, 191, 189]).data.toList ++ t).length = n at *
  unfold szN loN hiN
  simp
  omega
theorem pre_of {L : List UInt8} (hl : 2 < L.length) (h0 : at_ L 0 = 239) (h1 : at_ L 1 = 191) (h2 : at_ L 2 = 189) : Lib.hasPrefix L (ByteArray.mk #[239, 191, 189]).data.toList = true := by
  match L, hl with
  | a :: b :: c :: t, _ =>
    have ea : a = 239 := UInt8.toNat_inj.1 h0
    have eb : b = 191 := UInt8.toNat_inj.1 h1
    have ec : c = 189 := UInt8.toNat_inj.1 h2
    subst ea eb ec
    exact List.isPrefixOf_iff_prefix.2 ⟨t, rfl⟩
/-- A text's end from a place on. -/
theorem tail_list (s : ByteArray) (i : Nat) : (s.extract i s.size).data.toList = s.data.toList.drop i := by
  simp
  exact List.take_of_length_le (by simp)
theorem pre_any (s : ByteArray) (i : Nat) (h : i < s.size) (hr : (Utf8.decode s i).1 = 65533) : Lib.hasPrefix (s.data.toList.drop i) (ByteArray.mk #[239, 191, 189]).data.toList = decide (Sz (s.data.toList.drop i) ≠ 0) := by
  rcases hx : Lib.hasPrefix (s.data.toList.drop i) (ByteArray.mk #[239, 191, 189]).data.toList with _ | _
  · symm
    apply decide_eq_false
    intro hz
    have e := Lib.decode_at s i
    rw [get_nat, get_nat, get_nat, get_nat] at e
    rw [e] at hr
    have hz' : szN (s.size - i) (at_ s.data.toList i) (at_ s.data.toList (i + 1)) (at_ s.data.toList (i + 2)) (at_ s.data.toList (i + 3)) ≠ 0 := by
      unfold Sz at hz
      rwa [List.length_drop, len_list, at_drop, at_drop, at_drop, at_drop, Nat.add_zero] at hz
    obtain ⟨a0, a1, a2, a3⟩ := fffd _ _ _ _ _ (by omega) (at_lt _ _) (at_lt _ _) (at_lt _ _) (at_lt _ _) hr hz'
    rw [pre_of (by rw [List.length_drop, len_list]; exact a0) (by rw [at_drop]; exact a1) (by rw [at_drop]; exact a2) (by rw [at_drop]; exact a3)] at hx
    cases hx
  · symm
    apply decide_eq_true
    rw [fffd_pre _ hx]
    decide
set_option maxRecDepth 20000 in
theorem isbad_far (s : ByteArray) (hs : s.size ≤ 6000) (i : Nat) (h : i < s.size) (r : Nat) (hr : (Utf8.decode s i).1 = r) (w : World) : Calls Tryz.prog 78 #[.string (s.extract i s.size), .int .i32 r] w fun x w' => x = .returned (.bool (decide (Sz (s.data.toList.drop i) = 0))) ∧ w = w' := by
  obtain ⟨d1, d2, d3, d4⟩ := decode_any s i h
  by_cases c : r = 65533
  · subst c
    have hp := pre_any s i h hr
    have H := Lib.hid (fun W => shPre (s.extract i s.size) ⟨#[239, 191, 189]⟩ W)
    rw [tail_list, hp] at H
    have e : decide (Sz (s.data.toList.drop i) = 0) = !decide (Sz (s.data.toList.drop i) ≠ 0) := by by_cases z : Sz (s.data.toList.drop i) = 0 <;> simp [z]
    rw [e]
    generalize decide (Sz (s.data.toList.drop i) ≠ 0) = x at *
    clear d1 d2 d3 d4 hr hp e
    generalize s.extract i s.size = t at *
    go_enter Tryz.func78, Tryz.ntmps78
    go_wp2_with (go_at_call 51; with_reducible refine (H.out _).mono ?_; rintro e w' ⟨rfl, rfl⟩)
    go_ret
    exact ⟨rfl, rfl⟩
  · have e : decide (Sz (s.data.toList.drop i) = 0) = false := decide_eq_false (fun z => c (by rw [← hr]; exact d2 z))
    rw [e]
    have t : ((r : Int) == 65533) = false := by rw [beq_eq_false_iff_ne]; omega
    clear d1 d2 d3 d4 hr e c
    generalize s.extract i s.size = t at *
    go_enter Tryz.func78, Tryz.ntmps78
    go_wp2
    go_ret
    exact ⟨rfl, rfl⟩

theorem isbad_any (s : ByteArray) (hs : s.size ≤ 1000) (i : Nat) (h : i < s.size) (r : Nat) (hr : (Utf8.decode s i).1 = r) (w : World) : Calls Tryz.prog 78 #[.string (s.extract i s.size), .int .i32 r] w fun x w' => x = .returned (.bool (decide (Sz (s.data.toList.drop i) = 0))) ∧ w = w' := isbad_far s (by omega) i h r hr w
/-- Is a rune a control? -/
def ctlB (r : Nat) : Bool := decide ((r < 32 ∧ r ≠ 9) ∨ r = 127)
set_option maxRecDepth 20000 in
theorem isctl_any (r : Nat) (w : World) : Calls Tryz.prog 77 #[.int .i32 r] w fun x w' => x = .returned (.bool (ctlB r)) ∧ w = w' := by
  by_cases c1 : r < 32
  · by_cases c2 : r = 9
    · subst c2
      go_enter Tryz.func77, Tryz.ntmps77
      go_wp2
      go_ret
      exact ⟨rfl, rfl⟩
    · have e : ctlB r = true := decide_eq_true (.inl ⟨c1, c2⟩)
      have t : ((r : Int) != 9) = true := by simp; omega
      rw [e]
      clear e c2
      go_enter Tryz.func77, Tryz.ntmps77
      go_wp2
      go_ret
      exact ⟨rfl, rfl⟩
  · by_cases c2 : r = 127
    · subst c2
      go_enter Tryz.func77, Tryz.ntmps77
      go_wp2
      go_ret
      exact ⟨rfl, rfl⟩
    · have e : ctlB r = false := decide_eq_false (fun x => by omega)
      have t : ((r : Int) == 127) = false := by rw [beq_eq_false_iff_ne]; omega
      rw [e]
      clear e c2
      go_enter Tryz.func77, Tryz.ntmps77
      go_wp2
      go_ret
      exact ⟨rfl, rfl⟩
theorem odd_rune {s : ByteArray} {i : Nat} (h : i < s.size) {r : Nat} (hr : (Utf8.decode s i).1 = r) (hz : Sz (s.data.toList.drop i) ≠ 0) : oddB (s.data.toList.drop i) = ctlB r := by
  obtain ⟨d1, d2, d3, d4⟩ := decode_any s i h
  rw [odd_any hz (by rw [at_drop, Nat.add_zero, at_get h])]
  unfold ctlB
  congr 1
  apply propext
  rcases Nat.lt_or_ge (s[i]'h).toNat 128 with c | c
  · rw [← hr, d3 c]
  · have := d4 c
    omega
set_option maxRecDepth 20000 in
theorem odd_far (s : ByteArray) (hs : s.size ≤ 6000) (w : World) : Calls Tryz.prog 64 #[.string s] w fun r w' => r = .returned (.int .i64 (oddI s.data.toList 0)) ∧ Below w.heap.size w w' := by
  have HC := Lib.hid (fun r W => isctl_any r W)
  go_enter Tryz.func64, Tryz.ntmps64
  go_wp2_with fail
  go_loopw [3, 4] (fun _ _ wr => ∃ i : Nat, i ≤ s.size ∧ wr = w.iter s i ∧ Hid (oddI s.data.toList 0 = oddI (s.data.toList.drop i) i)) (fun _ _ wr => s.size - wr.iterPos w.heap.size)
  case atStart => exact ⟨0, Nat.zero_le _, rfl, Lib.hid rfl⟩
  case round =>
    obtain ⟨i, hi, rfl, hb⟩ := hrel
    by_cases h : i < s.size
    · obtain ⟨r, k, hk, hr, k1, k2, k3, hnx⟩ := next_any w s i h
      have HI := Lib.hid (fun W => isbad_far s hs i h r hr W)
      have HC := Lib.hid (fun W => isctl_any r W)
      by_cases hz : Sz (s.data.toList.drop i) = 0
      · rw [decide_eq_true hz] at HI
        have HB := Lib.hid (hb.out.trans (oddI_hit (drop_ne h) (odd_zero hz) _))
        have hr3 : r = 65533 := by rw [← hr]; exact (decode_any s i h).2.1 hz
        have HC := Lib.hid (fun W => isctl_any r W)
        rw [show ctlB r = false by rw [hr3]; rfl] at HC
        clear hz hr hk hr3
        go_wp2_with (first
          | (go_at_call 78; with_reducible refine (HI.out _).mono ?_; rintro e w' ⟨rfl, rfl⟩)
          | (go_at_call 77; with_reducible refine (HC.out _).mono ?_; rintro e w' ⟨rfl, rfl⟩))
        go_ret
        exact ⟨by rw [HB.out]; rfl, iter_below _ _ _⟩
      · rw [decide_eq_false hz] at HI
        have ho := odd_rune h hr hz
        rcases hc : ctlB r with _ | _
        · rw [hc] at ho HC
          have HB := hb.out.trans (oddI_on (drop_ne h) (by rw [ho]; decide) _)
          rw [drop_drop', hk] at HB
          have HB2 := Lib.hid HB
          clear HB hz hr hk hc ho
          go_wp2_with (first
            | (go_at_call 78; with_reducible refine (HI.out _).mono ?_; rintro e w' ⟨rfl, rfl⟩)
            | (go_at_call 77; with_reducible refine (HC.out _).mono ?_; rintro e w' ⟨rfl, rfl⟩))
          go_roundw
          case rel => exact ⟨i + k, by omega, rfl, Lib.hid (by rw [HB2.out]; congr 1)⟩
          case measure => simp; omega
        · rw [hc] at ho HC
          have HB := Lib.hid (hb.out.trans (oddI_hit (drop_ne h) ho _))
          clear hz hr hk hc ho
          go_wp2_with (first
            | (go_at_call 78; with_reducible refine (HI.out _).mono ?_; rintro e w' ⟨rfl, rfl⟩)
            | (go_at_call 77; with_reducible refine (HC.out _).mono ?_; rintro e w' ⟨rfl, rfl⟩))
          go_ret
          exact ⟨by rw [HB.out]; rfl, iter_below _ _ _⟩
    · obtain rfl : i = s.size := by omega
      have hnx := fun ty => next_end w s ty
      have HB := Lib.hid (hb.out.trans (by rw [drop_end, oddI_nil]))
      clear hb
      go_wp2_with fail
      go_ret
      exact ⟨by rw [HB.out]; rfl, iter_below _ _ _⟩
theorem odd_any' (s : ByteArray) (hs : s.size ≤ 1000) (w : World) : Calls Tryz.prog 64 #[.string s] w fun r w' => r = .returned (.int .i64 (oddI s.data.toList 0)) ∧ Below w.heap.size w w' := odd_far s (by omega) w

/-- Where a cut stands that goes on as long as a place is not above n: a is the last place seen, i the next one. -/
def Cs (L : List UInt8) (n : Int) (a i : Nat) : Prop := ((a : Int) ≤ n ∨ a = 0) ∧ cutN n L = a + cutN (n - a) (L.drop a) ∧ ((i = 0 ∧ a = 0) ∨ (i = a + wd (L.drop a) ∧ L.drop a ≠ []))
theorem Cs.start (L : List UInt8) (n : Int) : Cs L n 0 0 := ⟨.inr rfl, by simp, .inl ⟨rfl, rfl⟩⟩
theorem Cs.stop {L : List UInt8} {n : Int} {a i : Nat} (h : Cs L n a i) (hn : n < i) : cutN n L = a := by
  obtain ⟨h0, h1, h2⟩ := h
  rcases h2 with ⟨rfl, rfl⟩ | ⟨h2, h3⟩
  · exact cutN_neg (by omega) L
  · rw [h1, cutN_stop h3 (by omega)]; rfl
theorem Cs.step {L : List UInt8} {n : Int} {a i : Nat} (h : Cs L n a i) (hn : (i : Int) ≤ n) (hne : L.drop i ≠ []) : Cs L n i (i + wd (L.drop i)) := by
  obtain ⟨h0, h1, h2⟩ := h
  refine ⟨.inl hn, ?_, .inr ⟨rfl, hne⟩⟩
  rcases h2 with ⟨rfl, rfl⟩ | ⟨h2, h3⟩
  · exact h1
  · rw [h1, cutN_on h3 (by omega), drop_drop', ← h2, show n - (a : Int) - (wd (L.drop a) : Int) = n - (i : Int) by omega]
    omega
/-- A text whose first k letters are in capitals. -/
def mix (L : List UInt8) (k : Nat) : List UInt8 := (L.take k).map up ++ L.drop k
theorem mix_len (L : List UInt8) (k : Nat) : (mix L k).length = L.length := by
  unfold mix
  rw [List.length_append, List.length_map, List.length_take, List.length_drop]
  omega
theorem mix_at {L : List UInt8} {k : Nat} (h : k < L.length) (h' : k < (mix L k).length) : (mix L k)[k] = L[k] := by
  apply Option.some.inj
  rw [← List.getElem?_eq_getElem, ← List.getElem?_eq_getElem]
  unfold mix
  have e : ((L.take k).map up).length = k := by rw [List.length_map, List.length_take]; omega
  rw [List.getElem?_append_right (by omega), e, Nat.sub_self, List.getElem?_drop, Nat.add_zero]
theorem mix_set {L : List UInt8} {k : Nat} (h : k < L.length) : (mix L k).set k (up L[k]) = mix L (k + 1) := by
  unfold mix
  have e : ((L.take k).map up).length = k := by rw [List.length_map, List.length_take]; omega
  rw [List.set_append_right _ _ (by omega), e, Nat.sub_self]
  rw [List.take_succ_eq_append_getElem h, List.map_append, List.append_assoc]
  congr 1
  rw [List.drop_eq_getElem_cons h]
  rfl
theorem mix_same {L : List UInt8} {k : Nat} (h : k < L.length) (e : up L[k] = L[k]) : mix L k = mix L (k + 1) := by
  rw [← mix_set h, e, ← mix_at h (by rw [mix_len]; exact h), List.set_getElem_self]
theorem mix_zero (L : List UInt8) : mix L 0 = L := by simp [mix]
theorem mix_all (L : List UInt8) : mix L L.length = L.map up := by simp [mix]
set_option maxRecDepth 20000 in
set_option maxHeartbeats 1000000 in
theorem upper_far (s : ByteArray) (hs : s.size ≤ 6000) (w : World) : Calls Tryz.prog 50 #[.string s] w fun r w' => r = .returned (.string ⟨(s.data.toList.map up).toArray⟩) ∧ Below w.heap.size w w' := by
  obtain ⟨cap, w1, hc, hbuf, hbel⟩ := conv_to s w
  have HB0 := Lib.hid hbuf
  have HL0 := Lib.hid hbel
  clear hbuf hbel
  go_enter Tryz.func50, Tryz.ntmps50
  go_wp2_with fail
  go_loopw [10] (fun i wr => ∃ k : Nat, k ≤ s.size ∧ i = .int .i64 k ∧ Hid (Buf wr w.heap.size (mix s.data.toList k)) ∧ Hid (Below w.heap.size w wr)) (fun i _ => s.size - (intOf i).toNat)
  case atStart => exact ⟨0, Nat.zero_le _, rfl, Lib.hid (by rw [mix_zero]; exact HB0.out), HL0⟩
  case round =>
    obtain ⟨k, hk, rfl, ho, hb⟩ := hrel
    by_cases h : k < s.size
    · have h' : (k : Int) < s.size := by omega
      have hkl : k < s.data.toList.length := by rw [len_list]; exact h
      have hm : k < (mix s.data.toList k).length := by rw [mix_len]; exact hkl
      have hL : (s.data.toList)[k]'hkl = s[k]'h := by simp; rfl
      have c0 := ho.out.cell hm
      have f0 := ho.out.live hm
      rw [mix_at hkl, hL] at c0
      have hu := up_byte (s[k]'h)
      have hlt := (s[k]'h).toNat_lt
      by_cases c1 : 97 ≤ (s[k]'h).toNat ∧ (s[k]'h).toNat ≤ 122
      · rw [if_pos c1] at hu
        have HB := Lib.hid (ho.out.set hm (up (s[k]'h)))
        rw [← hL, mix_set hkl, hL, hu] at HB
        have HW := Lib.hid (hb.out.setCell (p := ⟨w.heap.size, k, none⟩) (by simp) (.int .u8 (((s[k]'h).toNat : Int) - 32)))
        obtain ⟨d1, d2⟩ := c1
        have e32 : ((s[k]'h).toNat : Int) - 97 + 65 = (s[k]'h).toNat - 32 := by omega
        clear hu hL
        go_wp2_with fail
        go_roundw
        case rel => exact ⟨k + 1, by omega, by go_num, HB, HW⟩
        case measure => simp [intOf]; omega
      · have hus : up (s[k]'h) = s[k]'h := if_neg c1
        have HB := Lib.hid ho.out
        rw [mix_same hkl (by rw [hL]; exact hus)] at HB
        by_cases d1 : 97 ≤ (s[k]'h).toNat
        · have d2 : ¬ (s[k]'h).toNat ≤ 122 := fun x => c1 ⟨d1, x⟩
          clear c1 hus hL
          go_wp2_with fail
          go_roundw
          case rel => exact ⟨k + 1, by omega, by go_num, HB, hb⟩
          case measure => simp [intOf]; omega
        · clear c1 hus hL
          go_wp2_with fail
          go_roundw
          case rel => exact ⟨k + 1, by omega, by go_num, HB, hb⟩
          case measure => simp [intOf]; omega
    · obtain rfl : k = s.size := by omega
      have hcv := conv_back (cap := cap) ho.out
      rw [← len_list, mix_all, List.length_map, len_list] at hcv
      go_wp2_with fail
      go_ret
      exact ⟨rfl, hb.out⟩
theorem upper_any (s : ByteArray) (hs : s.size ≤ 1000) (w : World) : Calls Tryz.prog 50 #[.string s] w fun r w' => r = .returned (.string ⟨(s.data.toList.map up).toArray⟩) ∧ Below w.heap.size w w' := upper_far s (by omega) w
end Go.Proofs.YtndbgdapojkfaaaGreatDoor.Utf
