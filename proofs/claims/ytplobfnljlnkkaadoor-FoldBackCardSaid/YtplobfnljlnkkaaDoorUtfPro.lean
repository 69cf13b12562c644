/- Contracts of package utf. -/
import Derived.Test.YtplobfnljlnkkaaDoorUtfDec
import Derived.Test.YtplobfnljlnkkaaDoorShelf
import Derived.LoopTactic
set_option linter.unusedVariables false
namespace Go.Proofs.YtplobfnljlnkkaaDoor.Utf
open Go.RowKit Go.Proofs.YtplobfnljlnkkaaDoor.Byt

theorem iter_below (w : World) (s : ByteArray) (i : Nat) : Below w.heap.size w (w.iter s i) := new1 w _
/-- A round of a range over a text, at a place. -/
theorem next_any (w : World) (s : ByteArray) (i : Nat) (h : i < s.size) : ∃ (r k : Nat), wd (s.data.toList.drop i) = k ∧ (Utf8.decode s i).1 = r ∧ 1 ≤ k ∧ k ≤ 4 ∧ i + k ≤ s.size ∧ ∀ ty, (Instr.next (.pointer (some ⟨w.heap.size, 0, none⟩)) true ty).run Tryd.prog (w.iter s i) = .ok (.tuple #[.bool true, .int .i64 i, .int .i32 r]) (w.iter s (i + k)) := by
  have hw := wd_le _ (drop_ne h)
  rw [List.length_drop, len_list] at hw
  refine ⟨_, _, rfl, rfl, hw.1, hw.2.1, by omega, fun ty => ?_⟩
  rw [run_next_any w s i ty h, (decode_any s i h).1]
theorem next_end (w : World) (s : ByteArray) (ty : TypeId) : (Instr.next (.pointer (some ⟨w.heap.size, 0, none⟩)) true ty).run Tryd.prog (w.iter s s.size) = .ok (.tuple #[.bool false]) (w.iter s s.size) := run_next_end w s s.size ty (by omega)

set_option maxRecDepth 20000 in
theorem len_any (s : ByteArray) (hs : s.size ≤ 1000) (w : World) : Calls Tryd.prog 22 #[.string s] w fun r w' => r = .returned (.int .i64 (lenN s.data.toList)) ∧ Below w.heap.size w w' := by
  go_enter Tryd.func22, Tryd.ntmps22
  go_wp2_with fail
  go_loopw [3] (fun n wr => ∃ i m : Nat, i ≤ s.size ∧ m ≤ i ∧ n = .int .i64 m ∧ wr = w.iter s i ∧ Hid (lenN s.data.toList = m + lenN (s.data.toList.drop i))) (fun _ wr => s.size - wr.iterPos w.heap.size)
  case atStart => exact ⟨0, 0, Nat.zero_le _, Nat.le_refl _, rfl, rfl, Lib.hid (by simp)⟩
  case round =>
    obtain ⟨i, m, hi, hm, rfl, rfl, hb⟩ := hrel
    by_cases h : i < s.size
    · obtain ⟨r, k, hk, hr, k1, k2, k3, hnx⟩ := next_any w s i h
      have HB := hb.out.trans (by rw [lenN_on (drop_ne h), drop_drop', hk])
      have HB2 := Lib.hid HB
      clear HB hr hk
      go_wp2_with fail
      go_roundw
      case rel => exact ⟨i + k, m + 1, by omega, by omega, by go_num, rfl, Lib.hid (by rw [HB2.out]; omega)⟩
      case measure => simp; omega
    · obtain rfl : i = s.size := by omega
      have hnx := fun ty => next_end w s ty
      have HB := Lib.hid (hb.out.trans (by rw [drop_end, lenN_nil, Nat.add_zero]))
      clear hb
      go_wp2_with fail
      go_ret
      exact ⟨by rw [HB.out]; rfl, iter_below _ _ _⟩

theorem dec_ways (n b0 b1 b2 b3 : Nat) (h0 : b0 < 256) (h1 : b1 < 256) (h2 : b2 < 256) (h3 : b3 < 256) : (b0 < 128 ∧ Lib.decodeN n b0 b1 b2 b3 = (b0, 1)) ∨ Lib.decodeN n b0 b1 b2 b3 = (65533, 1) ∨ ((Lib.decodeN n b0 b1 b2 b3).1 ≤ 2047) ∨
    (2 < n ∧ 224 ≤ b0 ∧ b0 ≤ 239 ∧ 128 ≤ b1 ∧ b1 ≤ 191 ∧ 128 ≤ b2 ∧ b2 ≤ 191 ∧ (Lib.decodeN n b0 b1 b2 b3).1 = b0 % 16 * 4096 + b1 % 64 * 64 + b2 % 64) ∨ 65536 ≤ (Lib.decodeN n b0 b1 b2 b3).1 := by
  unfold Lib.decodeN
  by_cases c0 : b0 < 128
  · rw [if_pos c0]; exact .inl ⟨c0, rfl⟩
  rw [if_neg c0]
  by_cases c1 : b0 / 32 = 6 ∧ (1 < n ∧ b1 / 64 = 2)
  · rw [if_pos c1]
    by_cases d : b0 % 32 * 64 + b1 % 64 ≥ 128
    · rw [if_pos d]; exact .inr (.inr (.inl (by show b0 % 32 * 64 + b1 % 64 ≤ 2047; omega)))
    · rw [if_neg d]; exact .inr (.inl rfl)
  rw [if_neg c1]
  by_cases c2 : b0 / 16 = 14 ∧ (1 < n ∧ b1 / 64 = 2) ∧ (2 < n ∧ b2 / 64 = 2)
  · rw [if_pos c2]
    split
    · exact .inr (.inr (.inr (.inl ⟨by omega, by omega, by omega, by omega, by omega, by omega, by omega, rfl⟩)))
    · exact .inr (.inl rfl)
  rw [if_neg c2]
  split
  · split
    · rename_i d
      exact .inr (.inr (.inr (.inr d.1)))
    · exact .inr (.inl rfl)
  · exact .inr (.inl rfl)
theorem szN_one (n b0 b1 b2 b3 : Nat) (h : szN n b0 b1 b2 b3 = 1) : b0 < 128 := by
  unfold szN at h
  repeat' split at h
  all_goals omega
/-- Where the rune FFFD is told, and the first byte is not bad. -/
theorem fffd (n b0 b1 b2 b3 : Nat) (hn : 1 ≤ n) (h0 : b0 < 256) (h1 : b1 < 256) (h2 : b2 < 256) (h3 : b3 < 256) (h : (Lib.decodeN n b0 b1 b2 b3).1 = 65533) (hz : szN n b0 b1 b2 b3 ≠ 0) : 2 < n ∧ b0 = 239 ∧ b1 = 191 ∧ b2 = 189 := by
  have hd := (dec_sz n b0 b1 b2 b3 hn h0 h1 h2 h3).1
  rw [if_neg hz] at hd
  rcases dec_ways n b0 b1 b2 b3 h0 h1 h2 h3 with ⟨c, e⟩ | e | e | ⟨c0, c1, c2, c3, c4, c5, c6, e⟩ | e
  · rw [e] at h
    have : b0 = 65533 := h
    omega
  · rw [e] at hd
    have hone := szN_one n b0 b1 b2 b3 hd.symm
    have e2 : Lib.decodeN n b0 b1 b2 b3 = (b0, 1) := by unfold Lib.decodeN; rw [if_pos hone]
    rw [e2] at h
    have : b0 = 65533 := h
    omega
  · omega
  · rw [e] at h
    omega
  · omega
theorem fffd_pre (L : List UInt8) (h : Lib.hasPrefix L (ByteArray.mk #[239, 191, 189]).data.toList = true) : Sz L = 3 := by
  unfold Lib.hasPrefix at h
  obtain ⟨t, rfl⟩ := List.isPrefixOf_iff_prefix.1 h
  show szN _ 239 191 189 _ = 3
  have hl : 2 < ((ByteArray.mk #[239, 191, 189]).data.toList ++ t).length := by rw [List.length_append]; show 2 < 3 + t.length; omega
  generalize ((ByteArray.mk #[239, 191, 189]).data.toList ++ t).length = n at *
  unfold szN loN hiN
  simp
  omega
theorem pre_of {L : List UInt8} (hl : 2 < L.length) (h0 : at_ L 0 = 239) (h1 : at_ L 1 = 191) (h2 : at_ L 2 = 189) : Lib.hasPrefix L (ByteArray.mk #[239, 191, 189]).data.toList = true := by
  match L, hl with
  | a :: b :: c :: t, _ =>
    have ea : a = 239 := UInt8.toNat_inj.1 h0
    have eb : b = 191 := UInt8.toNat_inj.1 h1
    have ec : c = 189 := UInt8.toNat_inj.1 h2
    subst ea eb ec
    exact List.isPrefixOf_iff_prefix.2 ⟨t, rfl⟩
/-- A text's end from a place on. -/
theorem tail_list (s : ByteArray) (i : Nat) : (s.extract i s.size).data.toList = s.data.toList.drop i := by
  simp
  exact List.take_of_length_le (by simp)
theorem pre_any (s : ByteArray) (i : Nat) (h : i < s.size) (hr : (Utf8.decode s i).1 = 65533) : Lib.hasPrefix (s.data.toList.drop i) (ByteArray.mk #[239, 191, 189]).data.toList = decide (Sz (s.data.toList.drop i) ≠ 0) := by
  rcases hx : Lib.hasPrefix (s.data.toList.drop i) (ByteArray.mk #[239, 191, 189]).data.toList with _ | _
  · symm
    apply decide_eq_false
    intro hz
    have e := Lib.decode_at s i
    rw [get_nat, get_nat, get_nat, get_nat] at e
    rw [e] at hr
    have hz' : szN (s.size - i) (at_ s.data.toList i) (at_ s.data.toList (i + 1)) (at_ s.data.toList (i + 2)) (at_ s.data.toList (i + 3)) ≠ 0 := by
      unfold Sz at hz
      rwa [List.length_drop, len_list, at_drop, at_drop, at_drop, at_drop, Nat.add_zero] at hz
    obtain ⟨a0, a1, a2, a3⟩ := fffd _ _ _ _ _ (by omega) (at_lt _ _) (at_lt _ _) (at_lt _ _) (at_lt _ _) hr hz'
    rw [pre_of (by rw [List.length_drop, len_list]; exact a0) (by rw [at_drop]; exact a1) (by rw [at_drop]; exact a2) (by rw [at_drop]; exact a3)] at hx
    cases hx
  · symm
    apply decide_eq_true
    rw [fffd_pre _ hx]
    decide
/-- Is a rune a control? -/
def ctlB (r : Nat) : Bool := decide ((r < 32 ∧ r ≠ 9) ∨ r = 127)
theorem odd_rune {s : ByteArray} {i : Nat} (h : i < s.size) {r : Nat} (hr : (Utf8.decode s i).1 = r) (hz : Sz (s.data.toList.drop i) ≠ 0) : oddB (s.data.toList.drop i) = ctlB r := by
  obtain ⟨d1, d2, d3, d4⟩ := decode_any s i h
  rw [odd_any hz (by rw [at_drop, Nat.add_zero, at_get h])]
  unfold ctlB
  congr 1
  apply propext
  rcases Nat.lt_or_ge (s[i]'h).toNat 128 with c | c
  · rw [← hr, d3 c]
  · have := d4 c
    omega
/-- Where a cut stands that goes on as long as a place is not above n: a is the last place seen, i the next one. -/
def Cs (L : List UInt8) (n : Int) (a i : Nat) : Prop := ((a : Int) ≤ n ∨ a = 0) ∧ cutN n L = a + cutN (n - a) (L.drop a) ∧ ((i = 0 ∧ a = 0) ∨ (i = a + wd (L.drop a) ∧ L.drop a ≠ []))
theorem Cs.start (L : List UInt8) (n : Int) : Cs L n 0 0 := ⟨.inr rfl, by simp, .inl ⟨rfl, rfl⟩⟩
theorem Cs.stop {L : List UInt8} {n : Int} {a i : Nat} (h : Cs L n a i) (hn : n < i) : cutN n L = a := by
  obtain ⟨h0, h1, h2⟩ := h
  rcases h2 with ⟨rfl, rfl⟩ | ⟨h2, h3⟩
  · exact cutN_neg (by omega) L
  · rw [h1, cutN_stop h3 (by omega)]; rfl
theorem Cs.step {L : List UInt8} {n : Int} {a i : Nat} (h : Cs L n a i) (hn : (i : Int) ≤ n) (hne : L.drop i ≠ []) : Cs L n i (i + wd (L.drop i)) := by
  obtain ⟨h0, h1, h2⟩ := h
  refine ⟨.inl hn, ?_, .inr ⟨rfl, hne⟩⟩
  rcases h2 with ⟨rfl, rfl⟩ | ⟨h2, h3⟩
  · exact h1
  · rw [h1, cutN_on h3 (by omega), drop_drop', ← h2, show n - (a : Int) - (wd (L.drop a) : Int) = n - (i : Int) by omega]
    omega
set_option maxRecDepth 20000 in
theorem cut_any (s : ByteArray) (hs : s.size ≤ 1000) (n : Int) (w : World) : Calls Tryd.prog 43 #[.string s, .int .i64 n] w fun r w' => r = .returned (.int .i64 (cutN n s.data.toList)) ∧ Below w.heap.size w w' := by
  by_cases hn : (s.size : Int) ≤ n
  · rw [cutN_all _ _ (by rw [len_list]; exact hn), len_list]
    go_enter Tryd.func43, Tryd.ntmps43
    go_wp2
    go_ret
    exact ⟨rfl, Below.refl _ _⟩
  · go_enter Tryd.func43, Tryd.ntmps43
    go_wp2_with fail
    go_loopw [5, 6] (fun v _ wr => ∃ a i : Nat, i ≤ s.size ∧ a ≤ s.size ∧ v = .int .i64 a ∧ wr = w.iter s i ∧ Hid (Cs s.data.toList n a i)) (fun _ _ wr => s.size - wr.iterPos w.heap.size)
    case atStart => exact ⟨0, 0, Nat.zero_le _, Nat.zero_le _, rfl, rfl, Lib.hid (Cs.start _ _)⟩
    case round =>
      obtain ⟨a, i, hi, ha, rfl, rfl, hb⟩ := hrel
      by_cases h : i < s.size
      · obtain ⟨r, k, hk, hr, k1, k2, k3, hnx⟩ := next_any w s i h
        by_cases c : n < (i : Int)
        · have HB := Lib.hid (hb.out.stop c)
          clear hr hk
          go_wp2_with fail
          go_ret
          exact ⟨by rw [HB.out]; rfl, iter_below _ _ _⟩
        · have HB := hb.out.step (by omega) (drop_ne h)
          rw [hk] at HB
          have HB2 := Lib.hid HB
          clear HB hr hk
          go_wp2_with fail
          go_roundw
          case rel => exact ⟨i, i + k, by omega, by omega, rfl, rfl, HB2⟩
          case measure => simp; omega
      · obtain rfl : i = s.size := by omega
        have hnx := fun ty => next_end w s ty
        have HB := Lib.hid (hb.out.stop (by omega))
        clear hb
        go_wp2_with fail
        go_ret
        exact ⟨by rw [HB.out]; rfl, iter_below _ _ _⟩

/-- A text whose first k letters are in capitals. -/
def mix (L : List UInt8) (k : Nat) : List UInt8 := (L.take k).map up ++ L.drop k
theorem mix_len (L : List UInt8) (k : Nat) : (mix L k).length = L.length := by
  unfold mix
  rw [List.length_append, List.length_map, List.length_take, List.length_drop]
  omega
theorem mix_at {L : List UInt8} {k : Nat} (h : k < L.length) (h' : k < (mix L k).length) : (mix L k)[k] = L[k] := by
  apply Option.some.inj
  rw [← List.getElem?_eq_getElem, ← List.getElem?_eq_getElem]
  unfold mix
  have e : ((L.take k).map up).length = k := by rw [List.length_map, List.length_take]; omega
  rw [List.getElem?_append_right (by omega), e, Nat.sub_self, List.getElem?_drop, Nat.add_zero]
theorem mix_set {L : List UInt8} {k : Nat} (h : k < L.length) : (mix L k).set k (up L[k]) = mix L (k + 1) := by
  unfold mix
  have e : ((L.take k).map up).length = k := by rw [List.length_map, List.length_take]; omega
  rw [List.set_append_right _ _ (by omega), e, Nat.sub_self]
  rw [List.take_succ_eq_append_getElem h, List.map_append, List.append_assoc]
  congr 1
  rw [List.drop_eq_getElem_cons h]
  rfl
theorem mix_same {L : List UInt8} {k : Nat} (h : k < L.length) (e : up L[k] = L[k]) : mix L k = mix L (k + 1) := by
  rw [← mix_set h, e, ← mix_at h (by rw [mix_len]; exact h), List.set_getElem_self]
theorem mix_zero (L : List UInt8) : mix L 0 = L := by simp [mix]
theorem mix_all (L : List UInt8) : mix L L.length = L.map up := by simp [mix]
end Go.Proofs.YtplobfnljlnkkaaDoor.Utf
