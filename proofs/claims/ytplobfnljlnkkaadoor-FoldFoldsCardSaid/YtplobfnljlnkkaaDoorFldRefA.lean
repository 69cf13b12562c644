/- Contracts of the document's fold (errandref15): row. -/
import Derived.Test.YtplobfnljlnkkaaDoorFldPlain
import Derived.Test.YtplobfnljlnkkaaDoorByt
import Derived.OwnWalk
set_option linter.unusedVariables false
namespace Go.Proofs.YtplobfnljlnkkaaDoor.Fld
open Go.RowKit Go.Proofs.YtplobfnljlnkkaaDoor.Byt Go.Proofs.YtplobfnljlnkkaaDoor.Utf

theorem at_get {s : ByteArray} {k : Nat} (h : k < s.size) : at_ s.data.toList k = (s[k]'h).toNat := by
  unfold at_
  rw [List.getD_eq_getElem?_getD, List.getElem?_eq_getElem (by simpa using h)]
  rfl
theorem drop_at {s : ByteArray} {k : Nat} (h : k < s.size) : ∃ b, s.data.toList.drop k = b :: s.data.toList.drop (k + 1) ∧ b.toNat = (s[k]'h).toNat := ⟨_, List.drop_eq_getElem_cons (by simpa using h), rfl⟩
/-- Going on over a row: i is behind p, and none of the bytes between ends it. -/
def Gs (L : List UInt8) (p i : Nat) : Prop := p ≤ i ∧ i ≤ L.length ∧ rowE L p = i + eol (L.drop i)
theorem Gs.start {L : List UInt8} {p : Nat} (h : p ≤ L.length) : Gs L p p := ⟨Nat.le_refl _, h, rfl⟩
theorem Gs.step {s : ByteArray} {p i : Nat} (h : Gs s.data.toList p i) (hi : i < s.size) (hb : (s[i]'hi).toNat ≠ 10 ∧ (s[i]'hi).toNat ≠ 13) : Gs s.data.toList p (i + 1) := by
  obtain ⟨h1, h2, h3⟩ := h
  obtain ⟨b, hd, hbn⟩ := drop_at hi
  refine ⟨by omega, by rw [len_list]; omega, ?_⟩
  rw [h3, hd]
  show i + (if b.toNat = 10 ∨ b.toNat = 13 then 0 else 1 + eol _) = _
  rw [hbn, if_neg (by omega)]
  omega
theorem Gs.hit {s : ByteArray} {p i : Nat} (h : Gs s.data.toList p i) (hi : i < s.size) (hb : (s[i]'hi).toNat = 10 ∨ (s[i]'hi).toNat = 13) : rowE s.data.toList p = i := by
  obtain ⟨h1, h2, h3⟩ := h
  obtain ⟨b, hd, hbn⟩ := drop_at hi
  rw [h3, hd]
  show i + (if b.toNat = 10 ∨ b.toNat = 13 then 0 else 1 + eol _) = _
  rw [hbn, if_pos hb]
  rfl
theorem Gs.end {s : ByteArray} {p : Nat} (h : Gs s.data.toList p s.size) : rowE s.data.toList p = s.size := by
  rw [h.2.2, List.drop_eq_nil_of_le (by rw [len_list]; exact Nat.le_refl _)]
  rfl
/-- What a row's end tells. -/
theorem row_end {s : ByteArray} {p : Nat} (h : rowE s.data.toList p = s.size) : rowN s.data.toList p = s.size ∧ rowB s.data.toList p = false := by
  refine ⟨by unfold rowN; rw [if_pos (by rw [len_list]; exact h)]; exact h, decide_eq_false (fun x => x.1 (by rw [len_list]; exact h))⟩
theorem row_lf {s : ByteArray} {p i : Nat} (h : rowE s.data.toList p = i) (hi : i < s.size) (hb : (s[i]'hi).toNat = 10) : rowN s.data.toList p = i + 1 ∧ rowB s.data.toList p = false := by
  have ha := at_get hi
  refine ⟨by unfold rowN; rw [h, len_list, if_neg (by omega), if_pos (by rw [ha]; exact hb)], decide_eq_false (fun x => x.2.1 (by rw [h, ha]; exact hb))⟩
theorem row_crlf {s : ByteArray} {p i : Nat} (h : rowE s.data.toList p = i) (hi : i < s.size) (hb : (s[i]'hi).toNat = 13) (hi2 : i + 1 < s.size) (hb2 : (s[i + 1]'hi2).toNat = 10) : rowN s.data.toList p = i + 2 ∧ rowB s.data.toList p = false := by
  have ha := at_get hi
  have ha2 := at_get hi2
  refine ⟨by unfold rowN; rw [h, len_list, if_neg (by omega), if_neg (by omega), if_pos ⟨hi2, by omega⟩], decide_eq_false (fun x => x.2.2 (by rw [h, len_list]; exact ⟨hi2, by omega⟩))⟩
theorem row_cr {s : ByteArray} {p i : Nat} (h : rowE s.data.toList p = i) (hi : i < s.size) (hb : (s[i]'hi).toNat = 13) (hn : ∀ hi2 : i + 1 < s.size, (s[i + 1]'hi2).toNat ≠ 10) : rowN s.data.toList p = i ∧ rowB s.data.toList p = true := by
  have ha := at_get hi
  have hno : ¬ (i + 1 < s.size ∧ at_ s.data.toList (i + 1) = 10) := fun x => hn x.1 (by rw [← at_get x.1]; exact x.2)
  refine ⟨by unfold rowN; rw [h, len_list, if_neg (by omega), if_neg (by omega), if_neg hno], decide_eq_true ⟨by rw [h, len_list]; omega, by rw [h]; omega, by rw [h, len_list]; exact hno⟩⟩
set_option maxRecDepth 20000 in
set_option maxHeartbeats 1000000 in
theorem row_any (s : ByteArray) (hs : s.size ≤ 10000) (p : Nat) (hp : p ≤ s.size) (w : World) : Calls Tryd.prog 28 #[.string s, .int .i64 p] w fun r w' => r = .returned (.tuple #[.int .i64 (rowE s.data.toList p), .int .i64 (rowN s.data.toList p), .bool (rowB s.data.toList p)]) ∧ w = w' := by
  have HS := Lib.hid hs
  have HG0 := Lib.hid (Gs.start (L := s.data.toList) (p := p) (by rw [len_list]; exact hp))
  go_enter Tryd.func28, Tryd.ntmps28
  go_wp2_with fail
  go_loop [7] (fun v => ∃ i : Nat, i ≤ s.size ∧ v = .int .i64 i ∧ Hid (Gs s.data.toList p i)) (fun v => s.size - (intOf v).toNat)
  case atStart => exact ⟨p, hp, rfl, HG0⟩
  case round =>
    obtain ⟨i, hi, rfl, hb⟩ := hrel
    by_cases h : i < s.size
    · have h' : (i : Int) < s.size := by omega
      have hne : ((i : Int) == s.size) = false := by rw [beq_eq_false_iff_ne]; omega
      have b1 := (s[i]'h).toNat_lt
      by_cases c10 : (s[i]'h).toNat = 10
      · have he := hb.out.hit h (.inl c10)
        obtain ⟨e1, e2⟩ := row_lf he h c10
        have HE := Lib.hid (And.intro he (And.intro e1 e2))
        clear he e1 e2 hb
        go_wp2_with fail
        go_ret3
        exact ⟨by rw [HE.out.1, HE.out.2.1, HE.out.2.2]; rfl, rfl⟩
      · by_cases c13 : (s[i]'h).toNat = 13
        · have he := hb.out.hit h (.inr c13)
          have t10 : (((s[i]'h).toNat : Int) == 10) = false := by rw [c13]; rfl
          by_cases hi2 : i + 1 < s.size
          · have h2' : (i : Int) + 1 < s.size := by omega
            by_cases d10 : (s[i + 1]'hi2).toNat = 10
            · obtain ⟨e1, e2⟩ := row_crlf he h c13 hi2 d10
              have HE := Lib.hid (And.intro he (And.intro e1 e2))
              clear he e1 e2 hb
              go_wp2_with fail
              go_ret3
              exact ⟨by rw [HE.out.1, HE.out.2.1, HE.out.2.2]; rfl, rfl⟩
            · obtain ⟨e1, e2⟩ := row_cr he h c13 (fun _ => d10)
              have t2 : (((s[i + 1]'hi2).toNat : Int) == 10) = false := by rw [beq_eq_false_iff_ne]; omega
              have HE := Lib.hid (And.intro he (And.intro e1 e2))
              clear he e1 e2 hb
              go_wp2_with fail
              go_ret3
              exact ⟨by rw [HE.out.1, HE.out.2.1, HE.out.2.2]; rfl, rfl⟩
          · obtain ⟨e1, e2⟩ := row_cr he h c13 (fun x => absurd x hi2)
            have h2' : ¬ (i : Int) + 1 < s.size := by omega
            have HE := Lib.hid (And.intro he (And.intro e1 e2))
            clear he e1 e2 hb
            go_wp2_with fail
            go_ret3
            exact ⟨by rw [HE.out.1, HE.out.2.1, HE.out.2.2]; rfl, rfl⟩
        · have HN := Lib.hid (hb.out.step h ⟨c10, c13⟩)
          have t1 : (((s[i]'h).toNat : Int) != 10) = true := by simp; omega
          have t2 : (((s[i]'h).toNat : Int) != 13) = true := by simp; omega
          clear hb c10 c13
          go_wp2_with fail
          go_round
          case rel => exact ⟨i + 1, by omega, by go_num, HN⟩
          case measure => simp [intOf]; omega
    · obtain rfl : i = s.size := by omega
      have he := hb.out.end
      obtain ⟨e1, e2⟩ := row_end he
      have HE := Lib.hid (And.intro he (And.intro e1 e2))
      clear he e1 e2 hb
      go_wp2_with fail
      go_ret3
      exact ⟨by rw [HE.out.1, HE.out.2.1, HE.out.2.2]; rfl, rfl⟩
end Go.Proofs.YtplobfnljlnkkaaDoor.Fld
