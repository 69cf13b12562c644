/- Contracts of the functions over the letters of a text: number, digits, isDigit, isForm, kindOf, of the program and of the document. -/
import Derived.Test.YtiimkkhjejcmfaaDoorMomPlain
import Derived.Test.YtiimkkhjejcmfaaDoorCivRef
namespace Go.Proofs.YtiimkkhjejcmfaaDoor.Mom
open Go.RowKit Civ

theorem getD {t : ByteArray} {k : Nat} (h : k < t.size) : t.data.toList[k]'(by simpa using h) = t[k] := by simp; rfl
theorem take_step {t : ByteArray} {k : Nat} (h : k < t.size) : t.data.toList.take (k + 1) = t.data.toList.take k ++ [t[k]] := by
  rw [List.take_succ_eq_append_getElem (by simpa using h), getD h]
theorem dv_step {t : ByteArray} {k : Nat} (h : k < t.size) : dv (t.data.toList.take (k + 1)) = dv (t.data.toList.take k) * 10 + ((t[k].toNat : Int) - 48) := by
  rw [take_step h, dv_snoc]
theorem take_all (t : ByteArray) : t.data.toList.take t.size = t.data.toList := by
  apply List.take_of_length_le
  simp
theorem all_take {l : List UInt8} (h : allD l = true) (k : Nat) : allD (l.take k) = true := by
  rw [allD_iff] at h ⊢
  exact fun b hb => h b (List.mem_of_mem_take hb)
theorem all_drop {l : List UInt8} (h : allD l = true) (k : Nat) : allD (l.drop k) = true := by
  rw [allD_iff] at h ⊢
  exact fun b hb => h b (List.mem_of_mem_drop hb)
theorem all_at {t : ByteArray} (h : allD t.data.toList = true) {k : Nat} (hk : k < t.size) : 48 ≤ t[k].toNat ∧ t[k].toNat ≤ 57 := by
  rw [allD_iff] at h
  rw [← isDg_iff]
  apply h
  rw [← getD hk]
  exact List.getElem_mem _
theorem dv_small {t : ByteArray} (h : allD t.data.toList = true) {k : Nat} (hk : k ≤ 4) : 0 ≤ dv (t.data.toList.take k) ∧ dv (t.data.toList.take k) < 10000 := by
  have h1 := dv_bound _ (all_take h k)
  have h2 : (10 : Nat) ^ (t.data.toList.take k).length ≤ 10 ^ 4 := by
    apply Nat.pow_le_pow_right (by omega)
    have := List.length_take_le k t.data.toList
    omega
  have h3 : ((10 : Nat) ^ (t.data.toList.take k).length : Nat) = (10 : Int) ^ (t.data.toList.take k).length := by simp
  omega

theorem number_any (t : ByteArray) (hd : allD t.data.toList = true) (hs : t.size ≤ 4) (w : World) :
    Calls Tryd.prog 22 #[.string t] w fun r w' => r = .returned (.int .i64 (dv t.data.toList)) ∧ w = w' := by
  have HA := Lib.hid (fun k (hk : k < t.size) => all_at hd hk)
  have HB := Lib.hid (fun k (hk : k ≤ 4) => dv_small hd hk)
  have HC := Lib.hid (take_all t)
  clear hd
  go_enter Tryd.func22, Tryd.ntmps22
  go_wp2
  go_loop [3, 7] (fun a i => ∃ k : Nat, (k : Int) ≤ t.size ∧ i = .int .i64 k ∧ a = .int .i64 (dv (t.data.toList.take k))) (fun _ i => (t.size - intOf i).toNat)
  case atStart => exact ⟨0, by omega, rfl, by simp [dv]⟩
  case round =>
    obtain ⟨k, hk, rfl, rfl⟩ := hrel
    by_cases hlt : (k : Int) < t.size
    · have hi : k < t.size := by omega
      obtain ⟨a1, a2⟩ := HA.out k hi
      obtain ⟨b1, b2⟩ := HB.out k (by omega)
      go_wp2
      go_round
      case rel => exact ⟨k + 1, by omega, by go_num, by rw [dv_step hi]⟩
      case measure => simp [intOf]; omega
    · obtain rfl : k = t.size := by omega
      go_wp2
      go_ret
      exact ⟨by rw [HC.out]; rfl, rfl⟩

theorem rnumber_any (t : ByteArray) (hd : allD t.data.toList = true) (hs : t.size ≤ 4) (w : World) :
    Calls Tryd.prog 25 #[.string t] w fun r w' => r = .returned (.int .i64 (dv t.data.toList)) ∧ w = w' := by
  have HA := Lib.hid (fun k (hk : k < t.size) => all_at hd hk)
  have HB := Lib.hid (fun k (hk : k ≤ 4) => dv_small hd hk)
  have HC := Lib.hid (take_all t)
  clear hd
  go_enter Tryd.func25, Tryd.ntmps25
  go_wp2
  go_loop [3, 4] (fun a i => ∃ k : Nat, (k : Int) ≤ t.size ∧ i = .int .i64 k ∧ a = .int .i64 (dv (t.data.toList.take k))) (fun _ i => (t.size - intOf i).toNat)
  case atStart => exact ⟨0, by omega, rfl, by simp [dv]⟩
  case round =>
    obtain ⟨k, hk, rfl, rfl⟩ := hrel
    by_cases hlt : (k : Int) < t.size
    · have hi : k < t.size := by omega
      obtain ⟨a1, a2⟩ := HA.out k hi
      obtain ⟨b1, b2⟩ := HB.out k (by omega)
      go_wp2
      go_round
      case rel => exact ⟨k + 1, by omega, by go_num, by rw [dv_step hi]⟩
      case measure => simp [intOf]; omega
    · obtain rfl : k = t.size := by omega
      go_wp2
      go_ret
      exact ⟨by rw [HC.out]; rfl, rfl⟩

theorem all_step {t : ByteArray} {k : Nat} (h : k < t.size) (ha : allD (t.data.toList.take k) = true) (hb : 48 ≤ t[k].toNat ∧ t[k].toNat ≤ 57) : allD (t.data.toList.take (k + 1)) = true := by
  rw [take_step h]
  rw [allD_iff] at ha ⊢
  intro b hb'
  rcases List.mem_append.1 hb' with h1 | h1
  · exact ha b h1
  · rw [List.mem_singleton.1 h1, isDg_iff]; exact hb
theorem all_not {t : ByteArray} {k : Nat} (h : k < t.size) (hb : ¬ (48 ≤ t[k].toNat ∧ t[k].toNat ≤ 57)) : allD t.data.toList = false := by
  rcases e : allD t.data.toList with _ | _
  · rfl
  · exact absurd (all_at e h) hb

theorem rdigits_any (t : ByteArray) (hs : t.size ≤ 40) (w : World) :
    Calls Tryd.prog 23 #[.string t] w fun r w' => r = .returned (.bool (allD t.data.toList)) ∧ w = w' := by
  have HC := Lib.hid (take_all t)
  go_enter Tryd.func23, Tryd.ntmps23
  go_wp2
  go_loop [3] (fun i => ∃ k : Nat, (k : Int) ≤ t.size ∧ i = .int .i64 k ∧ Hid (allD (t.data.toList.take k) = true)) (fun i => (t.size - intOf i).toNat)
  case atStart => exact ⟨0, by omega, rfl, Lib.hid (by simp [allD])⟩
  case round =>
    obtain ⟨k, hk, rfl, ha⟩ := hrel
    by_cases hlt : (k : Int) < t.size
    · have hi : k < t.size := by omega
      have HX := Lib.hid (fun hb => all_step hi ha.out hb)
      have HY := Lib.hid (fun hb => all_not hi hb)
      by_cases c1 : t[k].toNat < 48
      · go_wp2
        go_ret
        exact ⟨by rw [HY.out (by omega)]; rfl, rfl⟩
      · by_cases c2 : 57 < t[k].toNat
        · go_wp2
          go_ret
          exact ⟨by rw [HY.out (by omega)]; rfl, rfl⟩
        · go_wp2
          go_round
          case rel => exact ⟨k + 1, by omega, by go_num, Lib.hid (HX.out (by omega))⟩
          case measure => simp [intOf]; omega
    · obtain rfl : k = t.size := by omega
      go_wp2
      go_ret
      exact ⟨by rw [← HC.out, ha.out]; rfl, rfl⟩

theorem isdigit_any (b : UInt8) (w : World) :
    Calls Tryd.prog 38 #[.int .u8 b.toNat] w fun r w' => r = .returned (.bool (isDg b)) ∧ w = w' := by
  have hb := b.toNat_lt
  by_cases c1 : 48 ≤ b.toNat
  · by_cases c2 : b.toNat ≤ 57
    · rw [isDg_iff.2 ⟨c1, c2⟩]
      have c3 : decide ((b.toNat : Int) ≤ 57) = true := by simp; omega
      go_enter Tryd.func38, Tryd.ntmps38
      go_wp2
      go_ret
      exact ⟨rfl, rfl⟩
    · rw [isDg_no.2 (by omega)]
      have c3 : decide ((b.toNat : Int) ≤ 57) = false := by simp; omega
      go_enter Tryd.func38, Tryd.ntmps38
      go_wp2
      go_ret
      exact ⟨rfl, rfl⟩
  · rw [isDg_no.2 (by omega)]
    have c3 : decide ((48 : Int) ≤ b.toNat) = false := by simp; omega
    go_enter Tryd.func38, Tryd.ntmps38
    go_wp2
    go_ret
    exact ⟨rfl, rfl⟩

theorem fm_step {s f : ByteArray} {k : Nat} (h : k < s.size) (hf : k < f.size) (ha : (s.data.toList.take k).map sgn = f.data.toList.take k) (hb : sgn s[k] = f[k]) :
    (s.data.toList.take (k + 1)).map sgn = f.data.toList.take (k + 1) := by
  rw [take_step h, take_step hf, List.map_append, ha, List.map_singleton, hb]
theorem fm_not {s f : ByteArray} {k : Nat} (h : k < s.size) (hf : k < f.size) (hb : ¬ sgn s[k] = f[k]) : ¬ s.data.toList.map sgn = f.data.toList := by
  intro e
  apply hb
  have h1 : k < (s.data.toList.map sgn).length := by simpa using h
  have h2 : (s.data.toList.map sgn)[k] = f.data.toList[k]'(by simpa using hf) := by simp only [e]
  rw [List.getElem_map, getD h, getD hf] at h2
  exact h2
theorem fm_len {s f : ByteArray} (h : ¬ s.size = f.size) : ¬ s.data.toList.map sgn = f.data.toList := by
  intro e
  apply h
  have := congrArg List.length e
  simpa using this

theorem isform_any (s f : ByteArray) (hf : f.size ≤ 40) (w : World) :
    Calls Tryd.prog 30 #[.string s, .string f] w fun r w' => r = .returned (.bool (decide (s.data.toList.map sgn = f.data.toList))) ∧ w = w' := by
  by_cases hl : s.size = f.size
  · have HC := Lib.hid (take_all s)
    have HF := Lib.hid (take_all f)
    have HD := Lib.hid (fun b W => isdigit_any b W)
    have hl' : ((s.size : Int) != f.size) = false := by simp [hl]
    go_enter Tryd.func30, Tryd.ntmps30
    go_wp2_with fail
    go_loop [14] (fun i => ∃ k : Nat, (k : Int) ≤ s.size ∧ i = .int .i64 k ∧ Hid ((s.data.toList.take k).map sgn = f.data.toList.take k)) (fun i => (s.size - intOf i).toNat)
    case atStart => exact ⟨0, by omega, rfl, Lib.hid (by simp)⟩
    case round =>
      obtain ⟨k, hk, rfl, ha⟩ := hrel
      by_cases hlt : (k : Int) < s.size
      · have hi : k < s.size := by omega
        have hj : k < f.size := by omega
        have hj' : (k : Int) < f.size := by omega
        have HX := Lib.hid (fun hb => fm_step hi hj ha.out hb)
        have HY := Lib.hid (fun hb => fm_not (s := s) (f := f) hi hj hb)
        rcases e : isDg s[k] with _ | _
        · have es := Lib.hid (sgn_no e)
          by_cases c : s[k] = f[k]
          · have c' : ((s[k].toNat : Int) != (f[k].toNat : Int)) = false := by simp [c]
            have HZ := Lib.hid (HX.out (by rw [es.out, c]))
            clear c
            go_wp2_with (go_at_call 38; with_reducible refine (HD.out s[k] _).mono ?_; rw [e]; rintro e w' ⟨rfl, rfl⟩)
            go_round
            case rel => exact ⟨k + 1, by omega, by go_num, HZ⟩
            case measure => simp [intOf]; omega
          · have c' : ((s[k].toNat : Int) != (f[k].toNat : Int)) = true := by
              simp; intro h; exact c (UInt8.toNat_inj.1 (by omega))
            have HZ := Lib.hid (HY.out (by rw [es.out]; exact c))
            clear c
            go_wp2_with (go_at_call 38; with_reducible refine (HD.out s[k] _).mono ?_; rw [e]; rintro e w' ⟨rfl, rfl⟩)
            go_ret
            exact ⟨by rw [decide_eq_false HZ.out]; rfl, rfl⟩
        · have es := Lib.hid (sgn_yes e)
          by_cases c : f[k] = 48
          · have c' : ((48 : Int) != (f[k].toNat : Int)) = false := by simp [c]
            have HZ := Lib.hid (HX.out (by rw [es.out, c]))
            clear c
            go_wp2_with (go_at_call 38; with_reducible refine (HD.out s[k] _).mono ?_; rw [e]; rintro e w' ⟨rfl, rfl⟩)
            go_round
            case rel => exact ⟨k + 1, by omega, by go_num, HZ⟩
            case measure => simp [intOf]; omega
          · have c' : ((48 : Int) != (f[k].toNat : Int)) = true := by
              simp; intro h; exact c (UInt8.toNat_inj.1 (by show f[k].toNat = 48; omega))
            have HZ := Lib.hid (HY.out (by rw [es.out]; exact fun h => c h.symm))
            clear c
            go_wp2_with (go_at_call 38; with_reducible refine (HD.out s[k] _).mono ?_; rw [e]; rintro e w' ⟨rfl, rfl⟩)
            go_ret
            exact ⟨by rw [decide_eq_false HZ.out]; rfl, rfl⟩
      · obtain rfl : k = s.size := by omega
        have HZ := Lib.hid (show s.data.toList.map sgn = f.data.toList by have := ha.out; rwa [HC.out, hl, HF.out] at this)
        go_wp2
        go_ret
        exact ⟨by rw [decide_eq_true HZ.out]; rfl, rfl⟩
  · have hl' : ((s.size : Int) != f.size) = true := by simp; omega
    rw [decide_eq_false (fm_len hl)]
    clear hl
    go_enter Tryd.func30, Tryd.ntmps30
    go_wp2_with fail
    go_ret
    exact ⟨rfl, rfl⟩

theorem isform_1 (s : ByteArray) (w : World) : Calls Tryd.prog 30 #[.string s, .string ⟨#[48, 48, 48, 48, 48, 48, 48, 48]⟩] w fun r w' => r = .returned (.bool (decide (s.data.toList.map sgn = F1))) ∧ w = w' := isform_any s ⟨#[48, 48, 48, 48, 48, 48, 48, 48]⟩ (by decide) w
theorem isform_2 (s : ByteArray) (w : World) : Calls Tryd.prog 30 #[.string s, .string ⟨#[48, 48, 48, 48, 48, 48, 48, 48, 84, 48, 48, 48, 48, 48, 48]⟩] w fun r w' => r = .returned (.bool (decide (s.data.toList.map sgn = F2))) ∧ w = w' := isform_any s ⟨#[48, 48, 48, 48, 48, 48, 48, 48, 84, 48, 48, 48, 48, 48, 48]⟩ (by decide) w
theorem isform_3 (s : ByteArray) (w : World) : Calls Tryd.prog 30 #[.string s, .string ⟨#[48, 48, 48, 48, 48, 48, 48, 48, 84, 48, 48, 48, 48, 48, 48, 90]⟩] w fun r w' => r = .returned (.bool (decide (s.data.toList.map sgn = F3))) ∧ w = w' := isform_any s ⟨#[48, 48, 48, 48, 48, 48, 48, 48, 84, 48, 48, 48, 48, 48, 48, 90]⟩ (by decide) w

theorem kindof_any (s : ByteArray) (w : World) :
    Calls Tryd.prog 20 #[.string s] w fun r w' => r = .returned (.int .u8 (kindA s.data.toList)) ∧ w = w' := by
  have H1 := Lib.hid (fun W => isform_1 s W)
  have H2 := Lib.hid (fun W => isform_2 s W)
  have H3 := Lib.hid (fun W => isform_3 s W)
  rcases kindA_cases s.data.toList with ⟨e, h⟩ | ⟨e, h⟩ | ⟨e, h⟩ | ⟨e, h1, h2, h3⟩
  · rw [e]
    rw [decide_eq_true h] at H1
    clear e h H2 H3
    go_enter Tryd.func20, Tryd.ntmps20
    go_wp2_with (go_at_call 30; with_reducible refine (H1.out _).mono ?_; rintro e w' ⟨rfl, rfl⟩)
    go_ret
    exact ⟨rfl, rfl⟩
  · rw [e]
    rw [decide_eq_false (by rw [h]; decide)] at H1
    rw [decide_eq_true h] at H2
    clear e h H3
    go_enter Tryd.func20, Tryd.ntmps20
    go_wp2_with (first | (go_at_call 30; with_reducible refine (H1.out _).mono ?_; rintro e w' ⟨rfl, rfl⟩) | (go_at_call 30; with_reducible refine (H2.out _).mono ?_; rintro e w' ⟨rfl, rfl⟩))
    go_ret
    exact ⟨rfl, rfl⟩
  · rw [e]
    rw [decide_eq_false (by rw [h]; decide)] at H1
    rw [decide_eq_false (by rw [h]; decide)] at H2
    rw [decide_eq_true h] at H3
    clear e h
    go_enter Tryd.func20, Tryd.ntmps20
    go_wp2_with (first | (go_at_call 30; with_reducible refine (H1.out _).mono ?_; rintro e w' ⟨rfl, rfl⟩) | (go_at_call 30; with_reducible refine (H2.out _).mono ?_; rintro e w' ⟨rfl, rfl⟩) | (go_at_call 30; with_reducible refine (H3.out _).mono ?_; rintro e w' ⟨rfl, rfl⟩))
    go_ret
    exact ⟨rfl, rfl⟩
  · rw [e]
    rw [decide_eq_false h1] at H1
    rw [decide_eq_false h2] at H2
    rw [decide_eq_false h3] at H3
    clear e h1 h2 h3
    go_enter Tryd.func20, Tryd.ntmps20
    go_wp2_with (first | (go_at_call 30; with_reducible refine (H1.out _).mono ?_; rintro e w' ⟨rfl, rfl⟩) | (go_at_call 30; with_reducible refine (H2.out _).mono ?_; rintro e w' ⟨rfl, rfl⟩) | (go_at_call 30; with_reducible refine (H3.out _).mono ?_; rintro e w' ⟨rfl, rfl⟩))
    go_ret
    exact ⟨rfl, rfl⟩
end Go.Proofs.YtiimkkhjejcmfaaDoor.Mom
