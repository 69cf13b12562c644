/- Contract of the document's param (errandref17): Value. -/
import Derived.Test.YtndbgdapojkfaaaGreatDoorParRefE
set_option linter.unusedVariables false
namespace Go.Proofs.YtndbgdapojkfaaaGreatDoor.Par
open Go.RowKit Go.Deep Go.Proofs.YtndbgdapojkfaaaGreatDoor.Byt Go.Proofs.YtndbgdapojkfaaaGreatDoor.Utf Go.Proofs.YtndbgdapojkfaaaGreatDoor.Tre Go.Proofs.YtndbgdapojkfaaaGreatDoor.Txt

theorem pre_at {s : ByteArray} (f : UInt8 → Bool) (p : Nat) (hp : p ≤ s.size) (n : Nat) (hn : pre f (s.data.toList.drop p) = n) : p + n ≤ s.size ∧ (∀ k, p ≤ k → k < p + n → ∃ h : k < s.size, f (s[k]'h) = false) ∧ (∀ h : p + n < s.size, f (s[p + n]'h) = true) := by
  have hle := pre_le f (s.data.toList.drop p)
  have hl : (s.data.toList.drop p).length = s.size - p := by rw [List.length_drop, len_list]
  rw [hn, hl] at hle
  refine ⟨by omega, fun k h1 h2 => ⟨by omega, ?_⟩, fun h => ?_⟩
  · have hk : k < s.size := by omega
    have := pre_none f (s.data.toList.drop p) (s[k]'hk) (by
      rw [hn]
      rw [List.mem_iff_getElem?]
      refine ⟨k - p, ?_⟩
      rw [List.getElem?_take, if_pos (by omega), List.getElem?_drop, show p + (k - p) = k by omega]
      have : k < s.data.toList.length := by rw [len_list]; exact hk
      rw [List.getElem?_eq_getElem this]
      simp [ByteArray.getElem_eq_getElem_data])
    exact this
  · have h3 : pre f (s.data.toList.drop p) < (s.data.toList.drop p).length := by rw [hn, hl]; omega
    have := pre_hit f (s.data.toList.drop p) h3
    rw [← this]
    congr 1
    simp [hn, ByteArray.getElem_eq_getElem_data]
/-- What Value answers: the value, the place behind it (or the error's), the error. -/
def ansV (at' : Nat) (V : List UInt8 × Nat × Int) : Value := .tuple #[.string ⟨V.1.toArray⟩, .int .i64 ((at' + V.2.1 : Nat) : Int), .int .i64 V.2.2]
theorem ansV_eq {at' m : Nat} {V : List UInt8 × Nat × Int} {v : List UInt8} {e x : Int} (h : V = (v, m, e)) (hx : x = (at' : Int) + m) : Value.tuple #[.string ⟨v.toArray⟩, .int .i64 x, .int .i64 e] = ansV at' V := by
  subst h hx; rfl
theorem mid_list (s : ByteArray) (p q : Nat) : (s.extract p q).data.toList = (s.data.toList.drop p).take (q - p) := by simp
theorem stpH_at {s : ByteArray} (k : Nat) : stpH (s.data.toList.drop k) = if h : k < s.size then stp (s[k]'h) else true := by
  by_cases h : k < s.size
  · rw [dif_pos h, drop_at h]; rfl
  · rw [dif_neg h, List.drop_eq_nil_of_le (by rw [len_list]; omega)]; rfl
theorem at_first {s : ByteArray} {k : Nat} (h : k < s.size) : at_ (s.data.toList.drop k) 0 = (s[k]'h).toNat := by rw [drop_at h]; rfl
theorem at_none {s : ByteArray} {k : Nat} (h : ¬ k < s.size) : at_ (s.data.toList.drop k) 0 = 0 := by rw [List.drop_eq_nil_of_le (by rw [len_list]; omega)]; rfl
theorem val_q {X : List UInt8} (h : at_ X 0 = 34) : val X = if pre quo X.tail = X.tail.length then ([], X.length, 3) else fin (X.tail.take (pre quo X.tail)) 1 (pre quo X.tail + 2) true (X.tail.drop (pre quo X.tail + 1)) := by unfold val; rw [if_pos h]
theorem val_p {X : List UInt8} (h : at_ X 0 ≠ 34) : val X = if at_ X (pre qs X) = 34 then ([], pre qs X, 4) else fin (X.take (pre qs X)) 0 (pre qs X) false (X.drop (pre qs X)) := by unfold val; rw [if_neg h]
theorem fin_odd {inner rest : List UInt8} {o nx : Nat} {q : Bool} (h : oddI inner 0 ≠ -1) : fin inner o nx q rest = ([], o + (oddI inner 0).toNat, 10) := by unfold fin; rw [if_pos h]
theorem fin_long {inner rest : List UInt8} {o nx : Nat} {q : Bool} (h : oddI inner 0 = -1) (h2 : 60 < (rd inner).length) : fin inner o nx q rest = ([], 0, 5) := by unfold fin; rw [if_neg (by omega), if_pos h2]
theorem fin_form {inner rest : List UInt8} {o nx : Nat} (h : oddI inner 0 = -1) (h2 : ¬ 60 < (rd inner).length) (h3 : stpH rest = false) : fin inner o nx true rest = ([], nx, 4) := by unfold fin; rw [if_neg (by omega), if_neg h2, if_pos ⟨rfl, h3⟩]
/-- What is asked of the text of a value. -/
theorem inner_facts (s y : ByteArray) (hs : y.size ≤ 6000) (inner : List UInt8) (hy : y.data.toList = inner) :
    Hid (∀ W, Calls Tryz.prog 53 #[.string y] W fun r w' => r = .returned (.int .i64 (oddI inner 0)) ∧ W = w') ∧
    Hid (∀ W, Calls Tryz.prog 54 #[.string y] W fun r w' => r = .returned (.string ⟨(rd inner).toArray⟩) ∧ W = w') ∧ (oddI inner 0 = -1 ∨ (0 ≤ oddI inner 0 ∧ oddI inner 0 < 6000)) := by
  subst hy
  refine ⟨Lib.hid fun W => rodd_far y hs W, Lib.hid fun W => read_any y hs W, ?_⟩
  have := oddI_ge y.data.toList 0 (by omega)
  rw [len_list] at this
  omega
set_option maxRecDepth 20000 in
set_option maxHeartbeats 1000000 in
theorem value_quo (s : ByteArray) (hs : s.size ≤ 5000) (p : Nat) (hp : p < s.size) (h0 : (s[p]'hp).toNat = 34) (w : World) : Calls Tryz.prog 33 #[.string s, .int .i64 p] w fun r w' => r = .returned (ansV p (val (s.data.toList.drop p))) ∧ w = w' := by
  have hX : at_ (s.data.toList.drop p) 0 = 34 := by rw [at_first hp]; exact h0
  have hT : (s.data.toList.drop p).tail = s.data.toList.drop (p + 1) := by rw [drop_at hp]; rfl
  have hV := val_q hX
  rw [hT] at hV
  have hp1 : p + 1 ≤ s.size := hp
  obtain ⟨g1, g2, g3⟩ := pre_at quo (p + 1) hp1 _ rfl
  have hl : (s.data.toList.drop (p + 1)).length = s.size - (p + 1) := by rw [List.length_drop, len_list]
  have hlX : (s.data.toList.drop p).length = s.size - p := by rw [List.length_drop, len_list]
  rw [hl, hlX] at hV
  obtain ⟨e, he⟩ : ∃ e, e = p + 1 + pre quo (s.data.toList.drop (p + 1)) := ⟨_, rfl⟩
  have hn : pre quo (s.data.toList.drop (p + 1)) = e - (p + 1) := by omega
  rw [hn] at hV g1 g2 g3
  rw [show p + 1 + (e - (p + 1)) = e by omega] at g1 g2
  have g3' : ∀ h : e < s.size, (s[e]'h).toNat = 34 := fun h => by
    have e2 : p + 1 + (e - (p + 1)) = e := by omega
    have h5 := g3 (by omega)
    simp only [e2] at h5
    exact of_decide_eq_true h5
  have hep : p + 1 ≤ e := by omega
  have G2 := Lib.hid g2
  have G3 := Lib.hid g3'
  have hpI : (p : Int) < s.size := by omega
  have hpN : ((s[p]'hp).toNat : Int) = 34 := by omega
  have hin := inner_facts s (s.extract (p + 1) e) (by rw [ByteArray.size_extract]; omega) _ (mid_list s (p + 1) e)
  obtain ⟨HO, HRD, ho⟩ := hin
  have HV := Lib.hid hV
  clear hX hT hV g2 g3 g3' hl hlX hn he hpN
  go_enter Tryz.func33, Tryz.ntmps33
  go_wp2_with fail
  go_loop [8] (fun v => ∃ k : Nat, p + 1 ≤ k ∧ k ≤ e ∧ v = .int .i64 k) (fun v => e - (intOf v).toNat)
  case atStart => exact ⟨p + 1, Nat.le_refl _, hep, by go_num⟩
  case round =>
    obtain ⟨k, hk0, hk, rfl⟩ := hrel
    by_cases h : k < e
    · obtain ⟨hks, hq⟩ := G2.out k hk0 (by omega)
      have hq2 : ¬ (s[k]'hks).toNat = 34 := of_decide_eq_false hq
      have t1 : (((s[k]'hks).toNat : Int) != 34) = true := by simp; omega
      have hks' : (k : Int) < s.size := by omega
      clear hq hq2
      go_wp2_with fail
      go_round
      case rel => exact ⟨k + 1, by omega, by omega, by go_num⟩
      case measure => simp [intOf]; omega
    · obtain rfl : k = e := by omega
      by_cases hes : k = s.size
      · have hks' : ¬ (k : Int) < s.size := by omega
        have hke : (k : Int) = s.size := by omega
        have HX := Lib.hid (HV.out.trans (if_pos (by omega)))
        clear HO HRD ho HV hes
        go_wp2_with fail
        go_ret3
        exact ⟨congrArg _ (ansV_eq HX.out (by omega)), rfl⟩
      · have hks : k < s.size := by omega
        have hks' : (k : Int) < s.size := by omega
        have hke : ((k : Int) == s.size) = false := by rw [beq_eq_false_iff_ne]; omega
        have q34 := G3.out hks
        have HX := Lib.hid (HV.out.trans (if_neg (by omega)))
        have hk1 : p + 1 + (k - (p + 1) + 1) = k + 1 := by omega
        rw [List.drop_drop, hk1] at HX
        have HST := Lib.hid (stpH_at (s := s) (k + 1))
        clear HV hes hk1
        generalize (s.data.toList.drop (p + 1)).take (k - (p + 1)) = inner at *
        generalize s.data.toList.drop (k + 1) = rest at *
        generalize hoi : oddI inner 0 = o at *
        rcases ho with ho | ho
        · subst ho
          have hz := size_mk (rd inner)
          by_cases d1 : 60 < (rd inner).length
          · have HY := Lib.hid (HX.out.trans (fin_long hoi d1))
            have d2 : (60 : Int) < (ByteArray.mk (rd inner).toArray).size := by omega
            clear HX HST d1 hz
            generalize ByteArray.mk (rd inner).toArray = z at *
            go_wp2_with (first
              | (go_at_call 53; with_reducible refine (HO.out _).mono ?_; rintro r w2 ⟨rfl, rfl⟩)
              | (go_at_call 54; with_reducible refine (HRD.out _).mono ?_; rintro r w2 ⟨rfl, rfl⟩))
            go_ret3
            exact ⟨congrArg _ (ansV_eq HY.out (by omega)), rfl⟩
          · have d2 : ¬ (60 : Int) < (ByteArray.mk (rd inner).toArray).size := by omega
            by_cases hn : k + 1 < s.size
            · have hn' : (k : Int) + 1 < s.size := by omega
              have hst := HST.out
              rw [dif_pos hn] at hst
              by_cases c1 : (s[k + 1]'hn).toNat = 44 ∨ (s[k + 1]'hn).toNat = 58 ∨ (s[k + 1]'hn).toNat = 59
              · have HY := Lib.hid (HX.out.trans (fin_ok hoi (by omega) 1 _ true (fun _ => hst.trans (decide_eq_true c1))))
                clear HX HST hst d1 hz
                generalize hzz : ByteArray.mk (rd inner).toArray = z at *
                rcases c1 with c1 | c1 | c1
                all_goals
                  go_wp2_with (first
              | (go_at_call 53; with_reducible refine (HO.out _).mono ?_; rintro r w2 ⟨rfl, rfl⟩)
              | (go_at_call 54; with_reducible refine (HRD.out _).mono ?_; rintro r w2 ⟨rfl, rfl⟩))
                  go_ret3
                  exact ⟨by rw [← hzz]; exact congrArg _ (ansV_eq HY.out (by omega)), rfl⟩
              · have HY := Lib.hid (HX.out.trans (fin_form hoi d1 (hst.trans (decide_eq_false c1))))
                have t4 : (((s[k + 1]'hn).toNat : Int) != 44) = true := by simp; omega
                have t5 : (((s[k + 1]'hn).toNat : Int) != 58) = true := by simp; omega
                have t6 : (((s[k + 1]'hn).toNat : Int) != 59) = true := by simp; omega
                clear HX HST hst d1 hz c1
                generalize ByteArray.mk (rd inner).toArray = z at *
                go_wp2_with (first
              | (go_at_call 53; with_reducible refine (HO.out _).mono ?_; rintro r w2 ⟨rfl, rfl⟩)
              | (go_at_call 54; with_reducible refine (HRD.out _).mono ?_; rintro r w2 ⟨rfl, rfl⟩))
                go_ret3
                exact ⟨congrArg _ (ansV_eq HY.out (by omega)), rfl⟩
            · have hn' : ¬ (k : Int) + 1 < s.size := by omega
              have hst := HST.out
              rw [dif_neg hn] at hst
              have HY := Lib.hid (HX.out.trans (fin_ok hoi (by omega) 1 _ true (fun _ => hst)))
              clear HX HST hst d1 hz
              generalize hzz : ByteArray.mk (rd inner).toArray = z at *
              go_wp2_with (first
              | (go_at_call 53; with_reducible refine (HO.out _).mono ?_; rintro r w2 ⟨rfl, rfl⟩)
              | (go_at_call 54; with_reducible refine (HRD.out _).mono ?_; rintro r w2 ⟨rfl, rfl⟩))
              go_ret3
              exact ⟨by rw [← hzz]; exact congrArg _ (ansV_eq HY.out (by omega)), rfl⟩
        · have HY := Lib.hid (HX.out.trans (fin_odd (by omega)))
          rw [hoi] at HY
          have ho1 := ho.1
          have ho2 := ho.2
          clear HX HST
          go_wp2_with (first
              | (go_at_call 53; with_reducible refine (HO.out _).mono ?_; rintro r w2 ⟨rfl, rfl⟩)
              | (go_at_call 54; with_reducible refine (HRD.out _).mono ?_; rintro r w2 ⟨rfl, rfl⟩))
          go_ret3
          exact ⟨congrArg _ (ansV_eq HY.out (by omega)), rfl⟩
theorem qs_no {b : UInt8} (h : qs b = false) : b.toNat ≠ 34 ∧ b.toNat ≠ 44 ∧ b.toNat ≠ 58 ∧ b.toNat ≠ 59 := by
  unfold qs at h
  rw [Bool.or_eq_false_iff] at h
  have h1 := of_decide_eq_false h.1
  have h2 := of_decide_eq_false h.2
  omega
set_option maxRecDepth 20000 in
set_option maxHeartbeats 1000000 in
theorem value_pla (s : ByteArray) (hs : s.size ≤ 5000) (p : Nat) (hp : p ≤ s.size) (h0 : ∀ h : p < s.size, (s[p]'h).toNat ≠ 34) (w : World) : Calls Tryz.prog 33 #[.string s, .int .i64 p] w fun r w' => r = .returned (ansV p (val (s.data.toList.drop p))) ∧ w = w' := by
  have hX : at_ (s.data.toList.drop p) 0 ≠ 34 := by
    by_cases h : p < s.size
    · rw [at_first h]; exact h0 h
    · rw [at_none h]; decide
  have hV := val_p hX
  obtain ⟨g1, g2, g3⟩ := pre_at qs p hp _ rfl
  obtain ⟨e, he⟩ : ∃ e, e = p + pre qs (s.data.toList.drop p) := ⟨_, rfl⟩
  have hn : pre qs (s.data.toList.drop p) = e - p := by omega
  rw [hn] at hV g1 g2 g3
  have e2 : p + (e - p) = e := by omega
  rw [← at_drop0, List.drop_drop, e2] at hV
  rw [e2] at g1 g2
  have g3' : ∀ h : e < s.size, qs (s[e]'h) = true := fun h => by
    have h5 := g3 (by omega)
    simp only [e2] at h5
    exact h5
  have hep : p ≤ e := by omega
  have G2 := Lib.hid g2
  have G3 := Lib.hid g3'
  have H0 := Lib.hid h0
  have hin := inner_facts s (s.extract p e) (by rw [ByteArray.size_extract]; omega) _ (mid_list s p e)
  obtain ⟨HO, HRD, ho⟩ := hin
  have HV := Lib.hid hV
  clear hX hV g2 g3 g3' hn he h0 e2
  have hc : (∃ hq : p < s.size, (((s[p]'hq).toNat : Int) == 34) = false) ∨ ¬ (p : Int) < s.size := by
    by_cases hq : p < s.size
    · exact .inl ⟨hq, by rw [beq_eq_false_iff_ne]; have := H0.out hq; omega⟩
    · exact .inr (by omega)
  clear H0
  rcases hc with ⟨hps, t0⟩ | hps
  all_goals
    (try have hps' : (p : Int) < s.size := by omega)
    go_enter Tryz.func33, Tryz.ntmps33
    go_wp2_with fail
    go_loop [8] (fun v => ∃ k : Nat, p ≤ k ∧ k ≤ e ∧ v = .int .i64 k) (fun v => e - (intOf v).toNat)
    case atStart => exact ⟨p, Nat.le_refl _, hep, rfl⟩
    case round =>
      obtain ⟨k, hk0, hk, rfl⟩ := hrel
      by_cases h : k < e
      · obtain ⟨hks, hq⟩ := G2.out k hk0 (by omega)
        obtain ⟨q1, q2, q3, q4⟩ := qs_no hq
        have t3 : (((s[k]'hks).toNat : Int) == 34) = false := by rw [beq_eq_false_iff_ne]; omega
        have t4 : (((s[k]'hks).toNat : Int) != 44) = true := by simp; omega
        have t5 : (((s[k]'hks).toNat : Int) != 58) = true := by simp; omega
        have t6 : (((s[k]'hks).toNat : Int) != 59) = true := by simp; omega
        have hks' : (k : Int) < s.size := by omega
        clear hq q1 q2 q3 q4
        go_wp2_with fail
        go_round
        case rel => exact ⟨k + 1, by omega, by omega, by go_num⟩
        case measure => simp [intOf]; omega
      · obtain rfl : k = e := by omega
        have HXF : Hid (at_ (s.data.toList.drop k) 0 ≠ 34 → val (s.data.toList.drop p) = fin ((s.data.toList.drop p).take (k - p)) 0 (k - p) false (s.data.toList.drop k)) := Lib.hid fun x => HV.out.trans (if_neg x)
        have HXQ := Lib.hid (fun x => HV.out.trans (if_pos x))
        have hc : ¬ (k : Int) < s.size ∨ ∃ hks : k < s.size, (s[k]'hks).toNat = 34 ∨ (s[k]'hks).toNat = 44 ∨ (s[k]'hks).toNat = 58 ∨ (s[k]'hks).toNat = 59 := by
          by_cases hks : k < s.size
          · refine .inr ⟨hks, ?_⟩
            have h3 := G3.out hks
            unfold qs at h3
            rw [Bool.or_eq_true] at h3
            rcases h3 with h3 | h3
            · exact .inl (of_decide_eq_true h3)
            · exact .inr (of_decide_eq_true h3)
          · exact .inl (by omega)
        clear HV
        rcases hc with hc | ⟨hks, hc | hc | hc | hc⟩
        all_goals (try (exfalso; omega))
        all_goals first
          | (have HX := Lib.hid (HXQ.out (by rw [at_first hks]; exact hc))
             have hks' : (k : Int) < s.size := by omega
             clear HXF HXQ ho
             go_wp2_with fail
             go_ret3
             exact ⟨congrArg _ (ansV_eq HX.out (by omega)), rfl⟩)
          | skip
        all_goals
          have hx34 : at_ (s.data.toList.drop k) 0 ≠ 34 := by first | (rw [at_first hks]; omega) | (rw [at_none (by omega)]; decide)
          have HX := Lib.hid (HXF.out hx34)
          (try have hks' : (k : Int) < s.size := by omega)
          clear HXF HXQ hx34
          generalize (s.data.toList.drop p).take (k - p) = inner at *
          generalize s.data.toList.drop k = rest at *
          generalize hoi : oddI inner 0 = o at *
          rcases ho with ho | ho
          · subst ho
            have hz := size_mk (rd inner)
            by_cases d1 : 60 < (rd inner).length
            · have HY := Lib.hid (HX.out.trans (fin_long hoi d1))
              have d2 : (60 : Int) < (ByteArray.mk (rd inner).toArray).size := by omega
              clear HX d1 hz
              generalize ByteArray.mk (rd inner).toArray = z at *
              go_wp2_with (first
                | (go_at_call 53; with_reducible refine (HO.out _).mono ?_; rintro r w2 ⟨rfl, rfl⟩)
                | (go_at_call 54; with_reducible refine (HRD.out _).mono ?_; rintro r w2 ⟨rfl, rfl⟩))
              go_ret3
              exact ⟨congrArg _ (ansV_eq HY.out (by omega)), rfl⟩
            · have d2 : ¬ (60 : Int) < (ByteArray.mk (rd inner).toArray).size := by omega
              have HY := Lib.hid (HX.out.trans (fin_ok hoi (by omega) 0 _ false (fun x => by cases x)))
              clear HX d1 hz
              generalize hzz : ByteArray.mk (rd inner).toArray = z at *
              go_wp2_with (first
                | (go_at_call 53; with_reducible refine (HO.out _).mono ?_; rintro r w2 ⟨rfl, rfl⟩)
                | (go_at_call 54; with_reducible refine (HRD.out _).mono ?_; rintro r w2 ⟨rfl, rfl⟩))
              go_ret3
              exact ⟨by rw [← hzz]; exact congrArg _ (ansV_eq HY.out (by omega)), rfl⟩
          · have HY := Lib.hid (HX.out.trans (fin_odd (by omega)))
            rw [hoi] at HY
            have ho1 := ho.1
            have ho2 := ho.2
            clear HX
            go_wp2_with (first
                | (go_at_call 53; with_reducible refine (HO.out _).mono ?_; rintro r w2 ⟨rfl, rfl⟩)
                | (go_at_call 54; with_reducible refine (HRD.out _).mono ?_; rintro r w2 ⟨rfl, rfl⟩))
            go_ret3
            exact ⟨congrArg _ (ansV_eq HY.out (by omega)), rfl⟩
theorem value_any (s : ByteArray) (hs : s.size ≤ 5000) (p : Nat) (hp : p ≤ s.size) (w : World) : Calls Tryz.prog 33 #[.string s, .int .i64 p] w fun r w' => r = .returned (ansV p (val (s.data.toList.drop p))) ∧ w = w' := by
  by_cases h : p < s.size
  · by_cases h0 : (s[p]'h).toNat = 34
    · exact value_quo s hs p h h0 w
    · exact value_pla s hs p hp (fun _ => h0) w
  · exact value_pla s hs p hp (fun x => absurd x h) w
end Go.Proofs.YtndbgdapojkfaaaGreatDoor.Par
