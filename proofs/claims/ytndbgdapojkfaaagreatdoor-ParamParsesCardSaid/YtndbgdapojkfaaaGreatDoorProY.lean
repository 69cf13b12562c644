import Derived.Test.YtndbgdapojkfaaaGreatDoorProX
import Derived.Test.YtndbgdapojkfaaaGreatDoorEro
import Derived.Test.YtndbgdapojkfaaaGreatDoorParEnd

/- Contracts of package param: nameEnd, within, value. -/
set_option linter.unusedVariables false
namespace Go.Proofs.YtndbgdapojkfaaaGreatDoor.Par
open Go.RowKit Go.Deep Go.Proofs.YtndbgdapojkfaaaGreatDoor.Byt Go.Proofs.YtndbgdapojkfaaaGreatDoor.Utf Go.Proofs.YtndbgdapojkfaaaGreatDoor.Tre Go.Proofs.YtndbgdapojkfaaaGreatDoor.Txt Go.Proofs.YtndbgdapojkfaaaGreatDoor.Ero

theorem sgn_up (b : UInt8) : sgn (up b) = (sgn b || sml b) := by
  have hb := b.toNat_lt
  have hu := up_nat b
  unfold sgn sml
  rw [hu]
  by_cases h : 97 ≤ b.toNat ∧ b.toNat ≤ 122
  · rw [if_pos h, decide_eq_true h, Bool.or_true]
    exact decide_eq_true (by omega)
  · rw [if_neg h, decide_eq_false h, Bool.or_false]
set_option maxRecDepth 20000 in
set_option maxHeartbeats 1000000 in
theorem pend_any (s : ByteArray) (hs : s.size ≤ 6000) (p : Nat) (hp : p ≤ s.size) (w : World) : Calls Tryz.prog 49 #[.string s, .int .i64 p] w fun r w' => r = .returned (.int .i64 ((p + pre nsg (s.data.toList.drop p) : Nat) : Int)) ∧ w = w' := by
  obtain ⟨h1, h2, h3⟩ := pre_at nsg p hp _ rfl
  generalize pre nsg (s.data.toList.drop p) = n at *
  obtain ⟨q, hq⟩ : ∃ q, q = p + n := ⟨_, rfl⟩
  rw [← hq] at h1 h3 ⊢
  have hpq : p ≤ q := by omega
  have hgn : p + (q - p) = q := by omega
  rw [← hq] at h2
  clear hq
  have H2 := Lib.hid h2
  have H3 := Lib.hid h3
  have HS := Lib.hid hs
  clear h2 h3
  go_enter Tryz.func49, Tryz.ntmps49
  go_wp2_with fail
  go_loopg [1] (q - p) (fun g v wr => ∃ k : Nat, k + g = q ∧ p ≤ k ∧ v = .int .i64 k ∧ w = wr)
  case atStart => exact ⟨p, hgn, Nat.le_refl _, rfl, rfl⟩
  case round =>
    obtain ⟨k, hkg, hpk, rfl, rfl⟩ := hrel
    cases gk with
    | zero =>
      obtain rfl : k = q := by omega
      by_cases h : k < s.size
      · have h' : (k : Int) < s.size := by omega
        have hn := H3.out h
        unfold nsg at hn
        rw [sgn_up] at hn
        have q1 : sgn (s[k]'h) = false := by rcases hx : sgn (s[k]'h) with _ | _ <;> simp_all
        have q2 : sml (s[k]'h) = false := by rcases hx : sml (s[k]'h) with _ | _ <;> simp_all
        have C1 := Lib.hid (fun W => inname_any (s[k]'h) W)
        have C2 := Lib.hid (fun W => issmall_any (s[k]'h) W)
        rw [q1] at C1
        rw [q2] at C2
        clear hn q1 q2
        go_wp2_with (first
          | (go_at_call 41; with_reducible refine (C1.out _).mono ?_; rintro r w' ⟨rfl, rfl⟩)
          | (go_at_call 66; with_reducible refine (C2.out _).mono ?_; rintro r w' ⟨rfl, rfl⟩))
        go_ret
        exact ⟨rfl, rfl⟩
      · have h' : ¬ (k : Int) < s.size := by omega
        go_wp2_with fail
        go_ret
        exact ⟨rfl, rfl⟩
    | succ g =>
      obtain ⟨h, hn⟩ := H2.out k hpk (by omega)
      have h' : (k : Int) < s.size := by omega
      unfold nsg at hn
      rw [sgn_up] at hn
      have C1 := Lib.hid (fun W => inname_any (s[k]'h) W)
      have C2 := Lib.hid (fun W => issmall_any (s[k]'h) W)
      rcases q1 : sgn (s[k]'h) with _ | _
      · have q2 : sml (s[k]'h) = true := by rcases hx : sml (s[k]'h) with _ | _ <;> simp_all
        rw [q1] at C1
        rw [q2] at C2
        clear hn q1 q2
        go_wp2_with (first
          | (go_at_call 41; with_reducible refine (C1.out _).mono ?_; rintro r w' ⟨rfl, rfl⟩)
          | (go_at_call 66; with_reducible refine (C2.out _).mono ?_; rintro r w' ⟨rfl, rfl⟩))
        go_roundg g
        case measure => omega
        case rel => exact ⟨k + 1, by omega, by omega, by go_num, rfl⟩
      · rw [q1] at C1
        clear hn q1
        go_wp2_with (go_at_call 41; with_reducible refine (C1.out _).mono ?_; rintro r w' ⟨rfl, rfl⟩)
        go_roundg g
        case measure => omega
        case rel => exact ⟨k + 1, by omega, by omega, by go_num, rfl⟩
theorem qs_or (b : UInt8) : qs b = (quo b || stp b) := rfl
theorem at_hit {L : List UInt8} {j : Nat} (h : j < L.length) : at_ L j = L[j].toNat := by
  unfold at_
  rw [List.getD_eq_getElem?_getD, List.getElem?_eq_getElem h]
  rfl
theorem at_out {L : List UInt8} {j : Nat} (h : L.length ≤ j) : at_ L j = 0 := by
  unfold at_
  rw [List.getD_eq_getElem?_getD, List.getElem?_eq_none h]
  rfl
/-- Where a value without quotation marks ends, told in two goes. -/
theorem qs_ways (X : List UInt8) : (ixP quo (X.take (pre stp X)) = -1 ∧ pre qs X = pre stp X ∧ at_ X (pre stp X) ≠ 34) ∨ (∃ j : Nat, j < pre stp X ∧ ixP quo (X.take (pre stp X)) = j ∧ pre qs X = j ∧ at_ X j = 34) := by
  have hm := pre_le stp X
  have hno := pre_none stp X
  have hht := pre_hit stp X
  generalize pre stp X = m at *
  have hl : (X.take m).length = m := by rw [List.length_take]; omega
  have hj := pre_le quo (X.take m)
  have hjn := pre_none quo (X.take m)
  have hjh := pre_hit quo (X.take m)
  unfold ixP
  generalize pre quo (X.take m) = j at *
  rw [hl] at hj
  by_cases hjm : j = m
  · subst hjm
    rw [List.take_take, Nat.min_self] at hjn
    have h1 : ∀ b ∈ X.take j, qs b = false := fun b hb => by rw [qs_or, hjn b hb, hno b hb]; rfl
    have h2 := pre_far hm h1
    left
    refine ⟨if_pos hl.symm, ?_, ?_⟩
    · rw [h2]
      rcases Nat.lt_or_ge j X.length with h3 | h3
      · have h4 := hht h3
        rw [List.drop_eq_getElem_cons h3, pre_stop _ _ _ (by rw [qs_or, h4, Bool.or_true])]
        rfl
      · rw [List.drop_eq_nil_of_le h3]; rfl
    · rcases Nat.lt_or_ge j X.length with h3 | h3
      · have h4 := of_decide_eq_true (hht h3)
        rw [at_hit h3]; omega
      · rw [at_out h3]; decide
  · have hlt : j < m := by omega
    have hjx : j < X.length := by omega
    have h4 := hjh (by omega)
    have hg : (X.take m)[j]'(by omega) = X[j] := List.getElem_take
    rw [hg] at h4
    have h1 : ∀ b ∈ X.take j, qs b = false := fun b hb => by
      rw [List.take_take, Nat.min_eq_left (by omega)] at hjn
      rw [qs_or, hjn b hb, hno b (by
        have : X.take j = (X.take m).take j := by rw [List.take_take, Nat.min_eq_left (by omega)]
        rw [this] at hb
        exact List.mem_of_mem_take hb)]
      rfl
    have h2 := pre_far (f := qs) (L := X) (i := j) (by omega) h1
    rw [List.drop_eq_getElem_cons hjx, pre_stop _ _ _ (by rw [qs_or, h4]; rfl)] at h2
    right
    refine ⟨j, hlt, if_neg (by omega), h2, ?_⟩
    rw [at_hit hjx]
    exact of_decide_eq_true h4
theorem cut_yes {s : ByteArray} {p : Nat} (hp : p < s.size) (h0 : (s[p]'hp).toNat = 34) (W : World) : Calls Tryz.prog 89 #[.string (s.extract p s.size), .string ⟨#[34]⟩] W fun r w' => r = .returned (.tuple #[.string (s.extract (p + 1) s.size), .bool true]) ∧ W = w' := by
  have hc : s[p]'hp = 34 := UInt8.toNat_inj.1 h0
  have hx : (s.extract p s.size).data.toList = 34 :: (s.extract (p + 1) s.size).data.toList := by rw [tail_list', tail_list', drop_at hp, hc]
  have hpf : Lib.hasPrefix (34 :: (s.extract (p + 1) s.size).data.toList) [34] = true := by unfold Lib.hasPrefix; exact List.isPrefixOf_iff_prefix.2 ⟨_, rfl⟩
  refine (shCut (s.extract p s.size) ⟨#[34]⟩ W).mono fun r w' h => ⟨h.1.trans ?_, h.2.symm⟩
  rw [hx]
  show Ending.returned (.tuple #[.string ⟨(Lib.trimPrefix (34 :: (s.extract (p + 1) s.size).data.toList) [34]).toArray⟩, .bool (Lib.hasPrefix (34 :: (s.extract (p + 1) s.size).data.toList) [34])]) = _
  unfold Lib.trimPrefix
  rw [if_pos hpf, hpf]
  show Ending.returned (.tuple #[.string ⟨((s.extract (p + 1) s.size).data.toList).toArray⟩, .bool true]) = _
  rw [mk_list]
theorem cut_no {s : ByteArray} {p : Nat} (h0 : ∀ h : p < s.size, (s[p]'h).toNat ≠ 34) (W : World) : Calls Tryz.prog 89 #[.string (s.extract p s.size), .string ⟨#[34]⟩] W fun r w' => r = .returned (.tuple #[.string (s.extract p s.size), .bool false]) ∧ W = w' := by
  have hpf : Lib.hasPrefix (s.extract p s.size).data.toList [34] = false := by
    rcases h : Lib.hasPrefix (s.extract p s.size).data.toList [34] with _ | _
    · rfl
    · unfold Lib.hasPrefix at h
      obtain ⟨t, ht⟩ := List.isPrefixOf_iff_prefix.1 h
      rw [tail_list'] at ht
      by_cases hp : p < s.size
      · rw [drop_at hp] at ht
        injection ht with e1 e2
        exact absurd (by rw [← e1]; rfl) (h0 hp)
      · rw [List.drop_eq_nil_of_le (by rw [len_list]; omega)] at ht
        cases ht
  refine (shCut (s.extract p s.size) ⟨#[34]⟩ W).mono fun r w' h => ⟨h.1.trans ?_, h.2.symm⟩
  show Ending.returned (.tuple #[.string ⟨(Lib.trimPrefix (s.extract p s.size).data.toList [34]).toArray⟩, .bool (Lib.hasPrefix (s.extract p s.size).data.toList [34])]) = _
  unfold Lib.trimPrefix
  rw [hpf, if_neg (by decide), mk_list]
/-- An error that is made. -/
theorem new_ee (e k : Int) (W : World) : Calls Tryz.prog 48 #[.int .i64 e, .int .i64 k] W fun r w' => ∃ v, r = .returned v ∧ Ee w' e k v ∧ Below W.heap.size W w' := by
  refine (Flt.new_any e k W).mono ?_
  rintro r w' ⟨v, rfl, hE, hb⟩
  exact ⟨v, rfl, Ee.of_new hE, hb⟩
set_option maxRecDepth 20000 in
theorem within_cut (s : ByteArray) (hs : s.size ≤ 5000) (p : Nat) (hp : p < s.size) (h0 : (s[p]'hp).toNat = 34) (hn : pre quo (s.data.toList.drop (p + 1)) = (s.data.toList.drop (p + 1)).length) (w : World) :
    Calls Tryz.prog 80 #[.string s, .int .i64 p] w fun r w' => ∃ ev, r = .returned (.tuple #[.int .i64 0, .int .i64 0, ev]) ∧ Ee w' 3 s.size ev ∧ Below w.heap.size w w' := by
  have hx : Lib.indexByte (s.extract (p + 1) s.size).data.toList 34 = -1 := by rw [tail_list', quo_ib, ixP, if_pos hn]
  have HI := Lib.hid (fun W => (shIndex1 (s.extract (p + 1) s.size) 34 W).mono fun r w' h => (⟨h.1.trans (by rw [hx]), h.2.symm⟩ : r = .returned (.int .i64 (-1)) ∧ W = w'))
  have HC := Lib.hid (fun W => cut_yes hp h0 W)
  have HE := Lib.hid (fun e k W => new_ee e k W)
  have hp' : (p : Int) < s.size := by omega
  clear hn hx h0
  go_enter Tryz.func80, Tryz.ntmps80
  go_wp2_with (first
    | (go_at_call 89; with_reducible refine (HC.out _).mono ?_; rintro r w' ⟨rfl, rfl⟩)
    | (go_at_call 87; with_reducible refine (HI.out _).mono ?_; rintro r w' ⟨rfl, rfl⟩)
    | (go_at_call 48; with_reducible refine (HE.out _ _ _).mono ?_; rintro r w1 ⟨v1, rfl, hE, hb⟩; have E1 := Lib.hid hE; have B1 := Lib.hid hb; clear hE hb))
  go_ret3
  exact ⟨_, rfl, E1.out, B1.out⟩
set_option maxRecDepth 20000 in
theorem within_quo (s : ByteArray) (hs : s.size ≤ 5000) (p : Nat) (hp : p < s.size) (h0 : (s[p]'hp).toNat = 34) (n : Nat) (hn : pre quo (s.data.toList.drop (p + 1)) = n) (hlt : n < (s.data.toList.drop (p + 1)).length) (w : World) :
    Calls Tryz.prog 80 #[.string s, .int .i64 p] w fun r w' => r = .returned (.tuple #[.int .i64 ((p : Int) + 1), .int .i64 ((p : Int) + 1 + n), .nilIface]) ∧ w = w' := by
  have hx : Lib.indexByte (s.extract (p + 1) s.size).data.toList 34 = n := by rw [tail_list', quo_ib, ixP, if_neg (by omega), hn]
  have HI := Lib.hid (fun W => (shIndex1 (s.extract (p + 1) s.size) 34 W).mono fun r w' h => (⟨h.1.trans (by rw [hx]), h.2.symm⟩ : r = .returned (.int .i64 n) ∧ W = w'))
  have HC := Lib.hid (fun W => cut_yes hp h0 W)
  have hp' : (p : Int) < s.size := by omega
  have hn' : (n : Int) ≤ 5000 := by rw [List.length_drop, len_list] at hlt; omega
  clear hn hx h0 hlt
  go_enter Tryz.func80, Tryz.ntmps80
  go_wp2_with (first
    | (go_at_call 89; with_reducible refine (HC.out _).mono ?_; rintro r w' ⟨rfl, rfl⟩)
    | (go_at_call 87; with_reducible refine (HI.out _).mono ?_; rintro r w' ⟨rfl, rfl⟩))
  go_ret3
  exact ⟨rfl, rfl⟩
set_option maxRecDepth 20000 in
set_option maxHeartbeats 1000000 in
theorem within_bad (s : ByteArray) (hs : s.size ≤ 5000) (p : Nat) (hp : p ≤ s.size) (h0 : ∀ h : p < s.size, (s[p]'h).toNat ≠ 34) (j : Nat) (hj : j < pre stp (s.data.toList.drop p)) (hx : ixP quo ((s.data.toList.drop p).take (pre stp (s.data.toList.drop p))) = j) (w : World) :
    Calls Tryz.prog 80 #[.string s, .int .i64 p] w fun r w' => ∃ ev, r = .returned (.tuple #[.int .i64 0, .int .i64 0, ev]) ∧ Ee w' 4 ((p : Int) + j) ev ∧ Below w.heap.size w w' := by
  have HC := Lib.hid (fun W => cut_no h0 W)
  have hA := fun W => idxany_any (s.extract p s.size) (by rw [ByteArray.size_extract]; omega) W
  simp only [tail_list'] at hA
  have hm := pre_le stp (s.data.toList.drop p)
  have hlen : (s.data.toList.drop p).length = s.size - p := by rw [List.length_drop, len_list]
  have hI : Hid (∀ W, Calls Tryz.prog 87 #[.string (s.extract p (p + pre stp (s.data.toList.drop p))), .string ⟨#[34]⟩] W fun r w' => r = .returned (.int .i64 j) ∧ W = w') := Lib.hid (fun W => (shIndex1 _ 34 W).mono fun r w' h => ⟨h.1.trans (by rw [mid_list, Nat.add_sub_cancel_left, quo_ib, hx]), h.2.symm⟩)
  have hz : ixP stp (s.data.toList.drop p) = if pre stp (s.data.toList.drop p) = (s.data.toList.drop p).length then -1 else (pre stp (s.data.toList.drop p) : Int) := rfl
  rw [hlen] at hz hm
  generalize pre stp (s.data.toList.drop p) = m at *
  have HE := Lib.hid (fun e k W => new_ee e k W)
  have HB := Lib.hid (Bl.refl w)
  have hp' : (p : Int) ≤ s.size := by omega
  have hpm : (p : Int) ≤ (p : Int) + m := by omega
  have hpm2 : (p : Int) + m ≤ s.size := by omega
  have hj' : (j : Int) ≤ 5000 := by omega
  by_cases hc : m = s.size - p
  · rw [if_pos hc] at hz
    have e : p + m = s.size := by omega
    rw [hz] at hA
    rw [e] at hI
    have HA := Lib.hid hA
    clear hA hz hx h0 hj hm hlen hc e hpm hpm2
    go_enter Tryz.func80, Tryz.ntmps80
    go_wp2_with (first
      | (go_at_call 89; with_reducible refine (HC.out _).mono ?_; rintro r w' ⟨rfl, rfl⟩)
      | (go_at_call 84; with_reducible refine (HA.out _).mono ?_; rintro r w1 ⟨rfl, hb⟩; have B1 := Lib.hid (HB.out.call hb); clear hb)
      | (go_at_call 87; with_reducible refine (hI.out _).mono ?_; rintro r w' ⟨rfl, rfl⟩)
      | (go_at_call 48; with_reducible refine (HE.out _ _ _).mono ?_; rintro r w2 ⟨v1, rfl, hE, hb⟩; have E1 := Lib.hid hE; have B2 := Lib.hid (B1.out.call hb); clear hE hb))
    go_ret3
    exact ⟨_, rfl, E1.out, B2.out.below⟩
  · rw [if_neg hc] at hz
    rw [hz] at hA
    have HA := Lib.hid hA
    clear hA hz hx h0 hj hm hlen hc
    go_enter Tryz.func80, Tryz.ntmps80
    go_wp2_with (first
      | (go_at_call 89; with_reducible refine (HC.out _).mono ?_; rintro r w' ⟨rfl, rfl⟩)
      | (go_at_call 84; with_reducible refine (HA.out _).mono ?_; rintro r w1 ⟨rfl, hb⟩; have B1 := Lib.hid (HB.out.call hb); clear hb)
      | (go_at_call 87; with_reducible refine (hI.out _).mono ?_; rintro r w' ⟨rfl, rfl⟩)
      | (go_at_call 48; with_reducible refine (HE.out _ _ _).mono ?_; rintro r w2 ⟨v1, rfl, hE, hb⟩; have E1 := Lib.hid hE; have B2 := Lib.hid (B1.out.call hb); clear hE hb))
    go_ret3
    exact ⟨_, rfl, E1.out, B2.out.below⟩
set_option maxRecDepth 20000 in
set_option maxHeartbeats 1000000 in
theorem within_pla (s : ByteArray) (hs : s.size ≤ 5000) (p : Nat) (hp : p ≤ s.size) (h0 : ∀ h : p < s.size, (s[p]'h).toNat ≠ 34) (hx : ixP quo ((s.data.toList.drop p).take (pre stp (s.data.toList.drop p))) = -1) (w : World) :
    Calls Tryz.prog 80 #[.string s, .int .i64 p] w fun r w' => r = .returned (.tuple #[.int .i64 p, .int .i64 ((p + pre stp (s.data.toList.drop p) : Nat) : Int), .nilIface]) ∧ Below w.heap.size w w' := by
  have HC := Lib.hid (fun W => cut_no h0 W)
  have hA := fun W => idxany_any (s.extract p s.size) (by rw [ByteArray.size_extract]; omega) W
  simp only [tail_list'] at hA
  have hm := pre_le stp (s.data.toList.drop p)
  have hlen : (s.data.toList.drop p).length = s.size - p := by rw [List.length_drop, len_list]
  have hI : Hid (∀ W, Calls Tryz.prog 87 #[.string (s.extract p (p + pre stp (s.data.toList.drop p))), .string ⟨#[34]⟩] W fun r w' => r = .returned (.int .i64 (-1)) ∧ W = w') := Lib.hid (fun W => (shIndex1 _ 34 W).mono fun r w' h => ⟨h.1.trans (by rw [mid_list, Nat.add_sub_cancel_left, quo_ib, hx]), h.2.symm⟩)
  have hz : ixP stp (s.data.toList.drop p) = if pre stp (s.data.toList.drop p) = (s.data.toList.drop p).length then -1 else (pre stp (s.data.toList.drop p) : Int) := rfl
  rw [hlen] at hz hm
  generalize pre stp (s.data.toList.drop p) = m at *
  have HB := Lib.hid (Bl.refl w)
  have hp' : (p : Int) ≤ s.size := by omega
  have hpm : (p : Int) ≤ (p : Int) + m := by omega
  have hpm2 : (p : Int) + m ≤ s.size := by omega
  by_cases hc : m = s.size - p
  · rw [if_pos hc] at hz
    have e : p + m = s.size := by omega
    rw [hz] at hA
    rw [e] at hI ⊢
    have HA := Lib.hid hA
    clear hA hz hx h0 hm hlen hc e hpm hpm2
    go_enter Tryz.func80, Tryz.ntmps80
    go_wp2_with (first
      | (go_at_call 89; with_reducible refine (HC.out _).mono ?_; rintro r w' ⟨rfl, rfl⟩)
      | (go_at_call 84; with_reducible refine (HA.out _).mono ?_; rintro r w1 ⟨rfl, hb⟩; have B1 := Lib.hid (HB.out.call hb); clear hb)
      | (go_at_call 87; with_reducible refine (hI.out _).mono ?_; rintro r w' ⟨rfl, rfl⟩))
    go_ret3
    exact ⟨rfl, B1.out.below⟩
  · rw [if_neg hc] at hz
    rw [hz] at hA
    have HA := Lib.hid hA
    clear hA hz hx h0 hm hlen hc
    go_enter Tryz.func80, Tryz.ntmps80
    go_wp2_with (first
      | (go_at_call 89; with_reducible refine (HC.out _).mono ?_; rintro r w' ⟨rfl, rfl⟩)
      | (go_at_call 84; with_reducible refine (HA.out _).mono ?_; rintro r w1 ⟨rfl, hb⟩; have B1 := Lib.hid (HB.out.call hb); clear hb)
      | (go_at_call 87; with_reducible refine (hI.out _).mono ?_; rintro r w' ⟨rfl, rfl⟩))
    go_ret3
    exact ⟨rfl, B1.out.below⟩
end Go.Proofs.YtndbgdapojkfaaaGreatDoor.Par

/- Contracts of package param: value. -/
set_option linter.unusedVariables false
namespace Go.Proofs.YtndbgdapojkfaaaGreatDoor.Par
open Go.RowKit Go.Deep Go.Proofs.YtndbgdapojkfaaaGreatDoor.Byt Go.Proofs.YtndbgdapojkfaaaGreatDoor.Utf Go.Proofs.YtndbgdapojkfaaaGreatDoor.Tre Go.Proofs.YtndbgdapojkfaaaGreatDoor.Txt Go.Proofs.YtndbgdapojkfaaaGreatDoor.Ero

/-- What value answers. -/
def PVal (w : World) (p : Nat) (x : List UInt8 × Nat × Int) (r : Ending) (w' : World) : Prop := ∃ ev, r = .returned (.tuple #[.string ⟨x.1.toArray⟩, .int .i64 (if x.2.2 = 0 then ((p + x.2.1 : Nat) : Int) else 0), ev]) ∧ Ee w' x.2.2 ((p : Int) + x.2.1) ev ∧ Below w.heap.size w w'
theorem pval_no {w w' : World} {p m : Nat} {e : Int} {x : List UInt8 × Nat × Int} {ev : Value} {k : Int} (hx : x = ([], m, e)) (he : e ≠ 0) (hk : k = (p : Int) + m) (hE : Ee w' e k ev) (hb : Below w.heap.size w w') : PVal w p x (.returned (.tuple #[.string ⟨#[]⟩, .int .i64 0, ev])) w' := by
  subst hx hk
  refine ⟨ev, ?_, hE, hb⟩
  show _ = Ending.returned (.tuple #[.string ⟨#[]⟩, .int .i64 (if e = 0 then _ else 0), ev])
  rw [if_neg he]
theorem pval_ok {w w' : World} {p m : Nat} {v : List UInt8} {x : List UInt8 × Nat × Int} {k : Int} {y : ByteArray} (hx : x = (v, m, 0)) (hk : k = (p : Int) + m) (hy : y = ⟨v.toArray⟩) (hb : Below w.heap.size w w') : PVal w p x (.returned (.tuple #[.string y, .int .i64 k, .nilIface])) w' := by
  subst hx hy hk
  refine ⟨_, ?_, Ee.none _ _, hb⟩
  show _ = Ending.returned (.tuple #[.string ⟨v.toArray⟩, .int .i64 (if (0 : Int) = 0 then ((p + m : Nat) : Int) else 0), .nilIface])
  rw [if_pos rfl]
  congr 1
theorem has_at {s : ByteArray} {q : Nat} (h : q < s.size) (W : World) : Calls Tryz.prog 82 #[.string ⟨#[44, 58, 59]⟩, .string (s.extract q (q + 1))] W fun r w' => r = .returned (.bool (stp (s[q]'h))) ∧ W = w' := by
  have e : s.extract q (q + 1) = ⟨#[s[q]'h]⟩ := by rw [← mk_list (s.extract q (q + 1)), one_at h]
  rw [e, ← ends_ib]
  exact (shHas1 ⟨#[44, 58, 59]⟩ (s[q]'h) W).mono fun r w' x => ⟨x.1, x.2.symm⟩
/-- What is asked of the text of a value, of the program's. -/
theorem pinner (y : ByteArray) (hs : y.size ≤ 6000) (inner : List UInt8) (hy : y.data.toList = inner) :
    Hid (∀ W, Calls Tryz.prog 64 #[.string y] W fun r w' => r = .returned (.int .i64 (oddI inner 0)) ∧ Below W.heap.size W w') ∧
    Hid (∀ W, Calls Tryz.prog 81 #[.string y] W fun r w' => r = .returned (.string ⟨(rd inner).toArray⟩) ∧ Below W.heap.size W w') ∧ (oddI inner 0 = -1 ∨ (0 ≤ oddI inner 0 ∧ oddI inner 0 < 6000)) := by
  subst hy
  refine ⟨Lib.hid fun W => odd_far y hs W, Lib.hid fun W => pread_any y hs W, ?_⟩
  have := oddI_ge y.data.toList 0 (by omega)
  rw [len_list] at this
  omega
set_option maxRecDepth 20000 in
set_option maxHeartbeats 1000000 in
theorem pvalue_quo (s : ByteArray) (hs : s.size ≤ 5000) (p : Nat) (hp : p < s.size) (h0 : (s[p]'hp).toNat = 34) (w : World) : Calls Tryz.prog 68 #[.string s, .int .i64 p] w (PVal w p (val (s.data.toList.drop p))) := by
  have hX : at_ (s.data.toList.drop p) 0 = 34 := by rw [at_first hp]; exact h0
  have hT : (s.data.toList.drop p).tail = s.data.toList.drop (p + 1) := by rw [drop_at hp]; rfl
  have hV := val_q hX
  rw [hT] at hV
  have hl1 : (s.data.toList.drop p).length = s.size - p := by rw [List.length_drop, len_list]
  have hl2 : (s.data.toList.drop (p + 1)).length = s.size - (p + 1) := by rw [List.length_drop, len_list]
  have hle := pre_le quo (s.data.toList.drop (p + 1))
  have HE := Lib.hid (fun e k W => new_ee e k W)
  have HB := Lib.hid (Bl.refl w)
  have hp' : (p : Int) < s.size := by omega
  by_cases hn : pre quo (s.data.toList.drop (p + 1)) = (s.data.toList.drop (p + 1)).length
  · rw [if_pos hn, hl1] at hV
    have HW := Lib.hid (within_cut s hs p hp h0 hn w)
    have HV := Lib.hid hV
    have HZ := Lib.hid (show (s.size : Int) = (p : Int) + ((s.size - p : Nat) : Int) by omega)
    clear hV hT hX h0 hl1 hl2 hle hn
    go_enter Tryz.func68, Tryz.ntmps68
    go_wp2_with fail
    refine (HW.out).mono ?_
    rintro r w1 ⟨ev, rfl, hE, hb⟩
    have E1 := Lib.hid hE
    have B1 := Lib.hid hb
    have e1 : ∀ W, (binOp .neq 25 ev .nilIface).run Tryz.prog W = .ok (.bool true) W := fun W => hE.neq W
    have e2 := fun o W => hE.asks o W
    clear hE hb
    go_wp2_with fail
    go_ret3
    exact pval_no HV.out (by decide) HZ.out E1.out B1.out
  · rw [if_neg hn] at hV
    obtain ⟨n, hnn⟩ : ∃ n, pre quo (s.data.toList.drop (p + 1)) = n := ⟨_, rfl⟩
    have HW := Lib.hid (within_quo s hs p hp h0 n hnn (by omega) w)
    rw [hnn] at hV hn hle
    have hy : (s.extract (p + 1) (p + 1 + n)).data.toList = (s.data.toList.drop (p + 1)).take n := by rw [mid_list, Nat.add_sub_cancel_left]
    obtain ⟨HO, HR, hodd⟩ := pinner (s.extract (p + 1) (p + 1 + n)) (by rw [ByteArray.size_extract]; omega) _ hy
    have hst := stpH_at (s := s) (p + 1 + n + 1)
    rw [List.drop_drop, show p + 1 + (n + 1) = p + 1 + n + 1 by omega] at hV
    have c1 : (0 : Int) ≤ (p : Int) + 1 := by omega
    have c2 : (p : Int) + 1 ≤ (p : Int) + 1 + n := by omega
    have c3 : (p : Int) + 1 + n ≤ s.size := by omega
    have c4 : (p : Int) + 1 + n + 1 ≤ s.size := by omega
    generalize (s.data.toList.drop (p + 1)).take n = inner at *
    clear hT hX h0 hl1 hl2 hle hn hnn hy
    rcases hodd with ho | ⟨ho, ho2⟩
    · rw [ho] at HO
      by_cases hlong : 60 < (rd inner).length
      · rw [fin_long ho hlong] at hV
        have HV := Lib.hid hV
        have hz := size_mk (rd inner)
        have hl : (60 : Int) < (ByteArray.mk (rd inner).toArray).size := by omega
        have HK := Lib.hid (show (p : Int) = (p : Int) + ((0 : Nat) : Int) by omega)
        clear hV ho hlong hz hst
        generalize ByteArray.mk (rd inner).toArray = v at *
        go_enter Tryz.func68, Tryz.ntmps68
        go_wp2_with (first
          | (go_at_call 80; with_reducible refine (HW.out).mono ?_; rintro r w' ⟨rfl, rfl⟩)
          | (go_at_call 64; with_reducible refine (HO.out _).mono ?_; rintro r w1 ⟨rfl, hb⟩; have B1 := Lib.hid (HB.out.call hb); clear hb)
          | (go_at_call 81; with_reducible refine (HR.out _).mono ?_; rintro r w2 ⟨rfl, hb⟩; have B2 := Lib.hid (B1.out.call hb); clear hb)
          | (go_at_call 48; with_reducible refine (HE.out _ _ _).mono ?_; rintro r w3 ⟨ev, rfl, hE, hb⟩; have E1 := Lib.hid hE; have B3 := Lib.hid (B2.out.call hb); clear hE hb))
        go_ret3
        exact pval_no HV.out (by decide) HK.out E1.out B3.out.below
      · have hz := size_mk (rd inner)
        have hl : ¬ (60 : Int) < (ByteArray.mk (rd inner).toArray).size := by omega
        have t1 : (((p : Int) + 1) == (p : Int)) = false := by rw [beq_eq_false_iff_ne]; omega
        obtain ⟨q, hq⟩ : ∃ q, q = p + 1 + n + 1 := ⟨_, rfl⟩
        have hq2 : (p : Int) + 1 + n + 1 = q := by omega
        have HK := Lib.hid (show (q : Int) = (p : Int) + ((n + 2 : Nat) : Int) by omega)
        rw [← hq] at hst hV
        by_cases hqs : q < s.size
        · have hqs' : (q : Int) < s.size := by omega
          have hq1 : (q : Int) ≤ (q : Int) + 1 := by omega
          have hq3 : (q : Int) + 1 ≤ s.size := by omega
          have hq0 : (0 : Int) ≤ q := by omega
          have hH := fun W => has_at hqs W
          rw [dif_pos hqs] at hst
          rcases hb : stp (s[q]'hqs) with _ | _
          · rw [hb] at hst hH
            rw [fin_form ho hlong hst] at hV
            have HV := Lib.hid hV
            have HH := Lib.hid hH
            clear hV ho hlong hz hst hb hH hq
            generalize ByteArray.mk (rd inner).toArray = v at *
            go_enter Tryz.func68, Tryz.ntmps68
            go_wp2_with (first
              | (go_at_call 80; with_reducible refine (HW.out).mono ?_; rintro r w' ⟨rfl, rfl⟩)
              | (go_at_call 64; with_reducible refine (HO.out _).mono ?_; rintro r w1 ⟨rfl, hb⟩; have B1 := Lib.hid (HB.out.call hb); clear hb)
              | (go_at_call 81; with_reducible refine (HR.out _).mono ?_; rintro r w2 ⟨rfl, hb⟩; have B2 := Lib.hid (B1.out.call hb); clear hb)
              | (go_at_call 82; with_reducible refine (HH.out _).mono ?_; rintro r w' ⟨rfl, rfl⟩)
              | (go_at_call 48; with_reducible refine (HE.out _ _ _).mono ?_; rintro r w3 ⟨ev, rfl, hE, hb⟩; have E1 := Lib.hid hE; have B3 := Lib.hid (B2.out.call hb); clear hE hb))
            go_ret3
            exact pval_no HV.out (by decide) HK.out E1.out B3.out.below
          · rw [hb] at hst hH
            rw [show fin inner 1 (n + 2) true (s.data.toList.drop q) = (rd inner, n + 2, 0) by unfold fin; rw [if_neg (by omega), if_neg hlong, if_neg (by rw [hst]; simp)]] at hV
            have HV := Lib.hid hV
            have HH := Lib.hid hH
            clear hV ho hlong hz hst hb hH hq
            generalize hvv : ByteArray.mk (rd inner).toArray = v at *
            have HY := Lib.hid hvv.symm
            clear hvv
            go_enter Tryz.func68, Tryz.ntmps68
            go_wp2_with (first
              | (go_at_call 80; with_reducible refine (HW.out).mono ?_; rintro r w' ⟨rfl, rfl⟩)
              | (go_at_call 64; with_reducible refine (HO.out _).mono ?_; rintro r w1 ⟨rfl, hb⟩; have B1 := Lib.hid (HB.out.call hb); clear hb)
              | (go_at_call 81; with_reducible refine (HR.out _).mono ?_; rintro r w2 ⟨rfl, hb⟩; have B2 := Lib.hid (B1.out.call hb); clear hb)
              | (go_at_call 82; with_reducible refine (HH.out _).mono ?_; rintro r w' ⟨rfl, rfl⟩))
            go_ret3
            exact pval_ok HV.out (by first | rfl | exact HK.out) HY.out B2.out.below
        · have hqs' : ¬ (q : Int) < s.size := by omega
          rw [dif_neg hqs] at hst
          rw [show fin inner 1 (n + 2) true (s.data.toList.drop q) = (rd inner, n + 2, 0) by unfold fin; rw [if_neg (by omega), if_neg hlong, if_neg (by rw [hst]; simp)]] at hV
          have HV := Lib.hid hV
          clear hV ho hlong hz hst hq
          generalize hvv : ByteArray.mk (rd inner).toArray = v at *
          have HY := Lib.hid hvv.symm
          clear hvv
          go_enter Tryz.func68, Tryz.ntmps68
          go_wp2_with (first
            | (go_at_call 80; with_reducible refine (HW.out).mono ?_; rintro r w' ⟨rfl, rfl⟩)
            | (go_at_call 64; with_reducible refine (HO.out _).mono ?_; rintro r w1 ⟨rfl, hb⟩; have B1 := Lib.hid (HB.out.call hb); clear hb)
            | (go_at_call 81; with_reducible refine (HR.out _).mono ?_; rintro r w2 ⟨rfl, hb⟩; have B2 := Lib.hid (B1.out.call hb); clear hb))
          go_ret3
          exact pval_ok HV.out (by first | rfl | exact HK.out) HY.out B2.out.below
    · rw [fin_odd (by omega)] at hV
      have HK := Lib.hid (show (p : Int) + 1 + oddI inner 0 = (p : Int) + ((1 + (oddI inner 0).toNat : Nat) : Int) by omega)
      have HV := Lib.hid hV
      clear hV hst
      generalize oddI inner 0 = z at *
      go_enter Tryz.func68, Tryz.ntmps68
      go_wp2_with (first
        | (go_at_call 80; with_reducible refine (HW.out).mono ?_; rintro r w' ⟨rfl, rfl⟩)
        | (go_at_call 64; with_reducible refine (HO.out _).mono ?_; rintro r w1 ⟨rfl, hb⟩; have B1 := Lib.hid (HB.out.call hb); clear hb)
        | (go_at_call 48; with_reducible refine (HE.out _ _ _).mono ?_; rintro r w3 ⟨ev, rfl, hE, hb⟩; have E1 := Lib.hid hE; have B3 := Lib.hid (B1.out.call hb); clear hE hb))
      go_ret3
      exact pval_no HV.out (by decide) HK.out E1.out B3.out.below
set_option maxRecDepth 20000 in
set_option maxHeartbeats 1000000 in
theorem pvalue_pla (s : ByteArray) (hs : s.size ≤ 5000) (p : Nat) (hp : p ≤ s.size) (h0 : ∀ h : p < s.size, (s[p]'h).toNat ≠ 34) (w : World) : Calls Tryz.prog 68 #[.string s, .int .i64 p] w (PVal w p (val (s.data.toList.drop p))) := by
  have hX : at_ (s.data.toList.drop p) 0 ≠ 34 := by
    by_cases h : p < s.size
    · rw [at_first h]; exact h0 h
    · rw [at_none h]; decide
  have hV := val_p hX
  have HE := Lib.hid (fun e k W => new_ee e k W)
  have HB := Lib.hid (Bl.refl w)
  have hp' : (p : Int) ≤ s.size := by omega
  have hm := pre_le stp (s.data.toList.drop p)
  rw [List.length_drop, len_list] at hm
  rcases qs_ways (s.data.toList.drop p) with ⟨a1, a2, a3⟩ | ⟨j, a1, a2, a3, a4⟩
  · have HW := Lib.hid (within_pla s hs p hp h0 a1 w)
    rw [a2, if_neg a3] at hV
    generalize pre stp (s.data.toList.drop p) = n at *
    have hy : (s.extract p (p + n)).data.toList = (s.data.toList.drop p).take n := by rw [mid_list, Nat.add_sub_cancel_left]
    obtain ⟨HO, HR, hodd⟩ := pinner (s.extract p (p + n)) (by rw [ByteArray.size_extract]; omega) _ hy
    have c2 : (p : Int) ≤ (p : Int) + n := by omega
    have c3 : (p : Int) + n ≤ s.size := by omega
    generalize (s.data.toList.drop p).take n = inner at *
    clear hX h0 hy a1 a2 a3
    rcases hodd with ho | ⟨ho, ho2⟩
    · rw [ho] at HO
      by_cases hlong : 60 < (rd inner).length
      · rw [fin_long ho hlong] at hV
        have HV := Lib.hid hV
        have hz := size_mk (rd inner)
        have hl : (60 : Int) < (ByteArray.mk (rd inner).toArray).size := by omega
        have HK := Lib.hid (show (p : Int) = (p : Int) + ((0 : Nat) : Int) by omega)
        clear hV ho hlong hz
        generalize ByteArray.mk (rd inner).toArray = v at *
        go_enter Tryz.func68, Tryz.ntmps68
        go_wp2_with (first
          | (go_at_call 80; with_reducible refine (HW.out).mono ?_; rintro r w0 ⟨rfl, hb⟩; have B0 := Lib.hid (HB.out.call hb); clear hb)
          | (go_at_call 64; with_reducible refine (HO.out _).mono ?_; rintro r w1 ⟨rfl, hb⟩; have B1 := Lib.hid (B0.out.call hb); clear hb)
          | (go_at_call 81; with_reducible refine (HR.out _).mono ?_; rintro r w2 ⟨rfl, hb⟩; have B2 := Lib.hid (B1.out.call hb); clear hb)
          | (go_at_call 48; with_reducible refine (HE.out _ _ _).mono ?_; rintro r w3 ⟨ev, rfl, hE, hb⟩; have E1 := Lib.hid hE; have B3 := Lib.hid (B2.out.call hb); clear hE hb))
        go_ret3
        exact pval_no HV.out (by decide) HK.out E1.out B3.out.below
      · rw [show fin inner 0 n false (s.data.toList.drop p |>.drop n) = (rd inner, n, 0) by unfold fin; rw [if_neg (by omega), if_neg hlong, if_neg (by simp)]] at hV
        have HV := Lib.hid hV
        have hz := size_mk (rd inner)
        have hl : ¬ (60 : Int) < (ByteArray.mk (rd inner).toArray).size := by omega
        have t1 : ((p : Int) == (p : Int)) = true := by simp
        have HK := Lib.hid (show (p : Int) + n = (p : Int) + ((n : Nat) : Int) from rfl)
        clear hV ho hlong hz
        generalize hvv : ByteArray.mk (rd inner).toArray = v at *
        have HY := Lib.hid hvv.symm
        clear hvv
        go_enter Tryz.func68, Tryz.ntmps68
        go_wp2_with (first
          | (go_at_call 80; with_reducible refine (HW.out).mono ?_; rintro r w0 ⟨rfl, hb⟩; have B0 := Lib.hid (HB.out.call hb); clear hb)
          | (go_at_call 64; with_reducible refine (HO.out _).mono ?_; rintro r w1 ⟨rfl, hb⟩; have B1 := Lib.hid (B0.out.call hb); clear hb)
          | (go_at_call 81; with_reducible refine (HR.out _).mono ?_; rintro r w2 ⟨rfl, hb⟩; have B2 := Lib.hid (B1.out.call hb); clear hb))
        go_ret3
        exact pval_ok HV.out (by first | rfl | exact HK.out) HY.out B2.out.below
    · rw [fin_odd (by omega)] at hV
      have HK := Lib.hid (show (p : Int) + oddI inner 0 = (p : Int) + ((0 + (oddI inner 0).toNat : Nat) : Int) by omega)
      have HV := Lib.hid hV
      clear hV
      generalize oddI inner 0 = z at *
      go_enter Tryz.func68, Tryz.ntmps68
      go_wp2_with (first
        | (go_at_call 80; with_reducible refine (HW.out).mono ?_; rintro r w0 ⟨rfl, hb⟩; have B0 := Lib.hid (HB.out.call hb); clear hb)
        | (go_at_call 64; with_reducible refine (HO.out _).mono ?_; rintro r w1 ⟨rfl, hb⟩; have B1 := Lib.hid (B0.out.call hb); clear hb)
        | (go_at_call 48; with_reducible refine (HE.out _ _ _).mono ?_; rintro r w3 ⟨ev, rfl, hE, hb⟩; have E1 := Lib.hid hE; have B3 := Lib.hid (B1.out.call hb); clear hE hb))
      go_ret3
      exact pval_no HV.out (by decide) HK.out E1.out B3.out.below
  · have HW := Lib.hid (within_bad s hs p hp h0 j a1 a2 w)
    rw [a3, if_pos a4] at hV
    have HV := Lib.hid hV
    clear hV hX h0 a1 a2 a3 a4 hm
    go_enter Tryz.func68, Tryz.ntmps68
    go_wp2_with fail
    refine (HW.out).mono ?_
    rintro r w1 ⟨ev, rfl, hE, hb⟩
    have E1 := Lib.hid hE
    have B1 := Lib.hid hb
    have e1 : ∀ W, (binOp .neq 25 ev .nilIface).run Tryz.prog W = .ok (.bool true) W := fun W => hE.neq W
    have e2 := fun o W => hE.asks o W
    clear hE hb
    go_wp2_with fail
    go_ret3
    exact pval_no HV.out (by decide) rfl E1.out B1.out
theorem pvalue_any (s : ByteArray) (hs : s.size ≤ 5000) (p : Nat) (hp : p ≤ s.size) (w : World) : Calls Tryz.prog 68 #[.string s, .int .i64 p] w (PVal w p (val (s.data.toList.drop p))) := by
  by_cases h : ∃ h : p < s.size, (s[p]'h).toNat = 34
  · obtain ⟨h1, h2⟩ := h
    exact pvalue_quo s hs p h1 h2 w
  · exact pvalue_pla s hs p hp (fun h1 h2 => h ⟨h1, h2⟩) w
end Go.Proofs.YtndbgdapojkfaaaGreatDoor.Par

/- Contracts of package param: values, next. -/
set_option linter.unusedVariables false
namespace Go.Proofs.YtndbgdapojkfaaaGreatDoor.Par
open Go.RowKit Go.Deep Go.Proofs.YtndbgdapojkfaaaGreatDoor.Byt Go.Proofs.YtndbgdapojkfaaaGreatDoor.Utf Go.Proofs.YtndbgdapojkfaaaGreatDoor.Tre Go.Proofs.YtndbgdapojkfaaaGreatDoor.Txt Go.Proofs.YtndbgdapojkfaaaGreatDoor.Ero

theorem val_ok {s : ByteArray} (hs : s.size ≤ 5000) {q : Nat} (hq : q ≤ s.size) {v : List UInt8} {m : Nat} (h : val (s.data.toList.drop q) = (v, m, 0)) (w : World) : Calls Tryz.prog 68 #[.string s, .int .i64 q] w fun r w' => r = .returned (.tuple #[.string ⟨v.toArray⟩, .int .i64 ((q + m : Nat) : Int), .nilIface]) ∧ Below w.heap.size w w' := by
  have hp := pvalue_any s hs q hq w
  rw [h] at hp
  refine hp.mono ?_
  rintro r w' ⟨ev, rfl, h1, h2⟩
  obtain rfl := Ee.nil h1
  exact ⟨rfl, h2⟩
theorem val_er {s : ByteArray} (hs : s.size ≤ 5000) {q : Nat} (hq : q ≤ s.size) {v : List UInt8} {m : Nat} {e : Int} (h : val (s.data.toList.drop q) = (v, m, e)) (he : e ≠ 0) (w : World) : Calls Tryz.prog 68 #[.string s, .int .i64 q] w fun r w' => ∃ ev, r = .returned (.tuple #[.string ⟨v.toArray⟩, .int .i64 0, ev]) ∧ Ee w' e ((q : Int) + m) ev ∧ Below w.heap.size w w' := by
  have hp := pvalue_any s hs q hq w
  rw [h] at hp
  refine hp.mono ?_
  rintro r w' ⟨ev, rfl, h1, h2⟩
  refine ⟨ev, ?_, h1, h2⟩
  dsimp only
  rw [if_neg he]
theorem pre1 (c : UInt8) (hc : c.toNat ≠ 0) (L : List UInt8) : Lib.hasPrefix L [c] = decide (at_ L 0 = c.toNat) := by
  unfold Lib.hasPrefix
  cases L with
  | nil =>
    have : ¬ at_ [] 0 = c.toNat := fun e => hc e.symm
    rw [decide_eq_false this]; rfl
  | cons b t =>
    show ((c == b) && ([] : List UInt8).isPrefixOf t) = decide (b.toNat = c.toNat)
    rw [show ([] : List UInt8).isPrefixOf t = true by cases t <;> rfl, Bool.and_true, nat_beq]
    exact Bool.eq_iff_iff.2 ⟨fun h => by rw [beq_iff_eq] at h ⊢; exact h.symm, fun h => by rw [beq_iff_eq] at h ⊢; exact h.symm⟩
theorem pre1_any (c : UInt8) (hc : c.toNat ≠ 0) (s : ByteArray) (q : Nat) (W : World) : Calls Tryz.prog 51 #[.string (s.extract q s.size), .string ⟨#[c]⟩] W fun r w' => r = .returned (.bool (decide (at_ (s.data.toList.drop q) 0 = c.toNat))) ∧ W = w' := by
  refine (shPre (s.extract q s.size) ⟨#[c]⟩ W).mono fun r w' h => ⟨h.1.trans ?_, h.2.symm⟩
  show Ending.returned (.bool (Lib.hasPrefix (s.extract q s.size).data.toList [c])) = _
  rw [tail_list', pre1 c hc]
/-- What values answers. -/
def PVals (w : World) (p : Nat) (x : List (List UInt8) × Nat × Int) (r : Ending) (w' : World) : Prop := ∃ ev a c F, r = .returned (.tuple #[.slice a (mks x.1).length c, .int .i64 (if x.2.2 = 0 then ((p + x.2.1 : Nat) : Int) else 0), ev]) ∧ Txt.Ow w w' (txD (mks x.1)) (.slice a (mks x.1).length c) F ∧ Ee w' x.2.2 ((p : Int) + x.2.1) ev ∧ Below w.heap.size w w'
theorem pvals_no {w w' : World} {p m : Nat} {e : Int} {x : List (List UInt8) × Nat × Int} {ev : Value} {k : Int} (hx : x = ([], m, e)) (he : e ≠ 0) (hk : k = (p : Int) + m) (hE : Ee w' e k ev) (hb : Below w.heap.size w w') : PVals w p x (.returned (.tuple #[.slice none 0 0, .int .i64 0, ev])) w' := by
  subst hx hk
  refine ⟨ev, none, 0, [], ?_, Txt.Ow.nil _ _, hE, hb⟩
  show _ = Ending.returned (.tuple #[.slice none 0 0, .int .i64 (if e = 0 then _ else 0), ev])
  rw [if_neg he]
theorem pvals_ok {w w' : World} {p m : Nat} {vs : List (List UInt8)} {x : List (List UInt8) × Nat × Int} {k : Int} {ts : List ByteArray} {a : Option Addr} {c : Nat} {F : List Nat} (hx : x = (vs, m, 0)) (hk : k = (p : Int) + m) (ht : mks vs = ts) (ho : Txt.Ow w w' (txD ts) (.slice a ts.length c) F) (hb : Below w.heap.size w w') : PVals w p x (.returned (.tuple #[.slice a ts.length c, .int .i64 k, .nilIface])) w' := by
  subst hx hk ht
  exact ⟨_, a, c, F, rfl, ho, Ee.none _ _, hb⟩
set_option maxRecDepth 20000 in
set_option maxHeartbeats 2000000 in
theorem pvalues_any (s : ByteArray) (hs : s.size ≤ 5000) (p : Nat) (hp : p ≤ s.size) (w : World) : Calls Tryz.prog 52 #[.string s, .int .i64 p] w (PVals w p (vals (s.data.toList.drop p) [])) := by
  have HE := Lib.hid (fun e k W => new_ee e k W)
  have HS := Lib.hid hs
  go_enter Tryz.func52, Tryz.ntmps52
  go_wp2_with fail
  go_loopg [1, 7, 8, 9, 10] 6 (fun g at' v _ _ _ wr => ∃ (q : Nat) (acc : List (List UInt8)) (F : List Nat), acc.length + g = 6 ∧ p ≤ q ∧ q ≤ s.size ∧ at' = .int .i64 q ∧ Hid (vals (s.data.toList.drop p) [] = shift (q - p) (vals (s.data.toList.drop q) acc)) ∧ Hid (Txt.Ow w wr (txD (mks acc)) v F) ∧ Hid (Bl w wr))
  case atStart => exact ⟨p, [], [], rfl, Nat.le_refl _, hp, rfl, Lib.hid (by unfold shift; simp), Lib.hid (Txt.Ow.nil _ _), Lib.hid (Bl.refl w)⟩
  case round =>
    obtain ⟨q, acc, F, hg, hpq, hqs, rfl, hq, ho, hb⟩ := hrel
    obtain ⟨va, vc, rfl⟩ := ho.out.sl
    have hln := mks_len acc
    cases gk with
    | zero =>
      have t6 : (((mks acc).length : Int) == 6) = true := by rw [beq_iff_eq]; omega
      have hx := hq.out
      rw [vals_many (X := s.data.toList.drop q) (acc := acc) (by omega)] at hx
      have HX := Lib.hid hx
      have HK := Lib.hid (show (q : Int) = (p : Int) + ((q - p + 0 : Nat) : Int) by omega)
      clear hx hq ho hln
      generalize mks acc = ts at *
      go_wp2_with (go_at_call 48; with_reducible refine (HE.out _ _ _).mono ?_; rintro r w1 ⟨ev, rfl, hE, hbw⟩; have E1 := Lib.hid hE; have B1 := Lib.hid (hb.out.call hbw); clear hE hbw)
      go_ret3
      exact pvals_no HX.out (by decide) HK.out E1.out B1.out.below
    | succ g =>
      have t6 : (((mks acc).length : Int) == 6) = false := by rw [beq_eq_false_iff_ne]; omega
      rcases hv : val (s.data.toList.drop q) with ⟨v, m, e⟩
      have hfar := val_far (s.data.toList.drop q)
      rw [hv, List.length_drop, len_list] at hfar
      replace hfar : m ≤ s.size - q := hfar
      by_cases he : e = 0
      · subst he
        have HV := Lib.hid (fun W => val_ok hs hqs hv W)
        have hqm : q + m ≤ s.size := by omega
        have HPX := Lib.hid (fun W => pre1_any 44 (by decide) s (q + m) W)
        have HT := Lib.hid (fun W (hW : Below wr.heap.size wr W) => texts_new (ho.out.call hW) (hb.out.call hW) ⟨v.toArray⟩ (by omega))
        rw [← mks_snoc] at HT
        have c1 : (0 : Int) ≤ ((q + m : Nat) : Int) := by omega
        have c2 : ((q + m : Nat) : Int) ≤ s.size := by omega
        obtain ⟨n, hn⟩ : ∃ n, n = q + m := ⟨_, rfl⟩
        rw [← hn] at HV HPX c1 c2 hqm
        have hdn : (s.data.toList.drop q).drop m = s.data.toList.drop n := by rw [List.drop_drop, hn]
        generalize hts : mks acc = ts at *
        generalize hts2 : mks (acc ++ [v]) = ts2 at *
        generalize ByteArray.mk v.toArray = y at *
        by_cases h44 : at_ (s.data.toList.drop n) 0 = 44
        · have hx := hq.out
          rw [vals_on (X := s.data.toList.drop q) (acc := acc) (by omega) hv (by rw [hdn]; exact h44), hdn] at hx
          have hlt : n < s.size := by
            refine Nat.lt_of_not_le fun hx => ?_
            rw [List.drop_eq_nil_of_le (by rw [len_list]; exact hx)] at h44
            exact absurd h44 (by decide)
          have htl : (s.data.toList.drop n).tail = s.data.toList.drop (n + 1) := by rw [List.tail_drop]
          rw [htl] at hx
          have HX : Hid (vals (s.data.toList.drop p) [] = shift (n + 1 - p) (vals (s.data.toList.drop (n + 1)) (acc ++ [v]))) := Lib.hid (by
            rw [hx]
            generalize vals (s.data.toList.drop (n + 1)) (acc ++ [v]) = r
            unfold shift
            simp only [Prod.mk.injEq, true_and, and_true]
            omega)
          rw [decide_eq_true (show at_ (s.data.toList.drop n) 0 = (44 : UInt8).toNat from h44)] at HPX
          have HTS := Lib.hid hts2
          have HLN := Lib.hid (show (acc ++ [v]).length + g = 6 by rw [List.length_append]; show _ + 1 + _ = _; omega)
          have hpn : p ≤ n := by omega
          clear hx htl h44 hts hts2 hv hdn hq ho hln hfar hn
          go_wp2_with fail
          refine (HV.out _).mono ?_
          rintro r w1 ⟨rfl, hbw⟩
          obtain ⟨v', w2, F', ra, ro, rb, -⟩ := HT.out w1 hbw
          have RA := Lib.hid ra
          have RO := Lib.hid ro
          have RB := Lib.hid rb
          clear ra ro rb hbw
          obtain ⟨a2, c2', rfl⟩ := RO.out.sl
          go_wp2_with (first
            | (at_builtin; refine Byt.wpList_append_run rfl (.tmp 26) (.tmp 28) 44 44 rfl _ _ rfl rfl _ w2 RA.out ?_)
            | (go_at_call 51; with_reducible refine (HPX.out _).mono ?_; rintro r w' ⟨rfl, rfl⟩))
          go_roundg g
          case measure => omega
          case rel => exact ⟨n + 1, acc ++ [v], F', HLN.out, by omega, by omega, by go_num, HX, by rw [HTS.out]; exact RO, RB⟩
        · have hx := hq.out
          rw [vals_end (X := s.data.toList.drop q) (acc := acc) (by omega) hv (by rw [hdn]; exact h44)] at hx
          have HX := Lib.hid hx
          have HK := Lib.hid (show (n : Int) = (p : Int) + ((q - p + m : Nat) : Int) by omega)
          rw [decide_eq_false (show ¬ at_ (s.data.toList.drop n) 0 = (44 : UInt8).toNat from h44)] at HPX
          have HTS := Lib.hid hts2
          clear hx h44 hts hts2 hv hdn hq ho hln hfar hn
          go_wp2_with fail
          refine (HV.out _).mono ?_
          rintro r w1 ⟨rfl, hbw⟩
          obtain ⟨v', w2, F', ra, ro, rb, -⟩ := HT.out w1 hbw
          have RA := Lib.hid ra
          have RO := Lib.hid ro
          have RB := Lib.hid rb
          clear ra ro rb hbw
          obtain ⟨a2, c2', rfl⟩ := RO.out.sl
          go_wp2_with (first
            | (at_builtin; refine Byt.wpList_append_run rfl (.tmp 26) (.tmp 28) 44 44 rfl _ _ rfl rfl _ w2 RA.out ?_)
            | (go_at_call 51; with_reducible refine (HPX.out _).mono ?_; rintro r w' ⟨rfl, rfl⟩))
          go_ret3
          exact pvals_ok HX.out HK.out HTS.out RO.out RB.out.below
      · have hx := hq.out
        rw [vals_err (X := s.data.toList.drop q) (acc := acc) (by omega) (by rw [hv]; exact he), hv] at hx
        have HX := Lib.hid hx
        have HV := Lib.hid (fun W => val_er hs hqs hv he W)
        have HK := Lib.hid (show (q : Int) + m = (p : Int) + ((q - p + m : Nat) : Int) by omega)
        have he2 : (e != 0) = true := by simpa using he
        have HE0 := Lib.hid he
        clear hx hq ho hln hv hfar he
        generalize mks acc = ts at *
        go_wp2_with fail
        refine (HV.out _).mono ?_
        rintro r w1 ⟨ev, rfl, hE, hbw⟩
        have E1 := Lib.hid hE
        have B1 := Lib.hid (hb.out.call hbw)
        have e1 : ∀ W, (binOp .neq 25 ev .nilIface).run Tryz.prog W = .ok (.bool true) W := fun W => (hE.neq W).trans (by rw [he2])
        have e2 := fun o W => hE.asks o W
        clear hE hbw he2
        go_wp2_with fail
        go_ret3
        exact pvals_no HX.out HE0.out HK.out E1.out B1.out.below
end Go.Proofs.YtndbgdapojkfaaaGreatDoor.Par
