/- Contracts of package fold: a row (rowAt, goesOn); of the library at one byte: IndexByte, Index, Cut. -/
import Derived.Test.YtplobfnljlnkkaaDoorFldRefF
import Derived.Test.YtplobfnljlnkkaaDoorFldRefU
import Derived.Test.YtplobfnljlnkkaaDoorShelf
import Derived.Lib.Bytealg
import Derived.Lib.IndexLaws
import Derived.Laws.DeepStrings4
set_option linter.unusedVariables false
namespace Go.Proofs.YtplobfnljlnkkaaDoor.Fld
open Go.RowKit Go.Proofs.YtplobfnljlnkkaaDoor.Byt Go.Proofs.YtplobfnljlnkkaaDoor.Utf

/-- How many bytes stand ahead of the first one that is c. -/
def cnt (c : UInt8) : List UInt8 → Nat
  | [] => 0
  | b :: t => if b == c then 0 else 1 + cnt c t
theorem cnt_cons (c b : UInt8) (t : List UInt8) : cnt c (b :: t) = if b == c then 0 else 1 + cnt c t := rfl
theorem cnt_le (c : UInt8) : ∀ l : List UInt8, cnt c l ≤ l.length
  | [] => Nat.le_refl _
  | b :: t => by
    have := cnt_le c t
    unfold cnt
    split
    · simp
    · simp only [List.length_cons]; omega
theorem cnt_app {c : UInt8} : ∀ {A : List UInt8} (R : List UInt8), (∀ b ∈ A, b ≠ c) → cnt c (A ++ R) = A.length + cnt c R
  | [], R, _ => by simp
  | b :: A, R, h => by
    have hb : (b == c) = false := by rw [beq_eq_false_iff_ne]; exact h b (by simp)
    rw [List.cons_append, cnt_cons, hb, if_neg (by decide), cnt_app R (fun x hx => h x (by simp [hx]))]
    simp only [List.length_cons]
    omega
theorem ib_eq (c : UInt8) : ∀ l : List UInt8, Lib.indexByte l c = if cnt c l = l.length then -1 else (cnt c l : Int)
  | [] => rfl
  | b :: t => by
    have ih := ib_eq c t
    have hl := cnt_le c t
    rw [cnt_cons]
    unfold Lib.indexByte
    by_cases hb : (b == c) = true
    · (rw [if_pos hb, if_pos hb]) <;> rfl
    · rw [if_neg hb, if_neg hb, ih]
      by_cases h : cnt c t = t.length
      · have h1 : 1 + cnt c t = (b :: t).length := by rw [List.length_cons]; omega
        rw [if_pos h, if_pos h1]
        rfl
      · have h1 : ¬ 1 + cnt c t = (b :: t).length := by rw [List.length_cons]; omega
        have h2 : ¬ (((cnt c t : Int) == -1) = true) := by rw [beq_iff_eq]; omega
        rw [if_neg h, if_neg h1, if_neg h2]
        omega
/-- A row as rowAt tells it, and how far behind the next one begins. -/
def prow (D : List UInt8) : List UInt8 := if cnt 10 D = D.length then D else Lib.trimSuffix (D.take (cnt 10 D)) [13]
def pnx (D : List UInt8) : Nat := if cnt 10 D = D.length then D.length else cnt 10 D + 1
theorem eol_split : ∀ D : List UInt8, ∃ A R, D = A ++ R ∧ A.length = eol D ∧ (∀ b ∈ A, b ≠ 10 ∧ b ≠ 13) ∧ (R = [] ∨ (∃ t, R = 10 :: t) ∨ ∃ t, R = 13 :: t)
  | [] => ⟨[], [], rfl, rfl, by simp, .inl rfl⟩
  | b :: D => by
    unfold eol
    by_cases h : b.toNat = 10 ∨ b.toNat = 13
    · rw [if_pos h]
      refine ⟨[], b :: D, rfl, rfl, by simp, .inr ?_⟩
      rcases h with h | h
      · exact .inl ⟨D, by rw [show b = 10 from UInt8.toNat_inj.1 h]⟩
      · exact .inr ⟨D, by rw [show b = 13 from UInt8.toNat_inj.1 h]⟩
    · rw [if_neg h]
      obtain ⟨A, R, e, hl, hA, hR⟩ := eol_split D
      refine ⟨b :: A, R, by rw [e]; rfl, by simp; omega, ?_, hR⟩
      intro x hx
      rcases List.mem_cons.1 hx with rfl | hx
      · exact ⟨fun e => h (.inl (by rw [e]; rfl)), fun e => h (.inr (by rw [e]; rfl))⟩
      · exact hA x hx
theorem trim_no {A : List UInt8} (h : ∀ b ∈ A, b ≠ 13) : Lib.trimSuffix A [13] = A := by
  unfold Lib.trimSuffix
  rw [if_neg]
  intro hs
  obtain ⟨t, rfl⟩ := List.isSuffixOf_iff_suffix.1 hs
  exact h 13 (by simp) rfl
theorem trim_yes (A : List UInt8) : Lib.trimSuffix (A ++ [13]) [13] = A := by
  unfold Lib.trimSuffix
  have h : Lib.hasSuffix (A ++ [13]) [13] = true := List.isSuffixOf_iff_suffix.2 ⟨A, rfl⟩
  rw [if_pos h]
  simp
theorem trim_far (A : List UInt8) (b : UInt8) (y : List UInt8) : ∃ z, Lib.trimSuffix (A ++ 13 :: b :: y) [13] = A ++ 13 :: z := by
  unfold Lib.trimSuffix
  split
  · refine ⟨(b :: y).take y.length, ?_⟩
    rw [List.take_append, List.take_of_length_le (by simp)]
    congr 1
    simp only [List.length_append, List.length_cons, List.length_nil]
    rw [show A.length + (y.length + 1 + 1) - 1 - A.length = y.length + 1 by omega, List.take_succ_cons]
  · exact ⟨b :: y, rfl⟩
theorem ib_no {A : List UInt8} (h : ∀ b ∈ A, b ≠ 13) : Lib.indexByte A 13 = -1 := by
  have := cnt_app [] h
  rw [List.append_nil] at this
  rw [ib_eq, if_pos (by rw [this]; rfl)]
theorem ib_at {A : List UInt8} (h : ∀ b ∈ A, b ≠ 13) (z : List UInt8) : Lib.indexByte (A ++ 13 :: z) 13 = A.length := by
  have := cnt_app (13 :: z) h
  rw [ib_eq, this, show cnt 13 (13 :: z) = 0 from rfl, if_neg (by simp)]
  simp
theorem at_drop (L : List UInt8) (p i : Nat) : at_ L (p + i) = at_ (L.drop p) i := by
  unfold at_
  rw [List.getD_eq_getElem?_getD, List.getD_eq_getElem?_getD, List.getElem?_drop]
theorem at_app (A R : List UInt8) (i : Nat) : at_ (A ++ R) (A.length + i) = at_ R i := by
  unfold at_
  rw [List.getD_eq_getElem?_getD, List.getD_eq_getElem?_getD, List.getElem?_append_right (by omega), Nat.add_sub_cancel_left]
/-- A row without a CR of its own is the row; one with it tells where that stands. -/
theorem prow_ok {L : List UInt8} {p : Nat} (hp : p ≤ L.length) (hb : rowB L p = false) : prow (L.drop p) = sub L p (rowE L p) ∧ p + pnx (L.drop p) = rowN L p ∧ Lib.indexByte (prow (L.drop p)) 13 = -1 := by
  obtain ⟨A, R, e, hl, hA, hR⟩ := eol_split (L.drop p)
  have hE : rowE L p = p + A.length := by unfold rowE; rw [hl]
  have h13 : ∀ b ∈ A, b ≠ 13 := fun b hx => (hA b hx).2
  have hsub : sub L p (rowE L p) = A := by unfold sub; rw [hE, e, Nat.add_sub_cancel_left, List.take_left]
  have hc := cnt_app R (fun b hx => (hA b hx).1)
  have hL : L.length = p + (A.length + R.length) := by
    have := congrArg List.length e
    rw [List.length_drop, List.length_append] at this
    omega
  have a0 : ∀ i, at_ L (p + A.length + i) = at_ R i := fun i => by rw [Nat.add_assoc, at_drop, e, at_app]
  rw [hsub]
  rcases hR with rfl | ⟨t, rfl⟩ | ⟨t, rfl⟩
  · rw [List.append_nil] at e hc
    rw [e]
    have h1 : prow A = A := if_pos (by rw [hc]; rfl)
    refine ⟨h1, ?_, by rw [h1]; exact ib_no h13⟩
    unfold pnx rowN
    rw [if_pos (by rw [hc]; rfl), if_pos (by rw [hE, hL]; rfl), hE]
  · rw [e]
    have hc' : cnt 10 (A ++ 10 :: t) = A.length := by rw [hc]; rfl
    have hne : ¬ A.length = (A ++ 10 :: t).length := by simp
    have h1 : prow (A ++ 10 :: t) = A := by
      unfold prow
      rw [hc', if_neg hne, List.take_left, trim_no h13]
    refine ⟨h1, ?_, by rw [h1]; exact ib_no h13⟩
    unfold pnx rowN
    rw [hc', if_neg hne, hE, if_neg (by rw [hL]; simp), if_pos (by have := a0 0; rw [Nat.add_zero] at this; rw [this]; rfl)]
    omega
  · have n1 : ¬ rowE L p = L.length := by rw [hE, hL]; simp
    have v0 : at_ L (rowE L p) = 13 := by have := a0 0; rw [Nat.add_zero] at this; rw [hE, this]; rfl
    have hb' := of_decide_eq_false hb
    have hb2 : rowE L p + 1 < L.length ∧ at_ L (rowE L p + 1) = 10 := by
      refine Classical.byContradiction fun hx => hb' ⟨n1, by rw [v0]; decide, hx⟩
    obtain ⟨t', rfl⟩ : ∃ t', t = 10 :: t' := by
      rw [hE, a0 1, hL] at hb2
      cases t with
      | nil => exact absurd hb2.1 (by simp; omega)
      | cons x t' => exact ⟨t', by rw [show x = 10 from UInt8.toNat_inj.1 hb2.2]⟩
    rw [e]
    have hc' : cnt 10 (A ++ 13 :: 10 :: t') = A.length + 1 := by rw [hc]; rfl
    have hne : ¬ A.length + 1 = (A ++ 13 :: 10 :: t').length := by simp
    have h1 : prow (A ++ 13 :: 10 :: t') = A := by
      unfold prow
      rw [hc', if_neg hne, show A ++ 13 :: 10 :: t' = (A ++ [13]) ++ 10 :: t' by simp, List.take_left' (by simp), trim_yes]
    refine ⟨h1, ?_, by rw [h1]; exact ib_no h13⟩
    unfold pnx rowN
    rw [hc', if_neg hne, if_neg n1, if_neg (by rw [v0]; decide), if_pos hb2, hE]
    omega
theorem prow_bad {L : List UInt8} {p : Nat} (hp : p ≤ L.length) (hb : rowB L p = true) : (p : Int) + Lib.indexByte (prow (L.drop p)) 13 = rowE L p ∧ 0 ≤ Lib.indexByte (prow (L.drop p)) 13 := by
  obtain ⟨A, R, e, hl, hA, hR⟩ := eol_split (L.drop p)
  have hE : rowE L p = p + A.length := by unfold rowE; rw [hl]
  have h13 : ∀ b ∈ A, b ≠ 13 := fun b hx => (hA b hx).2
  have hc := cnt_app R (fun b hx => (hA b hx).1)
  have hb' := of_decide_eq_true hb
  have hL : L.length = p + (A.length + R.length) := by
    have := congrArg List.length e
    rw [List.length_drop, List.length_append] at this
    omega
  have a0 : ∀ i, at_ L (p + A.length + i) = at_ R i := fun i => by rw [Nat.add_assoc, at_drop, e, at_app]
  have key : ∃ z, prow (L.drop p) = A ++ 13 :: z := by
    rw [hE] at hb'
    rcases hR with rfl | ⟨t, rfl⟩ | ⟨t, rfl⟩
    · exfalso
      exact hb'.1 (by rw [hL]; rfl)
    · exfalso
      have := a0 0
      rw [Nat.add_zero] at this
      exact hb'.2.1 (by rw [this]; rfl)
    · rw [e]
      unfold prow
      split
      · exact ⟨t, rfl⟩
      · rename_i hne
        rw [hc] at hne ⊢
        cases t with
        | nil => exfalso; exact hne (by simp [cnt])
        | cons x t' =>
          have hx : ¬ x.toNat = 10 := by
            intro hx
            refine hb'.2.2 ⟨?_, by rw [a0 1]; exact hx⟩
            rw [hL]
            simp only [List.length_cons]
            omega
          have hx2 : (x == 10) = false := by rw [beq_eq_false_iff_ne]; exact fun h => hx (by rw [h]; rfl)
          have hq : cnt 10 (13 :: x :: t') = 2 + cnt 10 t' := by
            show (if (13 : UInt8) == 10 then 0 else 1 + (if x == 10 then 0 else 1 + cnt 10 t')) = _
            rw [hx2, if_neg (by decide), if_neg (by decide)]
            omega
          rw [hq]
          have ht : (A ++ 13 :: x :: t').take (A.length + (2 + cnt 10 t')) = A ++ 13 :: x :: t'.take (cnt 10 t') := by
            rw [List.take_append, List.take_of_length_le (by omega), Nat.add_sub_cancel_left, show 2 + cnt 10 t' = cnt 10 t' + 1 + 1 by omega, List.take_succ_cons, List.take_succ_cons]
          rw [ht]
          exact trim_far A x _
  obtain ⟨z, hz⟩ := key
  rw [hz, ib_at h13, hE]
  omega
/-- A row that goes on begins with a space or a tab. -/
def goP (x : List UInt8) : Bool := match x with | [] => false | b :: _ => decide (b.toNat = 32 ∨ b.toNat = 9)
theorem prow_gos {L : List UInt8} {p : Nat} (hp : p < L.length) : goP (prow (L.drop p)) = gos L p := by
  have hd : L.drop p = L[p] :: L.drop (p + 1) := List.drop_eq_getElem_cons hp
  have ha : at_ L p = L[p].toNat := by
    unfold at_
    rw [List.getD_eq_getElem?_getD, List.getElem?_eq_getElem hp]
    rfl
  rw [hd]
  unfold gos
  rw [ha]
  generalize L[p] = b
  generalize L.drop (p + 1) = t
  unfold prow
  split
  · rfl
  · rename_i hne
    have hc : cnt 10 (b :: t) = if b == 10 then 0 else 1 + cnt 10 t := rfl
    by_cases h10 : (b == 10) = true
    · rw [hc, if_pos h10]
      have : b = 10 := by simpa using h10
      subst this
      rfl
    · rw [hc, if_neg h10, Nat.add_comm 1, List.take_succ_cons]
      generalize t.take (cnt 10 t) = y
      unfold Lib.trimSuffix
      split
      · rename_i hs
        cases y with
        | nil =>
          obtain ⟨q, hq⟩ := List.isSuffixOf_iff_suffix.1 hs
          have : b = 13 := by
            have := congrArg (·.getLast?) hq
            simpa using this.symm
          subst this
          rfl
        | cons x y =>
          rw [show (b :: x :: y).length - ([13] : List UInt8).length = y.length + 1 by simp, List.take_succ_cons]
          rfl
      · rfl
theorem prow_len (L : List UInt8) (p : Nat) : (prow (L.drop p)).length ≤ L.length - p := by
  unfold prow
  split
  · rw [List.length_drop]
    exact Nat.le_refl _
  · refine Nat.le_trans (Lib.trimSuffix_le _ _) ?_
    rw [List.length_take, List.length_drop]
    omega
/-- Cut at the first LF. -/
theorem ext_take (y : ByteArray) (k : Nat) : (⟨(y.data.toList.take k).toArray⟩ : ByteArray) = y.extract 0 k := by
  rw [← sub_extract]
  unfold sub
  rw [List.drop_zero, Nat.sub_zero]
set_option maxRecDepth 20000 in
set_option maxHeartbeats 1000000 in
theorem sl_ixb_any (s : ByteArray) (c : Int) (w : World) : Calls Tryd.prog 37 #[.string s, .int .u8 c] w fun r w' => r = .returned (.int .i64 (Lib.indexByte s.data.toList c.toNat.toUInt8)) ∧ w = w' := by
  go_enter Tryd.func37, Tryd.ntmps37
  go_wp2
  rw [run_callFunc_extern Tryd.func48 (by kernel_rfl) (by kernel_rfl) (by kernel_rfl) (e := Extern.BytealgIndexByte.indexByte) (by kernel_rfl), Lib.run_indexByteString]
  simp only [Result.andThen]
  rw [Oper.upon_value]
  go_wp2
  go_ret
  exact ⟨rfl, rfl⟩
set_option maxRecDepth 20000 in
set_option maxHeartbeats 1000000 in
theorem ixb_any (s : ByteArray) (w : World) : Calls Tryd.prog 25 #[.string s, .int .u8 13] w fun r w' => r = .returned (.int .i64 (Lib.indexByte s.data.toList 13)) ∧ w = w' := by
  have HX := Lib.hid (fun W => sl_ixb_any s 13 W)
  go_enter Tryd.func25, Tryd.ntmps25
  go_wp2_with (go_at_call 37; with_reducible refine (HX.out _).mono ?_; rintro r w' ⟨rfl, rfl⟩)
  go_ret
  exact ⟨rfl, rfl⟩
set_option maxRecDepth 20000 in
set_option maxHeartbeats 1000000 in
theorem ix_any (s : ByteArray) (hs : s.size ≤ 10000) (w : World) : Calls Tryd.prog 54 #[.string s, .string ⟨#[10]⟩] w fun r w' => r = .returned (.int .i64 (Lib.indexByte s.data.toList 10)) ∧ w = w' := by
  have HX := Lib.hid (fun c W => sl_ixb_any s c W)
  rcases h : ([10] == s.toList) with _ | _
  · go_enter Tryd.func54, Tryd.ntmps54
    go_wp2_with (go_at_call 37; with_reducible refine (HX.out _ _).mono ?_; rintro r w' ⟨rfl, rfl⟩)
    go_ret
    exact ⟨rfl, rfl⟩
  · have e : s.data.toList = [10] := by
      rw [← ByteArray.toList_eq]
      exact (eq_of_beq h).symm
    rw [e]
    clear e
    go_enter Tryd.func54, Tryd.ntmps54
    go_wp2_with fail
    go_ret
    exact ⟨rfl, rfl⟩
/-- What Cut tells at an LF. -/
def cutE (s : ByteArray) : Ending := if cnt 10 s.data.toList = s.size then .returned (.tuple #[.string s, .string ⟨#[]⟩, .bool false]) else .returned (.tuple #[.string (s.extract 0 (cnt 10 s.data.toList)), .string (s.extract (cnt 10 s.data.toList + 1) s.size), .bool true])
set_option maxRecDepth 20000 in
set_option maxHeartbeats 1000000 in
theorem sl_cut_any (s : ByteArray) (hs : s.size ≤ 10000) (w : World) : Calls Tryd.prog 46 #[.string s, .string ⟨#[10]⟩] w fun r w' => r = cutE s ∧ Below w.heap.size w w' := by
  have HX := Lib.hid (fun W => ix_any s hs W)
  have hle := cnt_le 10 s.data.toList
  rw [ib_eq] at HX
  rw [len_list] at hle HX
  unfold cutE
  generalize cnt 10 s.data.toList = k at *
  by_cases h : k = s.size
  · rw [if_pos h]
    rw [if_pos h] at HX
    go_enter Tryd.func46, Tryd.ntmps46
    go_wp2_with (go_at_call 54; with_reducible refine (HX.out _).mono ?_; rintro r w' ⟨rfl, rfl⟩)
    go_ret3
    exact ⟨rfl, Below.refl _ _⟩
  · rw [if_neg h]
    rw [if_neg h] at HX
    have k1 : (k : Int) ≤ s.size := by omega
    have k2 : (k : Int) + 1 ≤ s.size := by omega
    go_enter Tryd.func46, Tryd.ntmps46
    go_wp2_with (go_at_call 54; with_reducible refine (HX.out _).mono ?_; rintro r w' ⟨rfl, rfl⟩)
    go_region
    go_wp2_with fail
    go_ret3
    exact ⟨rfl, (Below.refl _ _).drew⟩
set_option maxRecDepth 20000 in
set_option maxHeartbeats 1000000 in
theorem cut1_any (s : ByteArray) (hs : s.size ≤ 10000) (w : World) : Calls Tryd.prog 35 #[.string s, .string ⟨#[10]⟩] w fun r w' => r = cutE s ∧ Below w.heap.size w w' := by
  have HX := Lib.hid (fun W => sl_cut_any s hs W)
  unfold cutE at *
  by_cases h : cnt 10 s.data.toList = s.size
  · rw [if_pos h]
    rw [if_pos h] at HX
    go_enter Tryd.func35, Tryd.ntmps35
    go_wp2_with (go_at_call 46; with_reducible refine (HX.out _).mono ?_; rintro r w' ⟨rfl, hb⟩; have HB := Lib.hid hb; clear hb)
    go_ret3
    exact ⟨rfl, HB.out⟩
  · rw [if_neg h]
    rw [if_neg h] at HX
    generalize cnt 10 s.data.toList = k at *
    go_enter Tryd.func35, Tryd.ntmps35
    go_wp2_with (go_at_call 46; with_reducible refine (HX.out _).mono ?_; rintro r w' ⟨rfl, hb⟩; have HB := Lib.hid hb; clear hb)
    go_ret3
    exact ⟨rfl, HB.out⟩
set_option maxRecDepth 20000 in
set_option maxHeartbeats 1000000 in
/-- The row that begins at a place. -/
theorem frow_any (s : ByteArray) (hs : s.size ≤ 10000) (p : Nat) (hp : p ≤ s.size) (w : World) : Calls Tryd.prog 24 #[.string s, .int .i64 p] w fun r w' => r = .returned (.tuple #[.string ⟨(prow (s.data.toList.drop p)).toArray⟩, .int .i64 ((p + pnx (s.data.toList.drop p) : Nat) : Int)]) ∧ Below w.heap.size w w' := by
  have hy : (s.extract p s.size).data.toList = s.data.toList.drop p := Fld.tail_list s p
  have hz : (s.extract p s.size).size = s.size - p := by rw [ByteArray.size_extract]; omega
  have HX := Lib.hid (fun W => cut1_any (s.extract p s.size) (by omega) W)
  have hp' : (p : Int) ≤ s.size := by omega
  unfold cutE prow pnx at *
  rw [← hy] at *
  have hle := cnt_le 10 (s.extract p s.size).data.toList
  rw [len_list] at *
  generalize hy0 : s.extract p s.size = y at *
  by_cases h : cnt 10 y.data.toList = y.size
  · rw [if_pos h, if_pos h]
    rw [if_pos h] at HX
    go_enter Tryd.func24, Tryd.ntmps24
    go_wp2_with (go_at_call 35; with_reducible refine (HX.out _).mono ?_; rintro r w' ⟨rfl, hb⟩; have HB := Lib.hid hb; clear hb)
    go_ret2
    exact ⟨by rw [hz, show p + (s.size - p) = s.size by omega]; rfl, HB.out⟩
  · rw [if_neg h, if_neg h]
    rw [if_neg h] at HX
    rw [← head_list y]
    have hk : (y.extract 0 (cnt 10 y.data.toList)).size = cnt 10 y.data.toList := by rw [ByteArray.size_extract]; omega
    have HE : Hid (((p + (cnt 10 y.data.toList + 1) : Nat) : Int) = (p : Int) + cnt 10 y.data.toList + 1) := Lib.hid (by omega)
    have HT := Lib.hid (fun W => shLopEnd (y.extract 0 (cnt 10 y.data.toList)) ⟨#[13]⟩ W (by omega))
    generalize cnt 10 y.data.toList = k at *
    generalize y.extract 0 k = z at *
    go_enter Tryd.func24, Tryd.ntmps24
    go_wp2_with (first
      | (go_at_call 35; with_reducible refine (HX.out _).mono ?_; rintro r w' ⟨rfl, hb⟩; have HB := Lib.hid hb; clear hb)
      | (go_at_call 36; with_reducible refine (HT.out _).mono ?_; rintro r w2 ⟨rfl, rfl⟩))
    go_ret2
    exact ⟨by rw [HE.out]; rfl, HB.out⟩
set_option maxRecDepth 20000 in
set_option maxHeartbeats 1000000 in
theorem goes_any (s : ByteArray) (w : World) : Calls Tryd.prog 26 #[.string s] w fun r w' => r = .returned (.bool (goP s.data.toList)) ∧ w = w' := by
  rcases Nat.eq_zero_or_pos s.size with h | h
  · have hne : s.toList.isEmpty = true := by
      rw [ByteArray.toList_eq, List.eq_nil_of_length_eq_zero (l := s.data.toList) (by rw [len_list]; exact h)]
      rfl
    have hn : s.data.toList = [] := List.eq_nil_of_length_eq_zero (by rw [len_list]; exact h)
    rw [show goP s.data.toList = false by rw [hn]; rfl]
    go_enter Tryd.func26, Tryd.ntmps26
    go_wp2_with fail
    go_ret
    exact ⟨rfl, rfl⟩
  · have hne : s.toList.isEmpty = false := by
      rw [ByteArray.toList_eq]
      have := len_list s
      cases hl : s.data.toList with
      | nil => rw [hl] at this; simp at this; omega
      | cons => rfl
    have hd : s.data.toList = s[0] :: s.data.toList.drop 1 := List.drop_eq_getElem_cons (l := s.data.toList) (i := 0) (by rw [len_list]; exact h)
    have hg : goP s.data.toList = decide ((s[0]'h).toNat = 32 ∨ (s[0]'h).toNat = 9) := by rw [hd]; rfl
    rw [hg]
    clear hg hd
    have h0 : (0 : Int) < s.size := by omega
    have b1 := (s[0]'h).toNat_lt
    by_cases h1 : (s[0]'h).toNat = 32
    · have t1 : (((s[0]'h).toNat : Int) == 32) = true := by rw [h1]; rfl
      rw [decide_eq_true (.inl h1)]
      go_enter Tryd.func26, Tryd.ntmps26
      go_wp2_with fail
      go_ret
      exact ⟨rfl, rfl⟩
    · have t1 : (((s[0]'h).toNat : Int) == 32) = false := by rw [beq_eq_false_iff_ne]; omega
      by_cases h2 : (s[0]'h).toNat = 9
      · have t2 : (((s[0]'h).toNat : Int) == 9) = true := by rw [h2]; rfl
        rw [decide_eq_true (.inr h2)]
        go_enter Tryd.func26, Tryd.ntmps26
        go_wp2_with fail
        go_ret
        exact ⟨rfl, rfl⟩
      · have t2 : (((s[0]'h).toNat : Int) == 9) = false := by rw [beq_eq_false_iff_ne]; omega
        rw [decide_eq_false (by omega)]
        go_enter Tryd.func26, Tryd.ntmps26
        go_wp2_with fail
        go_ret
        exact ⟨rfl, rfl⟩
end Go.Proofs.YtplobfnljlnkkaaDoor.Fld
