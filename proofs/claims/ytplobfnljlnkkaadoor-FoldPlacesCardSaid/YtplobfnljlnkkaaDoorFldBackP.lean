/- Plain facts: what is folded is unfolded; where the bytes of lines stand. -/
import Derived.Test.YtplobfnljlnkkaaDoorFldPlain
set_option linter.unusedVariables false
namespace Go.Proofs.YtplobfnljlnkkaaDoor.Fld
open Go.Proofs.YtplobfnljlnkkaaDoor.Utf

/-- No CR, no LF. -/
def clean (t : List UInt8) : Prop := ∀ b ∈ t, b.toNat ≠ 10 ∧ b.toNat ≠ 13
theorem clean.take {t : List UInt8} (h : clean t) (k : Nat) : clean (t.take k) := fun b hb => h b (List.mem_of_mem_take hb)
theorem clean.drop {t : List UInt8} (h : clean t) (k : Nat) : clean (t.drop k) := fun b hb => h b (List.mem_of_mem_drop hb)
theorem clean.cons {b : UInt8} {t : List UInt8} (h : clean t) (hb : b.toNat ≠ 10 ∧ b.toNat ≠ 13) : clean (b :: t) := fun x hx => by
  rcases List.mem_cons.1 hx with rfl | hx
  · exact hb
  · exact h x hx
theorem eol_clean : ∀ (x r : List UInt8), clean x → eol (x ++ 13 :: r) = x.length
  | [], r, _ => by simp [eol]
  | b :: x, r, h => by
    have hb := h b (by simp)
    have ih := eol_clean x r (fun y hy => h y (by simp [hy]))
    show eol (b :: (x ++ 13 :: r)) = _
    unfold eol
    rw [if_neg (by omega), ih, List.length_cons]
    omega
theorem at_of_drop {L y : List UInt8} {p : Nat} (h : L.drop p = y) (k : Nat) : at_ L (p + k) = at_ y k := by
  unfold at_
  rw [← h]
  simp [List.getD_eq_getElem?_getD, List.getElem?_drop]
theorem len_of_drop {L y : List UInt8} {p : Nat} (h : L.drop p = y) (hy : y ≠ []) : L.length = p + y.length := by
  have := congrArg List.length h
  rw [List.length_drop] at this
  have := List.length_pos_iff.2 hy
  omega
theorem at_app (x r : List UInt8) (k : Nat) : at_ (x ++ r) (x.length + k) = at_ r k := by
  unfold at_
  simp [List.getD_eq_getElem?_getD, List.getElem?_append_right]
structure RowAt (L x r : List UInt8) (p : Nat) : Prop where
  lt : p < L.length
  e : rowE L p = p + x.length
  b : rowB L p = false
  n : rowN L p = p + x.length + 2
  d : L.drop (p + x.length + 2) = r
  s : sub L p (p + x.length) = x
theorem row_clean {L x r : List UInt8} {p : Nat} (h : L.drop p = x ++ 13 :: 10 :: r) (hx : clean x) : RowAt L x r p := by
  have hl := len_of_drop h (by simp)
  simp only [List.length_append, List.length_cons] at hl
  have he : rowE L p = p + x.length := by unfold rowE; rw [h, eol_clean x _ hx]
  have a13 : at_ L (p + x.length) = 13 := by rw [at_of_drop h]; exact at_app x _ 0
  have a10 : at_ L (p + x.length + 1) = 10 := by rw [Nat.add_assoc, at_of_drop h]; exact at_app x _ 1
  refine ⟨by omega, he, ?_, ?_, ?_, ?_⟩
  · unfold rowB
    apply decide_eq_false
    rw [he]
    intro hh
    exact hh.2.2 ⟨by omega, a10⟩
  · unfold rowN
    rw [he, if_neg (by omega), if_neg (by omega), if_pos ⟨by omega, a10⟩]
  · rw [show p + x.length + 2 = p + (x.length + 2) by omega, ← List.drop_drop, h, ← List.drop_drop, List.drop_left]
    rfl
  · unfold sub
    rw [h, Nat.add_sub_cancel_left, List.take_left]
theorem sub_tail {L y : List UInt8} {b : UInt8} {p : Nat} (h : sub L p (p + (b :: y).length) = b :: y) : sub L (p + 1) (p + (b :: y).length) = y := by
  unfold sub at *
  have h2 := congrArg (List.drop 1) h
  rw [List.drop_take, List.drop_drop] at h2
  rw [show p + (b :: y).length - (p + 1) = p + (b :: y).length - p - 1 by omega]
  simpa using h2
theorem unf_tail : ∀ t : List UInt8, clean t → ∀ (L : List UInt8) (p : Nat) (init : List PL) (l : PL) (r : List UInt8), p ≠ 0 → L.drop p = foldR t ++ r → ∃ l' : PL, l'.t = l.t ++ t ∧ unf L p (init ++ [l]) = unf L (p + (foldR t).length) (init ++ [l']) ∧ L.drop (p + (foldR t).length) = r := by
  refine rowed (M := fun t => clean t → ∀ (L : List UInt8) (p : Nat) (init : List PL) (l : PL) (r : List UInt8), p ≠ 0 → L.drop p = foldR t ++ r → ∃ l' : PL, l'.t = l.t ++ t ∧ unf L p (init ++ [l]) = unf L (p + (foldR t).length) (init ++ [l']) ∧ L.drop (p + (foldR t).length) = r) ?_ ?_
  · intro _ L p init l r _ h
    rw [foldR_nil] at h ⊢
    exact ⟨l, by simp, by simp, by simpa using h⟩
  · intro t ht ih hc L p init l r h0 h
    rw [foldR_on ht] at h ⊢
    have hx : clean (32 :: t.take (cutN 74 t)) := (hc.take _).cons (by decide)
    have h' : L.drop p = (32 :: t.take (cutN 74 t)) ++ 13 :: 10 :: (foldR (t.drop (cutN 74 t)) ++ r) := by rw [h]; simp
    have R := row_clean h' hx
    have hg : gos L p = true := by
      apply decide_eq_true
      have := at_of_drop h' 0
      rw [Nat.add_zero] at this
      rw [this]
      exact .inl rfl
    rw [unf_on R.lt hg h0 R.b, addL_last, R.n, R.e, sub_tail R.s]
    obtain ⟨l', hl, hu, hd⟩ := ih (hc.drop _) L (p + (32 :: t.take (cutN 74 t)).length + 2) init ⟨l.t ++ t.take (cutN 74 t), l.ps ++ [((l.t.length : Int), (p : Int) + 1)]⟩ r (by omega) R.d
    have e : p + (32 :: (t.take (cutN 74 t) ++ 13 :: 10 :: foldR (t.drop (cutN 74 t)))).length = p + (32 :: t.take (cutN 74 t)).length + 2 + (foldR (t.drop (cutN 74 t))).length := by
      simp only [List.length_cons, List.length_append]; omega
    rw [e]
    refine ⟨l', ?_, hu, hd⟩
    rw [hl]
    show l.t ++ t.take (cutN 74 t) ++ t.drop (cutN 74 t) = l.t ++ t
    rw [List.append_assoc, List.take_append_drop]
/-- A text that may be folded: no CR, no LF, no space and no tab ahead. -/
def fit (t : List UInt8) : Prop := clean t ∧ (t ≠ [] → at_ t 0 ≠ 32 ∧ at_ t 0 ≠ 9)
theorem at_take0 {t : List UInt8} {k : Nat} (hk : 1 ≤ k) : at_ (t.take k) 0 = at_ t 0 := by
  unfold at_
  cases t with
  | nil => simp
  | cons b t => cases k with
    | zero => omega
    | succ k => rfl
theorem unf_fold {t : List UInt8} (hf : fit t) (L : List UInt8) (p : Nat) (acc : List PL) (r : List UInt8) (h : L.drop p = foldL t ++ r) : ∃ l' : PL, l'.t = t ∧ unf L p acc = unf L (p + (foldL t).length) (acc ++ [l']) ∧ L.drop (p + (foldL t).length) = r := by
  unfold foldL at h ⊢
  have h' : L.drop p = t.take (cutN 75 t) ++ 13 :: 10 :: (foldR (t.drop (cutN 75 t)) ++ r) := by rw [h]; simp
  have R := row_clean h' (hf.1.take _)
  have hg : gos L p = false := by
    apply decide_eq_false
    have := at_of_drop h' 0
    rw [Nat.add_zero] at this
    rw [this]
    by_cases ht : t = []
    · subst ht
      show ¬ (at_ (([] : List UInt8).take (cutN 75 []) ++ _) 0 = 32 ∨ _)
      rw [List.take_nil]
      show ¬ ((13 : Nat) = 32 ∨ (13 : Nat) = 9)
      decide
    · have hk := cut_pos ht (n := 75) (by omega)
      have hne := ne_nil_take ht hk
      have : at_ (t.take (cutN 75 t) ++ 13 :: 10 :: (foldR (t.drop (cutN 75 t)) ++ r)) 0 = at_ t 0 := by
        rw [← at_take0 (t := t) hk]
        cases hc : t.take (cutN 75 t) with
        | nil => exact absurd hc hne
        | cons b x => rfl
      rw [this]
      have := hf.2 ht
      omega
  rw [unf_new R.lt hg R.b, R.n, R.e, R.s]
  obtain ⟨l', hl, hu, hd⟩ := unf_tail (t.drop (cutN 75 t)) (hf.1.drop _) L (p + (t.take (cutN 75 t)).length + 2) acc ⟨t.take (cutN 75 t), [(0, (p : Int))]⟩ r (by omega) R.d
  have e : p + (t.take (cutN 75 t) ++ 13 :: 10 :: foldR (t.drop (cutN 75 t))).length = p + (t.take (cutN 75 t)).length + 2 + (foldR (t.drop (cutN 75 t))).length := by
    simp only [List.length_cons, List.length_append]; omega
  rw [e]
  refine ⟨l', ?_, hu, hd⟩
  rw [hl]
  show t.take (cutN 75 t) ++ t.drop (cutN 75 t) = t
  rw [List.take_append_drop]
theorem unf_join : ∀ (ts : List (List UInt8)), (∀ t ∈ ts, fit t) → ∀ (L : List UInt8) (p : Nat) (acc : List PL), L.drop p = joinL ts → ∃ ls : List PL, ls.map (·.t) = ts ∧ unf L p acc = (acc ++ ls, 0, 0)
  | [], _, L, p, acc, h => by
    refine ⟨[], rfl, ?_⟩
    have : ¬ p < L.length := by
      intro hp
      have e := congrArg List.length h
      rw [List.length_drop] at e
      simp [joinL] at e
      omega
    rw [unf_end this]
    simp
  | t :: ts, hf, L, p, acc, h => by
    have h' : L.drop p = foldL t ++ joinL ts := by rw [h]; simp [joinL]
    obtain ⟨l, hl, hu, hd⟩ := unf_fold (hf t (by simp)) L p acc (joinL ts) h'
    obtain ⟨ls, hls, hu2⟩ := unf_join ts (fun x hx => hf x (by simp [hx])) L (p + (foldL t).length) (acc ++ [l]) hd
    exact ⟨l :: ls, by simp [hl, hls], by rw [hu, hu2]; simp⟩
/-- What is folded is unfolded. -/
theorem back {ts : List (List UInt8)} (hf : ∀ t ∈ ts, fit t) (hl : ∀ t ∈ ts, t.length ≤ 400) (hn : ts.length ≤ 10) : ∃ ls : List PL, ls.map (·.t) = ts ∧ unfR (joinL ts) = (ls, 0, 0) := by
  have h1 := joinL_len ts hl
  unfold unfR
  rw [if_neg (by omega)]
  obtain ⟨ls, h2, h3⟩ := unf_join ts hf (joinL ts) 0 [] rfl
  exact ⟨ls, h2, by simpa using h3⟩

/-- A line's bytes stand in the text, one place behind another, from lo on, ahead of hi. -/
structure LOk (L : List UInt8) (l : PL) (lo hi : Nat) : Prop where
  at' : ∀ k : Nat, k < l.t.length → (lo : Int) ≤ plc l.ps k ∧ plc l.ps k < hi ∧ at_ L (plc l.ps k).toNat = at_ l.t k
  next : ∀ k : Nat, k + 1 < l.t.length → plc l.ps k < plc l.ps (k + 1 : Nat)
/-- Lines' bytes stand in the text, one line behind another. -/
inductive Lns (L : List UInt8) : List PL → Nat → Prop
  | nil (hi : Nat) : Lns L [] hi
  | snoc (ls : List PL) (l : PL) (lo hi : Nat) (h : Lns L ls lo) (hl : lo ≤ hi) (ho : LOk L l lo hi) : Lns L (ls ++ [l]) hi
theorem at_sub {L : List UInt8} {i j k : Nat} (hk : k < j - i) : at_ (sub L i j) k = at_ L (i + k) := by
  unfold at_ sub
  simp [List.getD_eq_getElem?_getD, hk, List.getElem?_drop]
theorem sub_len {L : List UInt8} {i j : Nat} (hj : j ≤ L.length) : (sub L i j).length = j - i := by unfold sub; rw [List.length_take, List.length_drop]; omega
theorem snoc_inj {a b : List PL} {x y : PL} (h : a ++ [x] = b ++ [y]) : a = b ∧ x = y := by
  have := List.append_inj' h rfl
  exact ⟨this.1, by simpa using this.2⟩
theorem lns_new {L : List UInt8} {acc : List PL} {p e n : Nat} (h : Lns L acc p) (he : p ≤ e) (hn : e ≤ n) (hl : n ≤ L.length) : Lns L (acc ++ [⟨sub L p e, [(0, (p : Int))]⟩]) n := by
  refine .snoc acc _ p n h (by omega) ⟨fun k hk => ?_, fun k hk => ?_⟩
  · have hk' : k < e - p := by rw [← sub_len (L := L) (i := p) (j := e) (by omega)]; exact hk
    have e1 : plc [(0, (p : Int))] (k : Int) = p + k := by
      show plc ([] ++ [((0 : Int), (p : Int))]) k = _
      rw [plc_snoc, if_pos (by simp)]; simp
    show (p : Int) ≤ plc [(0, (p : Int))] k ∧ plc [(0, (p : Int))] k < n ∧ at_ L (plc [(0, (p : Int))] k).toNat = at_ (sub L p e) k
    rw [e1, at_sub hk', show ((p : Int) + k).toNat = p + k by omega]
    exact ⟨by omega, by omega, rfl⟩
  · show plc [(0, (p : Int))] (k : Int) < plc [(0, (p : Int))] ((k + 1 : Nat) : Int)
    show plc ([] ++ [((0 : Int), (p : Int))]) k < plc ([] ++ [((0 : Int), (p : Int))]) ((k + 1 : Nat) : Int)
    rw [plc_snoc, plc_snoc, if_pos (by simp), if_pos (by simp; omega)]
    simp; omega
theorem lns_add {L : List UInt8} {acc : List PL} {p e n : Nat} (h : Lns L acc p) (ha : acc ≠ []) (he : p < e) (hn : e ≤ n) (hl : n ≤ L.length) : Lns L (addL acc (sub L (p + 1) e) ((p : Int) + 1)) n ∧ addL acc (sub L (p + 1) e) ((p : Int) + 1) ≠ [] := by
  cases h with
  | nil => exact absurd rfl ha
  | snoc ls l lo hi h hlo ho =>
    rw [addL_last]
    have hs : (sub L (p + 1) e).length = e - (p + 1) := sub_len (by omega)
    have key : ∀ k : Nat, k < (l.t ++ sub L (p + 1) e).length → (k < l.t.length ∧ plc (l.ps ++ [((l.t.length : Int), (p : Int) + 1)]) k = plc l.ps k) ∨ (l.t.length ≤ k ∧ k - l.t.length < e - (p + 1) ∧ plc (l.ps ++ [((l.t.length : Int), (p : Int) + 1)]) k = p + 1 + (k - l.t.length)) := by
      intro k hk
      rw [List.length_append, hs] at hk
      rw [plc_snoc]
      by_cases c : l.t.length ≤ k
      · refine .inr ⟨c, by omega, ?_⟩
        rw [if_pos (by show (l.t.length : Int) ≤ k; omega)]
      · exact .inl ⟨by omega, by rw [if_neg (by show ¬ (l.t.length : Int) ≤ k; omega)]⟩
    refine ⟨.snoc ls _ lo n h (by omega) ⟨fun k hk => ?_, fun k hk => ?_⟩, by simp⟩
    · show (lo : Int) ≤ plc (l.ps ++ [((l.t.length : Int), (p : Int) + 1)]) k ∧ plc (l.ps ++ [((l.t.length : Int), (p : Int) + 1)]) k < n ∧ at_ L (plc (l.ps ++ [((l.t.length : Int), (p : Int) + 1)]) k).toNat = at_ (l.t ++ sub L (p + 1) e) k
      rcases key k hk with ⟨c, e1⟩ | ⟨c, c2, e1⟩
      · rw [e1]
        obtain ⟨a1, a2, a3⟩ := ho.at' k c
        refine ⟨a1, by omega, ?_⟩
        rw [a3]
        unfold at_
        rw [List.getD_eq_getElem?_getD, List.getD_eq_getElem?_getD, List.getElem?_append_left c]
      · rw [e1]
        refine ⟨by omega, by omega, ?_⟩
        have : at_ (l.t ++ sub L (p + 1) e) k = at_ (sub L (p + 1) e) (k - l.t.length) := by
          have := at_app l.t (sub L (p + 1) e) (k - l.t.length)
          rwa [show l.t.length + (k - l.t.length) = k by omega] at this
        rw [this, at_sub c2]
        congr 1
        omega
    · show plc (l.ps ++ [((l.t.length : Int), (p : Int) + 1)]) k < plc (l.ps ++ [((l.t.length : Int), (p : Int) + 1)]) ((k + 1 : Nat) : Int)
      have hk : k + 1 < (l.t ++ sub L (p + 1) e).length := hk
      rcases key k (by omega) with ⟨c, e1⟩ | ⟨c, c2, e1⟩ <;> rcases key (k + 1) hk with ⟨d, e2⟩ | ⟨d, d2, e2⟩
      · rw [e1, e2]; exact ho.next k d
      · rw [e1, e2]
        have := (ho.at' k c).2.1
        omega
      · omega
      · rw [e1, e2]; omega
theorem addL_ne {acc : List PL} {x : List UInt8} {q : Int} : addL acc x q = [] → acc = [] := by
  intro h
  rcases List.eq_nil_or_concat acc with rfl | ⟨i, l, rfl⟩
  · rfl
  · rw [List.concat_eq_append, addL_last] at h; simp at h
theorem unf_lns (L : List UInt8) : ∀ (n p : Nat) (acc ls : List PL), L.length - p ≤ n → p ≤ L.length → Lns L acc p → (p ≠ 0 → acc ≠ []) → unf L p acc = (ls, 0, 0) → Lns L ls L.length := by
  intro n
  induction n with
  | zero =>
    intro p acc ls hn hp h _ hu
    have : p = L.length := by omega
    subst this
    rw [unf_end (by omega)] at hu
    injection hu with hu _
    subst hu
    exact h
  | succ n ih =>
    intro p acc ls hn hp h ha hu
    by_cases hlt : p < L.length
    · by_cases hg : gos L p = true
      · by_cases h0 : p = 0
        · subst h0
          rw [unf_first hlt hg] at hu
          injection hu with _ hu
          injection hu with hu _
          cases hu
        · cases hb : rowB L p with
          | true => rw [unf_bad hlt (.inr h0) hb] at hu; injection hu with _ hu; injection hu with hu _; cases hu
          | false =>
            rw [unf_on hlt hg h0 hb] at hu
            have hr := rowN_lt L p hlt hb
            have hE := rowE_le L p hp
            have hpe : p < rowE L p := by
              have : eol (L.drop p) ≠ 0 := by
                have hd := List.drop_eq_getElem_cons hlt
                rw [hd]
                have ha := of_decide_eq_true hg
                have : (L[p]).toNat = at_ L p := by unfold at_; rw [List.getD_eq_getElem?_getD, List.getElem?_eq_getElem hlt]; rfl
                unfold eol
                rw [if_neg (by omega)]
                omega
              unfold rowE
              omega
            obtain ⟨h1, h2⟩ := lns_add h (ha h0) hpe hr.2.2 hr.2.1
            exact ih _ _ ls (by omega) hr.2.1 h1 (fun _ => h2) hu
      · have hg' : gos L p = false := by simpa using hg
        cases hb : rowB L p with
        | true => rw [unf_bad hlt (.inl hg') hb] at hu; injection hu with _ hu; injection hu with hu _; cases hu
        | false =>
          rw [unf_new hlt hg' hb] at hu
          have hr := rowN_lt L p hlt hb
          have hE := rowE_le L p hp
          exact ih _ _ ls (by omega) hr.2.1 (lns_new h hE.1 hr.2.2 hr.2.1) (fun _ => by simp) hu
    · have : p = L.length := by omega
      subst this
      rw [unf_end (by omega)] at hu
      injection hu with hu _
      subst hu
      exact h
/-- Bounds of the lines, by their numbers. -/
theorem Lns.bounds {L : List UInt8} {ls : List PL} {hi : Nat} (h : Lns L ls hi) : ∃ b : Nat → Nat, b ls.length = hi ∧ ∀ i, (h : i < ls.length) → b i ≤ b (i + 1) ∧ LOk L ls[i] (b i) (b (i + 1)) := by
  induction h with
  | nil hi => exact ⟨fun _ => hi, rfl, fun i h => absurd h (by simp)⟩
  | snoc ls l lo hi h hlo ho ih =>
    obtain ⟨b, hb, hbs⟩ := ih
    refine ⟨fun i => if i ≤ ls.length then b i else hi, ?_, fun i hi' => ?_⟩
    · show (if (ls ++ [l]).length ≤ ls.length then b (ls ++ [l]).length else hi) = hi
      rw [if_neg (by rw [List.length_append, List.length_singleton]; omega)]
    · rw [List.length_append, List.length_singleton] at hi'
      by_cases c : i < ls.length
      · have e1 : (if i ≤ ls.length then b i else hi) = b i := if_pos (by omega)
        have e2 : (if i + 1 ≤ ls.length then b (i + 1) else hi) = b (i + 1) := if_pos (by omega)
        show (if i ≤ ls.length then b i else hi) ≤ (if i + 1 ≤ ls.length then b (i + 1) else hi) ∧ LOk L _ (if i ≤ ls.length then b i else hi) (if i + 1 ≤ ls.length then b (i + 1) else hi)
        rw [e1, e2, List.getElem_append_left c]
        exact hbs i c
      · have : i = ls.length := by omega
        subst this
        have e1 : (if ls.length ≤ ls.length then b ls.length else hi) = lo := by rw [if_pos (Nat.le_refl _)]; exact hb
        have e2 : (if ls.length + 1 ≤ ls.length then b (ls.length + 1) else hi) = hi := if_neg (by omega)
        show (if ls.length ≤ ls.length then b ls.length else hi) ≤ (if ls.length + 1 ≤ ls.length then b (ls.length + 1) else hi) ∧ LOk L _ (if ls.length ≤ ls.length then b ls.length else hi) (if ls.length + 1 ≤ ls.length then b (ls.length + 1) else hi)
        rw [e1, e2]
        refine ⟨hlo, ?_⟩
        simpa using ho
theorem places {L : List UInt8} {ls : List PL} (h : unfR L = (ls, 0, 0)) : ∃ b : Nat → Nat, b ls.length = L.length ∧ ∀ i, (h : i < ls.length) → b i ≤ b (i + 1) ∧ LOk L ls[i] (b i) (b (i + 1)) := by
  unfold unfR at h
  split at h
  · injection h with _ h; injection h with h _; cases h
  · exact (unf_lns L _ 0 [] ls (Nat.le_refl _) (Nat.zero_le _) (.nil 0) (fun h => absurd rfl h) h).bounds
end Go.Proofs.YtplobfnljlnkkaaDoor.Fld
