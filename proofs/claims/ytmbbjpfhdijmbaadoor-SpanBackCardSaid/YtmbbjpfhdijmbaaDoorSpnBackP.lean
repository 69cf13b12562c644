/- Plain facts: what is printed is parsed as it was. -/
import Derived.Test.YtmbbjpfhdijmbaaDoorSpnRPriA
namespace Go.Proofs.YtmbbjpfhdijmbaaDoor.Spn

theorem dec_nat : ∀ (k : Nat) (n : Int), n.toNat < k → 0 ≤ n → allD (dec n) = true ∧ dv (dec n) = n
  | 0, n, hk, _ => by omega
  | k + 1, n, hk, h0 => by
    by_cases h : n < 10
    · rw [dec_one h0 h]
      have := dgt_nat n
      exact ⟨by simp [allD, dgt_dig], by simp [dv]; omega⟩
    · obtain ⟨h1, h2⟩ := dec_nat k (n / 10) (by omega) (by omega)
      have := dgt_nat n
      rw [dec_step (by omega)]
      rw [allD_iff] at h1 ⊢
      refine ⟨fun b hb => ?_, by rw [dv_snoc, h2]; omega⟩
      rcases List.mem_append.1 hb with hb | hb
      · exact h1 b hb
      · rw [List.mem_singleton.1 hb]; exact dgt_dig n
theorem dec_all {n : Int} (h0 : 0 ≤ n) : allD (dec n) = true := (dec_nat (n.toNat + 1) n (by omega) h0).1
theorem dv_dec {n : Int} (h0 : 0 ≤ n) : dv (dec n) = n := (dec_nat (n.toNat + 1) n (by omega) h0).2

theorem nx_dec {n : Int} {c : UInt8} (h0 : 0 ≤ n) (h1 : n ≤ 999999) (hc : isDg c = false) (r : List UInt8) :
    nxC (dec n ++ c :: r) = c ∧ nxN (dec n ++ c :: r) = n ∧ nxR (dec n ++ c :: r) = r := by
  have hk := cnt_app (dec_all h0) hc r
  obtain ⟨l1, l6⟩ := dec_len h0 h1
  have ho : okN (dec n ++ c :: r) = true := okN_iff.2 ⟨by omega, by omega, by rw [hk]; simp⟩
  obtain ⟨e1, e2, e3⟩ := nx_ok ho
  refine ⟨?_, ?_, ?_⟩
  · rw [e2]; simp [hk]
  · rw [e1, hk, List.take_left, dv_dec h0]
  · rw [e3, hk]; simp
theorem nx_start {c : UInt8} (hc : isDg c = false) (r : List UInt8) : nxC (c :: r) = 0 := by
  refine (nx_not ?_).2.1
  have : cnt (c :: r) = 0 := by simp [cnt, hc]
  rcases e : okN (c :: r) with _ | _
  · rfl
  · have := (okN_iff.1 e).1; omega
theorem nx_nil : nxC [] = 0 := by decide

/-- A part that was printed is taken; where none was, the text stays. -/
theorem tk_pt {n : Int} {c : UInt8} (h0 : 0 ≤ n) (h1 : n ≤ 999999) (hc : isDg c = false) (r : List UInt8) (hr : n = 0 → nxC r ≠ c) :
    tkN c (pt n c ++ r) = n ∧ tkR c (pt n c ++ r) = r := by
  by_cases h : n = 0
  · subst h
    rw [pt_zero, List.nil_append]
    exact ⟨(tk_not (hr rfl)).1, (tk_not (hr rfl)).2⟩
  · rw [pt_some h, List.append_assoc, List.singleton_append]
    obtain ⟨e1, e2, e3⟩ := nx_dec h0 h1 hc r
    rw [(tk_yes e1).1, (tk_yes e1).2]
    exact ⟨e2, e3⟩
theorem nx_pt {n : Int} {c : UInt8} (h0 : 0 ≤ n) (h1 : n ≤ 999999) (hc : isDg c = false) (r : List UInt8) : nxC (pt n c ++ r) = if n = 0 then nxC r else c := by
  by_cases h : n = 0
  · rw [if_pos h]; subst h; rw [pt_zero, List.nil_append]
  · rw [if_neg h, pt_some h, List.append_assoc, List.singleton_append]
    exact (nx_dec h0 h1 hc r).1

/-- A time that was printed is told. -/
theorem ck_back {a b c : Int} (a0 : 0 ≤ a) (a1 : a ≤ 999999) (b0 : 0 ≤ b) (b1 : b ≤ 999999) (c0 : 0 ≤ c) (c1 : c ≤ 999999) (h : 0 < a + b + c) :
    ckB (pt a 72 ++ pt b 77 ++ pt c 83) = true ∧ ckV (pt a 72 ++ pt b 77 ++ pt c 83) = a * 3600 + b * 60 + c := by
  have d72 : isDg 72 = false := by decide
  have d77 : isDg 77 = false := by decide
  have d83 : isDg 83 = false := by decide
  have n3 := nx_pt c0 c1 d83 []
  rw [List.append_nil] at n3
  have n2 := nx_pt b0 b1 d77 (pt c 83)
  have n1 := nx_pt a0 a1 d72 (pt b 77 ++ pt c 83)
  rw [nx_nil] at n3
  have t1 := tk_pt a0 a1 d72 (pt b 77 ++ pt c 83) (fun _ => by
    rw [n2, n3]
    by_cases qb : b = 0
    · rw [if_pos qb]; split <;> decide
    · rw [if_neg qb]; decide)
  have t2 := tk_pt b0 b1 d77 (pt c 83) (fun _ => by rw [n3]; split <;> decide)
  have t3 := tk_pt c0 c1 d83 [] (fun _ => by decide)
  rw [List.append_nil] at t3
  rw [List.append_assoc]
  have e1 : ck1 (pt a 72 ++ (pt b 77 ++ pt c 83)) = pt b 77 ++ pt c 83 := t1.2
  have e2 : ck2 (pt a 72 ++ (pt b 77 ++ pt c 83)) = pt c 83 := by unfold ck2; rw [e1]; exact t2.2
  have e3 : ck3 (pt a 72 ++ (pt b 77 ++ pt c 83)) = [] := by unfold ck3; rw [e2]; exact t3.2
  have eh : hms (pt a 72 ++ (pt b 77 ++ pt c 83)) = true := by
    unfold hms
    rw [n1, n2, n3]
    by_cases qa : a = 0
    · by_cases qb : b = 0
      · rw [if_pos qa, if_pos qb, if_neg (by omega)]; decide
      · rw [if_pos qa, if_neg qb]; decide
    · rw [if_neg qa]; decide
  refine ⟨by unfold ckB; rw [eh, e3]; rfl, ?_⟩
  unfold ckV ckS
  rw [if_pos eh, e1, e2, t1.1, t2.1, t3.1]

theorem le_back {m : Int} (h0 : 0 < m) (h1 : m ≤ maxS) : leB (bdL m) = true ∧ leV (bdL m) = m := by
  unfold maxS at h1
  have d68 : isDg 68 = false := by decide
  have d84 : isDg 84 = false := by decide
  have d87 : isDg 87 = false := by decide
  by_cases hw : m % 604800 = 0
  · have e : bdL m = dec (m / 604800) ++ 87 :: [] := if_pos hw
    rw [e]
    obtain ⟨e1, e2, e3⟩ := nx_dec (n := m / 604800) (by omega) (by omega) d87 []
    obtain ⟨f1, f2⟩ := le_a e1
    rw [f1, f2, e2, e3]
    exact ⟨rfl, by omega⟩
  · rw [bd_rest hw]
    by_cases ht : m % 86400 = 0
    · rw [ht, tm_zero, pt_some (by omega), List.append_assoc, List.append_nil]
      obtain ⟨e1, e2, e3⟩ := nx_dec (n := m / 86400) (c := 68) (by omega) (by omega) d68 []
      obtain ⟨f1, f2⟩ := le_b e1 e3
      rw [f1, f2, e2]
      exact ⟨rfl, by omega⟩
    · rw [tm_some ht]
      obtain ⟨g1, g2⟩ := ck_back (a := m % 86400 / 3600) (b := m % 86400 % 3600 / 60) (c := m % 86400 % 60) (by omega) (by omega) (by omega) (by omega) (by omega) (by omega) (by omega)
      generalize pt (m % 86400 / 3600) 72 ++ pt (m % 86400 % 3600 / 60) 77 ++ pt (m % 86400 % 60) 83 = t at *
      have n1 := nx_pt (n := m / 86400) (by omega) (by omega) d68 (84 :: t)
      rw [nx_start d84] at n1
      obtain ⟨k1, k2⟩ := tk_pt (n := m / 86400) (by omega) (by omega) d68 (84 :: t) (fun _ => by rw [nx_start d84]; decide)
      have hn : ¬ nxC (pt (m / 86400) 68 ++ 84 :: t) = 87 := by rw [n1]; split <;> decide
      have hr : ¬ (nxC (pt (m / 86400) 68 ++ 84 :: t) = 68 ∧ nxR (pt (m / 86400) 68 ++ 84 :: t) = []) := by
        rintro ⟨q1, q2⟩
        have := (tk_yes q1).2
        rw [k2, q2] at this
        cases this
      obtain ⟨f1, f2⟩ := le_c hn hr
      rw [f1, f2, k1, k2]
      have hT : isT (84 :: t) = true := rfl
      rw [hT, if_pos rfl]
      show (true && ckB t) = true ∧ m / 86400 * 86400 + ckV t = m
      rw [g1, g2]
      exact ⟨rfl, by omega⟩

/-- What is printed is parsed as it was. -/
theorem pa_back {n : Int} (h0 : -maxS ≤ n) (h1 : n ≤ maxS) : paE (prT n) = 0 ∧ paV (prT n) = n := by
  rcases Int.lt_trichotomy n 0 with h | h | h
  · obtain ⟨m, rfl⟩ : ∃ m, n = -m := ⟨-n, by omega⟩
    have e : prT (-m) = 45 :: 80 :: bdL m := by unfold prT; rw [if_neg (by omega), if_pos h, Int.neg_neg]
    rw [e]
    obtain ⟨f1, f2⟩ := le_back (m := m) (by omega) (by omega)
    have eb : bdy (45 :: 80 :: bdL m) = bdL m := rfl
    obtain ⟨e1, e2⟩ := pa_ok (l := 45 :: 80 :: bdL m) rfl (by rw [eb]; exact f1) (by rw [eb, f2]; omega)
    refine ⟨e1, ?_⟩
    rw [e2, eb, f2]
    show -1 * m = -m
    omega
  · subst h
    decide
  · have e : prT n = 80 :: bdL n := by unfold prT; rw [if_neg (by omega), if_neg (by omega)]
    rw [e]
    obtain ⟨f1, f2⟩ := le_back (m := n) h h1
    have eb : bdy (80 :: bdL n) = bdL n := rfl
    obtain ⟨e1, e2⟩ := pa_ok (l := 80 :: bdL n) rfl (by rw [eb]; exact f1) (by rw [eb, f2]; omega)
    refine ⟨e1, ?_⟩
    rw [e2, eb, f2]
    show 1 * n = n
    omega
theorem pr_ok {n : Int} (h0 : -maxS ≤ n) (h1 : n ≤ maxS) : prE n = 0 ∧ prL n = prT n := by
  have := spI_iff.2 ⟨h0, h1⟩
  exact ⟨if_pos this, if_pos this⟩
theorem bd_len {m : Int} (h0 : 0 < m) (h1 : m ≤ maxS) : (bdL m).length ≤ 40 := by
  unfold maxS at h1
  unfold bdL
  split
  · have := dec_len (n := m / 604800) (by omega) (by omega); simp; omega
  · have a := pt_len (n := m / 86400) (c := 68) (by omega) (by omega)
    unfold tmL
    split
    · simp; omega
    · have b := pt_len (n := m % 86400 / 3600) (c := 72) (by omega) (by omega)
      have c := pt_len (n := m % 86400 % 3600 / 60) (c := 77) (by omega) (by omega)
      have d := pt_len (n := m % 86400 % 60) (c := 83) (by omega) (by omega)
      simp only [List.length_append, List.length_cons]
      omega
theorem pr_len {n : Int} (h0 : -maxS ≤ n) (h1 : n ≤ maxS) : (prT n).length ≤ 42 ∧ prT n ≠ [] := by
  unfold prT
  split
  · simp
  · split
    · have := bd_len (m := -n) (by omega) (by omega)
      exact ⟨by simp; omega, by simp⟩
    · have := bd_len (m := n) (by omega) (by omega)
      exact ⟨by simp; omega, by simp⟩

/-- The same of offsets. -/
theorem po_ok {n : Int} (h0 : -86399 ≤ n) (h1 : n ≤ 86399) : poE n = 0 ∧ poL n = poT n := by
  have := poI_iff.2 ⟨h0, h1⟩
  exact ⟨if_pos this, if_pos this⟩
theorem of_back1 {m : Int} {b : UInt8} (h0 : 0 ≤ m) (h1 : m ≤ 86399) (hb : b = 45 ∨ b = 43) (h2 : b = 45 → 0 < m) : ofE (b :: poB m) = 0 ∧ ofV (b :: poB m) = sgV (b :: poB m) * m := by
  have w1 := dv_of_two (n := m / 3600) (by omega) (by omega)
  have w2 := dv_of_two (n := m % 3600 / 60) (by omega) (by omega)
  have w3 := dv_of_two (n := m % 60) (by omega) (by omega)
  unfold two at w1 w2 w3
  have key : ofF (b :: poB m) = true ∧ ofH (b :: poB m) = m / 3600 ∧ ofM (b :: poB m) = m % 3600 / 60 ∧ ofS (b :: poB m) = m % 60 := by
    unfold poB two
    by_cases q : m % 60 = 0
    · rw [if_pos q]
      refine ⟨ofF_iff.2 ⟨by simp, by rcases hb with hb | hb <;> simp [hb], by simp [allD, dgt_dig]⟩, ?_, ?_, ?_⟩
      · simpa [ofH] using w1
      · simpa [ofM] using w2
      · simp [ofS]; omega
    · rw [if_neg q]
      refine ⟨ofF_iff.2 ⟨by simp, by rcases hb with hb | hb <;> simp [hb], by simp [allD, dgt_dig]⟩, ?_, ?_, ?_⟩
      · simpa [ofH] using w1
      · simpa [ofM] using w2
      · simpa [ofS] using w3
  obtain ⟨k1, k2, k3, k4⟩ := key
  have en : ofN (b :: poB m) = m := by unfold ofN; rw [k2, k3, k4]; omega
  have hr : ofR (b :: poB m) = false := by
    unfold ofR
    rw [k2, k3, k4, en]
    rcases hb with hb | hb
    · have := h2 hb
      simp [hb]; omega
    · simp [hb]; omega
  obtain ⟨e1, e2⟩ := of_ok k1 hr
  exact ⟨e1, by rw [e2, en]⟩
theorem of_back {n : Int} (h0 : -86399 ≤ n) (h1 : n ≤ 86399) : ofE (poT n) = 0 ∧ ofV (poT n) = n := by
  unfold poT
  split
  · obtain ⟨e1, e2⟩ := of_back1 (m := -n) (b := 45) (by omega) (by omega) (Or.inl rfl) (fun _ => by omega)
    refine ⟨e1, ?_⟩
    rw [e2]
    show -1 * -n = n
    omega
  · obtain ⟨e1, e2⟩ := of_back1 (m := n) (b := 43) (by omega) (by omega) (Or.inr rfl) (fun h => by cases h)
    refine ⟨e1, ?_⟩
    rw [e2]
    show 1 * n = n
    omega
theorem po_len (n : Int) : (poT n).length ≤ 7 ∧ poT n ≠ [] := by
  have : ∀ m, (poB m).length ≤ 6 := fun m => by unfold poB two; split <;> simp
  unfold poT
  split
  · have := this (-n); exact ⟨by simp; omega, by simp⟩
  · have := this n; exact ⟨by simp; omega, by simp⟩
end Go.Proofs.YtmbbjpfhdijmbaaDoor.Spn
