/- Characters of a text: how many bytes each has; where the text is gone through; plain facts. -/
import Derived.Lib.DecodeN
set_option linter.unusedVariables false
namespace Go.Proofs.YtndbgdapojkfaaaGreatDoor.Utf

/-- The least and the greatest second byte behind a first one. -/
def loN (b : Nat) : Nat := if b = 240 then 144 else if b = 224 then 160 else 128
def hiN (b : Nat) : Nat := if b = 244 then 143 else if b = 237 then 159 else 191
/-- How many bytes the character has that n bytes begin with; 0: the first one is bad. -/
def szN (n b0 b1 b2 b3 : Nat) : Nat :=
  if b0 < 128 then 1
  else if (194 ≤ b0 ∧ b0 ≤ 223) ∧ 1 < n ∧ 128 ≤ b1 ∧ b1 ≤ 191 then 2
  else if (224 ≤ b0 ∧ b0 ≤ 239) ∧ (1 < n ∧ loN b0 ≤ b1 ∧ b1 ≤ hiN b0) ∧ (2 < n ∧ 128 ≤ b2 ∧ b2 ≤ 191) then 3
  else if (240 ≤ b0 ∧ b0 ≤ 244) ∧ (1 < n ∧ loN b0 ≤ b1 ∧ b1 ≤ hiN b0) ∧ (2 < n ∧ 128 ≤ b2 ∧ b2 ≤ 191) ∧ (3 < n ∧ 128 ≤ b3 ∧ b3 ≤ 191) then 4
  else 0
/-- The byte at a place; 0 behind the end. -/
def at_ (l : List UInt8) (k : Nat) : Nat := (l.getD k 0).toNat
theorem at_lt (l : List UInt8) (k : Nat) : at_ l k < 256 := (l.getD k 0).toNat_lt
/-- How many bytes the first character has; 0: the first byte is bad. -/
def Sz (l : List UInt8) : Nat := szN l.length (at_ l 0) (at_ l 1) (at_ l 2) (at_ l 3)
/-- How far it is to the next place. -/
def wd (l : List UInt8) : Nat := if Sz l = 0 then 1 else Sz l
theorem szN_le (n b0 b1 b2 b3 : Nat) : szN n b0 b1 b2 b3 ≤ 4 ∧ (1 ≤ n → szN n b0 b1 b2 b3 ≤ n) := by
  unfold szN
  repeat' split
  all_goals omega
theorem Sz_le (l : List UInt8) (h : l ≠ []) : Sz l ≤ 4 ∧ Sz l ≤ l.length := by
  have hl : 1 ≤ l.length := List.length_pos_iff.2 h
  exact ⟨(szN_le _ _ _ _ _).1, (szN_le _ _ _ _ _).2 hl⟩
theorem wd_le (l : List UInt8) (h : l ≠ []) : 1 ≤ wd l ∧ wd l ≤ 4 ∧ wd l ≤ l.length := by
  have hl : 1 ≤ l.length := List.length_pos_iff.2 h
  have := Sz_le l h
  unfold wd
  split <;> omega

/-- What a size hangs on: the bytes that it counts. -/
theorem szN_pre {n m b0 b1 b2 b3 c0 c1 c2 c3 : Nat} (h : szN n b0 b1 b2 b3 ≠ 0) (hm : szN n b0 b1 b2 b3 ≤ m) (e0 : c0 = b0) (e1 : 1 < szN n b0 b1 b2 b3 → c1 = b1) (e2 : 2 < szN n b0 b1 b2 b3 → c2 = b2) (e3 : 3 < szN n b0 b1 b2 b3 → c3 = b3) :
    szN m c0 c1 c2 c3 = szN n b0 b1 b2 b3 := by
  subst e0
  by_cases h0 : c0 < 128
  · simp [szN, h0]
  by_cases h1 : (194 ≤ c0 ∧ c0 ≤ 223) ∧ 1 < n ∧ 128 ≤ b1 ∧ b1 ≤ 191
  · have e : szN n c0 b1 b2 b3 = 2 := by unfold szN; rw [if_neg h0, if_pos h1]
    rw [e] at h hm e1 e2 e3 ⊢
    have := e1 (by omega)
    subst this
    unfold szN; rw [if_neg h0, if_pos ⟨h1.1, by omega, h1.2.2⟩]
  by_cases h2 : (224 ≤ c0 ∧ c0 ≤ 239) ∧ (1 < n ∧ loN c0 ≤ b1 ∧ b1 ≤ hiN c0) ∧ (2 < n ∧ 128 ≤ b2 ∧ b2 ≤ 191)
  · have e : szN n c0 b1 b2 b3 = 3 := by unfold szN; rw [if_neg h0, if_neg h1, if_pos h2]
    rw [e] at h hm e1 e2 e3 ⊢
    have := e1 (by omega)
    subst this
    have := e2 (by omega)
    subst this
    unfold szN; rw [if_neg h0, if_neg (by omega), if_pos ⟨h2.1, ⟨by omega, h2.2.1.2⟩, by omega, h2.2.2.2⟩]
  by_cases h3 : (240 ≤ c0 ∧ c0 ≤ 244) ∧ (1 < n ∧ loN c0 ≤ b1 ∧ b1 ≤ hiN c0) ∧ (2 < n ∧ 128 ≤ b2 ∧ b2 ≤ 191) ∧ (3 < n ∧ 128 ≤ b3 ∧ b3 ≤ 191)
  · have e : szN n c0 b1 b2 b3 = 4 := by unfold szN; rw [if_neg h0, if_neg h1, if_neg h2, if_pos h3]
    rw [e] at h hm e1 e2 e3 ⊢
    have := e1 (by omega)
    subst this
    have := e2 (by omega)
    subst this
    have := e3 (by omega)
    subst this
    unfold szN; rw [if_neg h0, if_neg (by omega), if_neg (by omega), if_pos ⟨h3.1, ⟨by omega, h3.2.1.2⟩, ⟨by omega, h3.2.2.1.2⟩, by omega, h3.2.2.2.2⟩]
  · exact absurd (by unfold szN; rw [if_neg h0, if_neg h1, if_neg h2, if_neg h3]) h
theorem at_take {l x : List UInt8} {w k : Nat} (h : x.take w = l.take w) (hk : k < w) : at_ x k = at_ l k := by
  unfold at_
  have := congrArg (fun y => y.getD k 0) h
  simp only [List.getD_eq_getElem?_getD, List.getElem?_take, hk, if_true] at this
  simp only [List.getD_eq_getElem?_getD]
  rw [this]
theorem Sz_pre {l x : List UInt8} (h : Sz l ≠ 0) (hx : x.take (Sz l) = l.take (Sz l)) (hl : Sz l ≤ x.length) : Sz x = Sz l :=
  szN_pre h hl (at_take hx (by omega)) (fun k => at_take hx k) (fun k => at_take hx k) (fun k => at_take hx k)
/-- A beginning of a text that reaches as far as a place has what the text has there. -/
theorem Sz_take {l : List UInt8} {k : Nat} (hk : wd l ≤ k) (hl : l ≠ []) : Sz (l.take k) = Sz l := by
  have hw := wd_le l hl
  by_cases h : Sz l = 0
  · by_cases h2 : Sz (l.take k) = 0
    · rw [h, h2]
    · have hne : l.take k ≠ [] := by
        intro e
        have := congrArg List.length e
        rw [List.length_take] at this
        simp at this
        rcases this with h | h
        · omega
        · exact hl h
      have hs := (Sz_le _ hne).2
      rw [List.length_take] at hs
      have := Sz_pre (l := l.take k) (x := l) h2 (by rw [List.take_take]; congr 1; omega) (by omega)
      omega
  · have e : wd l = Sz l := by unfold wd; rw [if_neg h]
    exact Sz_pre h (by rw [List.take_take]; congr 1; omega) (by rw [List.length_take]; omega)
theorem wd_take {l : List UInt8} {k : Nat} (hk : wd l ≤ k) (hl : l ≠ []) : wd (l.take k) = wd l := by unfold wd; rw [Sz_take hk hl]

/-- The place of the first bad byte, counted from i; -1: none. -/
def badI (l : List UInt8) (i : Int) : Int := if h : l = [] then -1 else if Sz l = 0 then i else badI (l.drop (wd l)) (i + wd l)
termination_by l.length
decreasing_by have := wd_le l h; rw [List.length_drop]; omega
/-- Is the first byte bad, or a control? -/
def oddB (l : List UInt8) : Bool := decide (Sz l = 0 ∨ (at_ l 0 < 32 ∧ at_ l 0 ≠ 9) ∨ at_ l 0 = 127)
def oddI (l : List UInt8) (i : Int) : Int := if h : l = [] then -1 else if oddB l = true then i else oddI (l.drop (wd l)) (i + wd l)
termination_by l.length
decreasing_by have := wd_le l h; rw [List.length_drop]; omega
/-- How many places are gone through. -/
def lenN (l : List UInt8) : Nat := if h : l = [] then 0 else 1 + lenN (l.drop (wd l))
termination_by l.length
decreasing_by have := wd_le l h; rw [List.length_drop]; omega
/-- The greatest place that is not above n. -/
def cutN (n : Int) (l : List UInt8) : Nat := if h : l = [] then 0 else if (wd l : Int) ≤ n then wd l + cutN (n - wd l) (l.drop (wd l)) else 0
termination_by l.length
decreasing_by have := wd_le l h; rw [List.length_drop]; omega
theorem badI_nil (i : Int) : badI [] i = -1 := by rw [badI, dif_pos rfl]
theorem badI_hit {l : List UInt8} (h : l ≠ []) (hs : Sz l = 0) (i : Int) : badI l i = i := by rw [badI, dif_neg h, if_pos hs]
theorem badI_on {l : List UInt8} (h : l ≠ []) (hs : Sz l ≠ 0) (i : Int) : badI l i = badI (l.drop (wd l)) (i + wd l) := by rw [badI, dif_neg h, if_neg hs]
theorem oddI_nil (i : Int) : oddI [] i = -1 := by rw [oddI, dif_pos rfl]
theorem oddI_hit {l : List UInt8} (h : l ≠ []) (hs : oddB l = true) (i : Int) : oddI l i = i := by rw [oddI, dif_neg h, if_pos hs]
theorem oddI_on {l : List UInt8} (h : l ≠ []) (hs : ¬ oddB l = true) (i : Int) : oddI l i = oddI (l.drop (wd l)) (i + wd l) := by rw [oddI, dif_neg h, if_neg hs]
theorem lenN_nil : lenN [] = 0 := by rw [lenN, dif_pos rfl]
theorem lenN_on {l : List UInt8} (h : l ≠ []) : lenN l = 1 + lenN (l.drop (wd l)) := by rw [lenN, dif_neg h]
theorem cutN_nil (n : Int) : cutN n [] = 0 := by rw [cutN, dif_pos rfl]
theorem cutN_on {l : List UInt8} {n : Int} (h : l ≠ []) (hn : (wd l : Int) ≤ n) : cutN n l = wd l + cutN (n - wd l) (l.drop (wd l)) := by rw [cutN, dif_neg h, if_pos hn]
theorem cutN_stop {l : List UInt8} {n : Int} (h : l ≠ []) (hn : ¬ (wd l : Int) ≤ n) : cutN n l = 0 := by rw [cutN, dif_neg h, if_neg hn]

/-- Induction over the places of a text. -/
theorem placed {M : List UInt8 → Prop} (h0 : M []) (h1 : ∀ l, l ≠ [] → M (l.drop (wd l)) → M l) : ∀ l, M l := by
  have : ∀ (n : Nat) (l : List UInt8), l.length ≤ n → M l := by
    intro n
    induction n with
    | zero => intro l hl; have e : l = [] := List.eq_nil_of_length_eq_zero (by omega)
              subst e; exact h0
    | succ n ih =>
      intro l hl
      by_cases h : l = []
      · rw [h]; exact h0
      · exact h1 l h (ih _ (by have := wd_le l h; rw [List.length_drop]; omega))
  exact fun l => this l.length l (Nat.le_refl _)
theorem badI_ge : ∀ (l : List UInt8) (i : Int), 0 ≤ i → badI l i = -1 ∨ (i ≤ badI l i ∧ badI l i < i + l.length) := by
  refine placed (M := fun l => ∀ i : Int, 0 ≤ i → badI l i = -1 ∨ (i ≤ badI l i ∧ badI l i < i + l.length)) (fun i _ => .inl (badI_nil i)) (fun l h ih i hi => ?_)
  have hw := wd_le l h
  by_cases hs : Sz l = 0
  · rw [badI_hit h hs]; omega
  · rw [badI_on h hs]
    have := ih (i + wd l) (by omega)
    rw [List.length_drop] at this
    omega
theorem oddI_ge : ∀ (l : List UInt8) (i : Int), 0 ≤ i → oddI l i = -1 ∨ (i ≤ oddI l i ∧ oddI l i < i + l.length) := by
  refine placed (M := fun l => ∀ i : Int, 0 ≤ i → oddI l i = -1 ∨ (i ≤ oddI l i ∧ oddI l i < i + l.length)) (fun i _ => .inl (oddI_nil i)) (fun l h ih i hi => ?_)
  have hw := wd_le l h
  by_cases hs : oddB l = true
  · rw [oddI_hit h hs]; omega
  · rw [oddI_on h hs]
    have := ih (i + wd l) (by omega)
    rw [List.length_drop] at this
    omega
theorem lenN_le : ∀ l : List UInt8, lenN l ≤ l.length := by
  refine placed (by rw [lenN_nil]; simp) (fun l h ih => ?_)
  have hw := wd_le l h
  rw [lenN_on h]
  rw [List.length_drop] at ih
  omega
/-- Whether there is a bad byte hangs on no place. -/
theorem badI_none : ∀ (l : List UInt8) (i j : Int), 0 ≤ i → 0 ≤ j → badI l i = -1 → badI l j = -1 := by
  refine placed (M := fun l => ∀ i j : Int, 0 ≤ i → 0 ≤ j → badI l i = -1 → badI l j = -1) (fun i j _ _ _ => badI_nil j) (fun l h ih i j hi hj he => ?_)
  by_cases hs : Sz l = 0
  · rw [badI_hit h hs] at he; omega
  · rw [badI_on h hs] at he ⊢
    exact ih _ _ (by omega) (by omega) he

theorem cutN_neg {n : Int} (hn : n ≤ 0) (l : List UInt8) : cutN n l = 0 := by
  by_cases h : l = []
  · rw [h, cutN_nil]
  · have := wd_le l h
    rw [cutN_stop h (by omega)]
theorem cutN_le : ∀ (l : List UInt8) (n : Int), cutN n l ≤ l.length ∧ (0 ≤ n → (cutN n l : Int) ≤ n) := by
  refine placed (M := fun l => ∀ n : Int, cutN n l ≤ l.length ∧ (0 ≤ n → (cutN n l : Int) ≤ n)) (fun n => by rw [cutN_nil]; simp) (fun l h ih n => ?_)
  have hw := wd_le l h
  by_cases hn : (wd l : Int) ≤ n
  · rw [cutN_on h hn]
    have := ih (n - wd l)
    rw [List.length_drop] at this
    omega
  · rw [cutN_stop h hn]
    omega
theorem cutN_all : ∀ (l : List UInt8) (n : Int), (l.length : Int) ≤ n → cutN n l = l.length := by
  refine placed (M := fun l => ∀ n : Int, (l.length : Int) ≤ n → cutN n l = l.length) (fun n _ => by rw [cutN_nil]; rfl) (fun l h ih n hn => ?_)
  have hw := wd_le l h
  rw [cutN_on h (by omega), ih _ (by rw [List.length_drop]; omega), List.length_drop]
  omega
theorem cutN_near : ∀ (l : List UInt8) (n : Int), 0 ≤ n → min n l.length ≤ (cutN n l : Int) + 3 := by
  refine placed (M := fun l => ∀ n : Int, 0 ≤ n → min n l.length ≤ (cutN n l : Int) + 3) (fun n _ => by rw [cutN_nil]; simp; omega) (fun l h ih n hn => ?_)
  have hw := wd_le l h
  by_cases hn : (wd l : Int) ≤ n
  · rw [cutN_on h hn]
    have := ih (n - wd l) (by omega)
    rw [List.length_drop] at this
    omega
  · rw [cutN_stop h hn]
    omega
theorem ne_nil_take {l : List UInt8} {k : Nat} (h : l ≠ []) (hk : 1 ≤ k) : l.take k ≠ [] := by
  intro e
  have := congrArg List.length e
  rw [List.length_take] at this
  have := List.length_pos_iff.2 h
  simp only [List.length_nil] at *
  omega
/-- Two parts, cut at a place. -/
theorem parts : ∀ (l : List UInt8) (n : Int), lenN (l.take (cutN n l)) + lenN (l.drop (cutN n l)) = lenN l ∧ cutN n (l.take (cutN n l)) = cutN n l ∧ cutN (cutN n l : Int) l = cutN n l ∧
    (badI l 0 = -1 → badI (l.take (cutN n l)) 0 = -1 ∧ badI (l.drop (cutN n l)) 0 = -1) ∧ (badI (l.take (cutN n l)) 0 = -1 → badI (l.drop (cutN n l)) 0 = -1 → badI l 0 = -1) := by
  refine placed (M := fun l => ∀ n : Int, lenN (l.take (cutN n l)) + lenN (l.drop (cutN n l)) = lenN l ∧ cutN n (l.take (cutN n l)) = cutN n l ∧ cutN (cutN n l : Int) l = cutN n l ∧
    (badI l 0 = -1 → badI (l.take (cutN n l)) 0 = -1 ∧ badI (l.drop (cutN n l)) 0 = -1) ∧ (badI (l.take (cutN n l)) 0 = -1 → badI (l.drop (cutN n l)) 0 = -1 → badI l 0 = -1)) (fun n => ?_) (fun l h ih n => ?_)
  · rw [cutN_nil]
    simp [lenN_nil, cutN_nil, badI_nil]
  · have hw := wd_le l h
    by_cases hn : (wd l : Int) ≤ n
    · obtain ⟨i1, i2, i3, i4, i5⟩ := ih (n - wd l)
      rw [cutN_on h hn]
      generalize hk : cutN (n - wd l) (l.drop (wd l)) = k at *
      have hx : l.take (wd l + k) ≠ [] := ne_nil_take h (by omega)
      have hs := Sz_take (l := l) (k := wd l + k) (by omega) h
      have hwx := wd_take (l := l) (k := wd l + k) (by omega) h
      have hd : (l.take (wd l + k)).drop (wd l) = (l.drop (wd l)).take k := by rw [List.drop_take]; congr 1; omega
      have hd2 : l.drop (wd l + k) = (l.drop (wd l)).drop k := by rw [List.drop_drop]
      refine ⟨?_, ?_, ?_, ?_, ?_⟩
      · rw [lenN_on hx, lenN_on h, hwx, hd, hd2]
        omega
      · rw [cutN_on hx (by rw [hwx]; exact hn), hwx, hd, i2]
      · rw [cutN_on h (by omega), show ((wd l + k : Nat) : Int) - wd l = (k : Int) by omega, i3]
      · intro hb
        by_cases hz : Sz l = 0
        · rw [badI_hit h hz] at hb; omega
        · rw [badI_on h hz] at hb
          have hb0 := badI_none _ _ 0 (by omega) (by omega) hb
          obtain ⟨j1, j2⟩ := i4 hb0
          rw [hd2]
          refine ⟨?_, j2⟩
          rw [badI_on hx (by rw [hs]; exact hz), hwx, hd]
          exact badI_none _ _ _ (by omega) (by omega) j1
      · intro hb1 hb2
        by_cases hz : Sz l = 0
        · rw [badI_hit hx (by rw [hs]; exact hz)] at hb1; omega
        · rw [badI_on hx (by rw [hs]; exact hz), hwx, hd] at hb1
          rw [hd2] at hb2
          rw [badI_on h hz]
          exact badI_none _ _ _ (by omega) (by omega) (i5 (badI_none _ _ _ (by omega) (by omega) hb1) hb2)
    · rw [cutN_stop h hn]
      simp only [List.take_zero, List.drop_zero, lenN_nil, cutN_nil, badI_nil]
      refine ⟨by omega, trivial, cutN_neg (by simp) l, fun hb => ⟨trivial, hb⟩, fun _ hb => hb⟩

/-- A letter in capitals. -/
def up (b : UInt8) : UInt8 := if 97 ≤ b.toNat ∧ b.toNat ≤ 122 then UInt8.ofNat (b.toNat - 32) else b
theorem up_nat (b : UInt8) : (up b).toNat = if 97 ≤ b.toNat ∧ b.toNat ≤ 122 then b.toNat - 32 else b.toNat := by
  have := b.toNat_lt
  unfold up
  split
  · rw [UInt8.toNat_ofNat']; omega
  · rfl
theorem up_up (b : UInt8) : up (up b) = up b := by
  apply UInt8.toNat_inj.1
  have h1 := up_nat b
  have h2 := up_nat (up b)
  split at h1 <;> split at h2 <;> omega
theorem at_up (l : List UInt8) (k : Nat) : at_ (l.map up) k = if 97 ≤ at_ l k ∧ at_ l k ≤ 122 then at_ l k - 32 else at_ l k := by
  unfold at_
  rw [List.getD_eq_getElem?_getD, List.getElem?_map, List.getD_eq_getElem?_getD]
  cases l[k]? with
  | none => rfl
  | some b => exact up_nat b
theorem szN_up {n b0 b1 b2 b3 c0 c1 c2 c3 : Nat} (e0 : c0 = if 97 ≤ b0 ∧ b0 ≤ 122 then b0 - 32 else b0) (e1 : c1 = if 97 ≤ b1 ∧ b1 ≤ 122 then b1 - 32 else b1) (e2 : c2 = if 97 ≤ b2 ∧ b2 ≤ 122 then b2 - 32 else b2) (e3 : c3 = if 97 ≤ b3 ∧ b3 ≤ 122 then b3 - 32 else b3) : szN n c0 c1 c2 c3 = szN n b0 b1 b2 b3 := by
  by_cases h0 : b0 < 128
  · have : c0 < 128 := by rw [e0]; split <;> omega
    simp [szN, h0, this]
  · have h : c0 = b0 := by rw [e0, if_neg (by omega)]
    subst h
    have t : ∀ {b c lo hi : Nat}, 128 ≤ lo → c = (if 97 ≤ b ∧ b ≤ 122 then b - 32 else b) → ((lo ≤ c ∧ c ≤ hi) ↔ (lo ≤ b ∧ b ≤ hi)) := by
      intro b c lo hi hl e
      rw [e]
      split <;> omega
    have hl : 128 ≤ loN c0 := by unfold loN; repeat' split
                                 all_goals omega
    unfold szN
    simp only [t (Nat.le_refl 128) e1, t (Nat.le_refl 128) e2, t (Nat.le_refl 128) e3, t hl e1]
theorem Sz_up (l : List UInt8) : Sz (l.map up) = Sz l := by
  unfold Sz
  rw [List.length_map]
  exact szN_up (at_up l 0) (at_up l 1) (at_up l 2) (at_up l 3)
theorem wd_up (l : List UInt8) : wd (l.map up) = wd l := by unfold wd; rw [Sz_up]
theorem oddB_up (l : List UInt8) : oddB (l.map up) = oddB l := by
  unfold oddB
  rw [Sz_up, at_up]
  congr 1
  apply propext
  split <;> omega
theorem badI_up : ∀ (l : List UInt8) (i : Int), badI (l.map up) i = badI l i := by
  refine placed (M := fun l => ∀ i : Int, badI (l.map up) i = badI l i) (fun i => rfl) (fun l h ih i => ?_)
  have hm : l.map up ≠ [] := by simpa using h
  by_cases hs : Sz l = 0
  · rw [badI_hit h hs, badI_hit hm (by rw [Sz_up]; exact hs)]
  · rw [badI_on h hs, badI_on hm (by rw [Sz_up]; exact hs), wd_up, ← List.map_drop, ih]
theorem oddI_up : ∀ (l : List UInt8) (i : Int), oddI (l.map up) i = oddI l i := by
  refine placed (M := fun l => ∀ i : Int, oddI (l.map up) i = oddI l i) (fun i => rfl) (fun l h ih i => ?_)
  have hm : l.map up ≠ [] := by simpa using h
  by_cases hs : oddB l = true
  · rw [oddI_hit h hs, oddI_hit hm (by rw [oddB_up]; exact hs)]
  · rw [oddI_on h hs, oddI_on hm (by rw [oddB_up]; exact hs), wd_up, ← List.map_drop, ih]
theorem map_up_up (l : List UInt8) : (l.map up).map up = l.map up := by simp [up_up]
end Go.Proofs.YtndbgdapojkfaaaGreatDoor.Utf
