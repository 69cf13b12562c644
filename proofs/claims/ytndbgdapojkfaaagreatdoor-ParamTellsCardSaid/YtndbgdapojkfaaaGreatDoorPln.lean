import Derived.Test.YtndbgdapojkfaaaGreatDoorUtfPlain

/- Characters, one behind the other, none of them bad, none a control: plain facts (of use wherever a text must not be odd). -/
set_option linter.unusedVariables false
namespace Go.Proofs.YtndbgdapojkfaaaGreatDoor.Chr
open Go.Proofs.YtndbgdapojkfaaaGreatDoor.Utf

/-- A whole character, and no control. -/
structure Ch (c : List UInt8) : Prop where
  ne : c ≠ []
  sz : Sz c = c.length
  ok : ¬ ((at_ c 0 < 32 ∧ at_ c 0 ≠ 9) ∨ at_ c 0 = 127)
theorem at_zero (c r : List UInt8) (h : c ≠ []) : at_ (c ++ r) 0 = at_ c 0 := by
  cases c with
  | nil => exact absurd rfl h
  | cons b t => rfl
theorem Ch.sz_app {c : List UInt8} (h : Ch c) (r : List UInt8) : Sz (c ++ r) = c.length := by
  have hl := List.length_pos_iff.2 h.ne
  have := Sz_pre (l := c) (x := c ++ r) (by rw [h.sz]; omega) (by rw [h.sz, List.take_left', List.take_length]; rfl) (by rw [h.sz, List.length_append]; omega)
  rw [this, h.sz]
theorem Ch.wd_app {c : List UInt8} (h : Ch c) (r : List UInt8) : wd (c ++ r) = c.length := by
  have hl := List.length_pos_iff.2 h.ne
  unfold wd
  rw [h.sz_app r, if_neg (by omega)]
theorem Ch.odd_app {c : List UInt8} (h : Ch c) (r : List UInt8) : oddB (c ++ r) = false := by
  have hl := List.length_pos_iff.2 h.ne
  apply decide_eq_false
  rw [h.sz_app r, at_zero c r h.ne]
  intro x
  rcases x with x | x
  · omega
  · exact h.ok x
/-- Good characters, one behind the other. -/
inductive Gd : List UInt8 → Prop
  | nil : Gd []
  | cons (c r : List UInt8) (hc : Ch c) (h : Gd r) : Gd (c ++ r)
theorem Gd.append {a b : List UInt8} (ha : Gd a) (hb : Gd b) : Gd (a ++ b) := by
  induction ha with
  | nil => exact hb
  | cons c r hc _ ih => rw [List.append_assoc]; exact .cons c _ hc ih
theorem Gd.odd {L : List UInt8} (h : Gd L) : ∀ i : Int, oddI L i = -1 := by
  induction h with
  | nil => exact oddI_nil
  | cons c r hc _ ih =>
    intro i
    have hne : c ++ r ≠ [] := by simp [hc.ne]
    rw [oddI_on hne (by rw [hc.odd_app r]; decide), hc.wd_app r, List.drop_left]
    exact ih _
theorem gd_of : ∀ (L : List UInt8) (i : Int), 0 ≤ i → oddI L i = -1 → Gd L := by
  refine placed (M := fun L => ∀ i : Int, 0 ≤ i → oddI L i = -1 → Gd L) (fun _ _ _ => .nil) (fun L h ih i hi ho => ?_)
  have hw := wd_le L h
  by_cases hb : oddB L = true
  · rw [oddI_hit h hb] at ho; omega
  · rw [oddI_on h hb] at ho
    have hg := ih _ (by omega) ho
    have hb' : ¬ (Sz L = 0 ∨ (at_ L 0 < 32 ∧ at_ L 0 ≠ 9) ∨ at_ L 0 = 127) := fun x => hb (decide_eq_true x)
    have hz : Sz L ≠ 0 := fun x => hb' (.inl x)
    have hwz : wd L = Sz L := by unfold wd; rw [if_neg hz]
    have hlen : (L.take (wd L)).length = wd L := by rw [List.length_take]; omega
    have hc : Ch (L.take (wd L)) := by
      refine ⟨fun e => ?_, ?_, ?_⟩
      · rw [e] at hlen; simp at hlen; omega
      · rw [Sz_take (Nat.le_refl _) h, hlen, hwz]
      · have e : at_ (L.take (wd L)) 0 = at_ L 0 := at_take (w := wd L) (by rw [List.take_take, Nat.min_self]) (by omega)
        rw [e]
        exact fun x => hb' (.inr x)
    have := Gd.cons _ _ hc hg
    rwa [List.take_append_drop] at this
theorem odd_gd {L : List UInt8} : oddI L 0 = -1 ↔ Gd L := ⟨gd_of L 0 (Int.le_refl _), fun h => h.odd 0⟩
theorem odd_ge {L : List UInt8} (h : ¬ oddI L 0 = -1) : 0 ≤ oddI L 0 := by
  have := oddI_ge L 0 (Int.le_refl _)
  omega
/-- A single good byte. -/
def Asc (b : UInt8) : Prop := b.toNat < 128 ∧ ¬ ((b.toNat < 32 ∧ b.toNat ≠ 9) ∨ b.toNat = 127)
theorem Asc.ch {b : UInt8} (h : Asc b) : Ch [b] := by
  refine ⟨by simp, ?_, h.2⟩
  unfold Sz szN
  rw [if_pos (show at_ [b] 0 < 128 from h.1)]
  rfl
theorem Asc.gd {b : UInt8} (h : Asc b) {r : List UInt8} (hr : Gd r) : Gd (b :: r) := .cons [b] r h.ch hr
theorem at_mem (c : List UInt8) {k : Nat} (h : k < c.length) : at_ c k = (c[k]).toNat := by
  unfold at_
  rw [List.getD_eq_getElem?_getD, List.getElem?_eq_getElem h]
  rfl
/-- A character is one byte below 128, or all its bytes are above. -/
theorem Ch.cases {c : List UInt8} (h : Ch c) : (∃ b, c = [b] ∧ Asc b) ∨ ∀ b ∈ c, 128 ≤ b.toNat := by
  have hz := h.sz
  have hl := List.length_pos_iff.2 h.ne
  by_cases h1 : at_ c 0 < 128
  · have h1' : Sz c = 1 := by unfold Sz szN; rw [if_pos h1]
    rw [h1'] at hz
    match c, hz with
    | [b], _ => exact .inl ⟨b, rfl, h1, h.ok⟩
  · refine .inr (fun b hb => ?_)
    obtain ⟨k, hk, rfl⟩ := List.mem_iff_getElem.1 hb
    rw [← at_mem c hk]
    rcases Nat.eq_zero_or_pos k with h0 | h0
    · subst h0; omega
    · have h4 := (Sz_le c h.ne).1
      have hlo : 128 ≤ loN (at_ c 0) := by unfold loN; split <;> (try split) <;> omega
      unfold Sz szN at hz
      rw [if_neg h1] at hz
      have hk4 : k < 4 := by rw [h.sz] at h4; omega
      have key : (1 < c.length → 128 ≤ at_ c 1) ∧ (2 < c.length → 128 ≤ at_ c 2) ∧ (3 < c.length → 128 ≤ at_ c 3) := by
        refine ⟨fun _ => ?_, fun _ => ?_, fun _ => ?_⟩ <;> (revert hz; repeat' split) <;> intro hz <;> omega
      match k, h0, hk4 with
      | 1, _, _ => exact key.1 hk
      | 2, _, _ => exact key.2.1 hk
      | 3, _, _ => exact key.2.2 hk
/-- Behind a byte below 128 that begins good characters, there are good characters. -/
theorem Gd.tail {b : UInt8} {t : List UInt8} (h : Gd (b :: t)) (hb : b.toNat < 128) : Asc b ∧ Gd t := by
  generalize hq : b :: t = L at h
  cases h with
  | nil => cases hq
  | cons c r hc hr =>
    rcases hc.cases with ⟨x, rfl, hx⟩ | hx
    · have e : b :: t = x :: r := hq
      injection e with e1 e2
      subst e1 e2
      exact ⟨hx, hr⟩
    · have hne := hc.ne
      match c, hne with
      | x :: c', _ =>
        have e : b :: t = x :: (c' ++ r) := hq
        injection e with e1 e2
        subst e1
        have := hx b (by simp)
        omega
/-- Induction over good characters: a byte below 128, or some bytes that are all above. -/
theorem Gd.chars {M : List UInt8 → Prop} (h0 : M []) (h1 : ∀ (b : UInt8) (r : List UInt8), Asc b → Gd r → M r → M (b :: r)) (h2 : ∀ (c r : List UInt8), Ch c → (∀ b ∈ c, 128 ≤ b.toNat) → Gd r → M r → M (c ++ r)) : ∀ {L : List UInt8}, Gd L → M L := by
  intro L h
  induction h with
  | nil => exact h0
  | cons c r hc hr ih =>
    rcases hc.cases with ⟨b, rfl, hb⟩ | hb
    · exact h1 b r hb hr ih
    · exact h2 c r hc hb hr ih
end Go.Proofs.YtndbgdapojkfaaaGreatDoor.Chr

/- Parameters, printed and parsed: plain functions, and facts of values. -/
set_option linter.unusedVariables false
namespace Go.Proofs.YtndbgdapojkfaaaGreatDoor.Par
open Go.Proofs.YtndbgdapojkfaaaGreatDoor.Utf Go.Proofs.YtndbgdapojkfaaaGreatDoor.Chr

/-- How many bytes stand ahead of the first one of a kind. -/
def pre (f : UInt8 → Bool) : List UInt8 → Nat
  | [] => 0
  | b :: t => if f b = true then 0 else 1 + pre f t
theorem pre_le (f : UInt8 → Bool) : ∀ L : List UInt8, pre f L ≤ L.length
  | [] => Nat.le_refl _
  | b :: t => by
    have := pre_le f t
    unfold pre
    split
    · exact Nat.zero_le _
    · rw [List.length_cons]; omega
theorem pre_none (f : UInt8 → Bool) : ∀ (L : List UInt8), ∀ b ∈ L.take (pre f L), f b = false
  | [], b, h => by simp at h
  | c :: t, b, h => by
    unfold pre at h
    by_cases hc : f c = true
    · rw [if_pos hc] at h; simp at h
    · rw [if_neg hc, Nat.add_comm, List.take_succ_cons] at h
      rcases List.mem_cons.1 h with rfl | h
      · simpa using hc
      · exact pre_none f t b h
theorem pre_hit (f : UInt8 → Bool) : ∀ (L : List UInt8) (h : pre f L < L.length), f (L[pre f L]) = true
  | [], h => by simp at h
  | c :: t, h => by
    by_cases hc : f c = true
    · have e : pre f (c :: t) = 0 := by unfold pre; rw [if_pos hc]
      simp only [e]
      exact hc
    · have e : pre f (c :: t) = pre f t + 1 := by rw [pre, if_neg hc]; omega
      have h' : pre f t < t.length := by rw [e, List.length_cons] at h; omega
      simp only [e]
      exact pre_hit f t h'
theorem pre_app (f : UInt8 → Bool) : ∀ (x r : List UInt8), (∀ b ∈ x, f b = false) → pre f (x ++ r) = x.length + pre f r
  | [], r, _ => by simp
  | b :: t, r, h => by
    have hb : ¬ f b = true := by rw [h b (by simp)]; decide
    show pre f (b :: (t ++ r)) = _
    rw [pre, if_neg hb, pre_app f t r (fun x hx => h x (by simp [hx])), List.length_cons]
    omega
theorem pre_stop (f : UInt8 → Bool) (b : UInt8) (r : List UInt8) (h : f b = true) : pre f (b :: r) = 0 := by rw [pre, if_pos h]

/-- Bytes of names; bytes that end a value. -/
def sgn (b : UInt8) : Bool := decide ((65 ≤ b.toNat ∧ b.toNat ≤ 90) ∨ (48 ≤ b.toNat ∧ b.toNat ≤ 57) ∨ b.toNat = 45)
def stp (b : UInt8) : Bool := decide (b.toNat = 44 ∨ b.toNat = 58 ∨ b.toNat = 59)
def quo (b : UInt8) : Bool := decide (b.toNat = 34)
def nmB (L : List UInt8) : Bool := decide ((∀ b ∈ L, sgn b = true) ∧ 1 ≤ L.length ∧ L.length ≤ 24)
/-- A value with blanks for its LFs. -/
def sp (b : UInt8) : UInt8 := if b.toNat = 10 then 32 else b
def fineB (v : List UInt8) : Bool := decide (oddI (v.map sp) 0 = -1)
theorem fine_gd {v : List UInt8} : fineB v = true ↔ Gd (v.map sp) := by
  unfold fineB
  rw [decide_eq_true_iff]
  exact odd_gd
/-- A parameter. -/
structure PP where
  n : List UInt8
  v : List (List UInt8)
def chkV (v : List UInt8) : Int := if 60 < v.length then 5 else if fineB v = true then 0 else 10
def chkVs : List (List UInt8) → Int
  | [] => 0
  | v :: t => if chkV v ≠ 0 then chkV v else chkVs t
def chkP (p : PP) : Int := if nmB p.n = false then 4 else if p.v.length < 1 ∨ 6 < p.v.length then 20 else chkVs p.v
def chkPs : List PP → Int
  | [] => 0
  | p :: t => if chkP p ≠ 0 then chkP p else chkPs t
def hasN (l : List PP) (n : List UInt8) : Bool := l.any fun p => p.n == n
/-- Has one of these a name that one of them, or of those ahead, has? -/
def twc (acc : List PP) : List PP → Bool
  | [] => false
  | p :: t => hasN acc p.n || twc (acc ++ [p]) t
def chkA (l : List PP) : Int := if 6 < l.length then 20 else if chkPs l ≠ 0 then chkPs l else if twc [] l = true then 19 else 0

/-- A value, written. -/
def crtB (b : UInt8) : List UInt8 := if b.toNat = 94 then [94, 94] else if b.toNat = 10 then [94, 110] else if b.toNat = 34 then [94, 39] else [b]
def crt (v : List UInt8) : List UInt8 := v.flatMap crtB
def wrt (v : List UInt8) : List UInt8 := if v.any stp = true then 34 :: (crt v ++ [34]) else crt v
def joinV : List (List UInt8) → List UInt8
  | [] => []
  | [v] => wrt v
  | v :: w :: t => wrt v ++ 44 :: joinV (w :: t)
def prt (p : PP) : List UInt8 := 59 :: (p.n ++ 61 :: joinV p.v)
def prtA (l : List PP) : List UInt8 := l.flatMap prt
theorem joinV_snoc : ∀ (ls : List (List UInt8)) (x : List UInt8), joinV (ls ++ [x]) = if ls = [] then wrt x else joinV ls ++ 44 :: wrt x
  | [], x => rfl
  | [y], x => rfl
  | y :: z :: t, x => by
    have ih := joinV_snoc (z :: t) x
    rw [if_neg (by simp)] at ih ⊢
    show wrt y ++ 44 :: joinV (z :: (t ++ [x])) = (wrt y ++ 44 :: joinV (z :: t)) ++ 44 :: wrt x
    rw [show z :: (t ++ [x]) = z :: t ++ [x] from rfl, ih]
    simp
theorem prtA_snoc (l : List PP) (p : PP) : prtA (l ++ [p]) = prtA l ++ prt p := by simp [prtA]
/-- What a byte behind a caret stands for. -/
def tc (d : UInt8) : Option UInt8 := if d.toNat = 94 then some 94 else if d.toNat = 110 then some 10 else if d.toNat = 39 then some 34 else none
/-- A value, read. -/
def rd (L : List UInt8) : List UInt8 :=
  match L with
  | [] => []
  | c :: t => if c.toNat = 94 then (if h : t = [] then [c] else match tc (t.head h) with | some x => x :: rd t.tail | none => c :: rd t) else c :: rd t
termination_by L.length
decreasing_by all_goals (simp; try omega)
theorem rd_nil : rd [] = [] := by rw [rd]
theorem rd_end {c : UInt8} (h : c.toNat = 94) : rd [c] = [c] := by rw [rd, if_pos h, dif_pos rfl]
theorem rd_told {c d x : UInt8} (h : c.toNat = 94) (hd : tc d = some x) (t : List UInt8) : rd (c :: d :: t) = x :: rd t := by rw [rd, if_pos h, dif_neg (by simp), List.head_cons, hd, List.tail_cons]
theorem rd_care {c d : UInt8} (h : c.toNat = 94) (hd : tc d = none) (t : List UInt8) : rd (c :: d :: t) = c :: rd (d :: t) := by rw [rd, if_pos h, dif_neg (by simp), List.head_cons, hd]
theorem rd_byte {c : UInt8} (h : c.toNat ≠ 94) (t : List UInt8) : rd (c :: t) = c :: rd t := by rw [rd, if_neg h]
theorem rd_hi : ∀ (c r : List UInt8), (∀ b ∈ c, b.toNat ≠ 94) → rd (c ++ r) = c ++ rd r
  | [], r, _ => rfl
  | b :: t, r, h => by
    show rd (b :: (t ++ r)) = b :: (t ++ rd r)
    rw [rd_byte (h b (by simp)), rd_hi t r (fun x hx => h x (by simp [hx]))]
/-- What is written is read. -/
theorem rd_crt : ∀ v : List UInt8, rd (crt v) = v
  | [] => rd_nil
  | b :: t => by
    have ih := rd_crt t
    show rd (crtB b ++ crt t) = b :: t
    by_cases h1 : b.toNat = 94
    · have e : b = 94 := UInt8.toNat_inj.1 h1
      subst e
      show rd (94 :: 94 :: crt t) = _
      rw [rd_told (by decide) (show tc 94 = some 94 by decide), ih]
    · by_cases h2 : b.toNat = 10
      · have e : b = 10 := UInt8.toNat_inj.1 h2
        subst e
        show rd (94 :: 110 :: crt t) = _
        rw [rd_told (by decide) (show tc 110 = some 10 by decide), ih]
      · by_cases h3 : b.toNat = 34
        · have e : b = 34 := UInt8.toNat_inj.1 h3
          subst e
          show rd (94 :: 39 :: crt t) = _
          rw [rd_told (by decide) (show tc 39 = some 34 by decide), ih]
        · have e : crtB b = [b] := by unfold crtB; rw [if_neg h1, if_neg h2, if_neg h3]
          rw [e]
          show rd (b :: crt t) = _
          rw [rd_byte h1, ih]
theorem crt_no_quo (v : List UInt8) : ∀ b ∈ crt v, quo b = false := by
  intro b hb
  obtain ⟨c, hc, hb⟩ := List.mem_flatMap.1 hb
  unfold crtB at hb
  apply decide_eq_false
  split at hb
  · simp at hb; subst hb; decide
  · split at hb
    · simp at hb; rcases hb with rfl | rfl <;> decide
    · split at hb
      · simp at hb; rcases hb with rfl | rfl <;> decide
      · simp at hb; subst hb; assumption
theorem crt_no_stp {v : List UInt8} (h : v.any stp = false) : ∀ b ∈ crt v, stp b = false := by
  intro b hb
  obtain ⟨c, hc, hb⟩ := List.mem_flatMap.1 hb
  have hs : stp c = false := by
    have := List.any_eq_false.1 h c hc
    simpa using this
  unfold crtB at hb
  split at hb
  · simp at hb; subst hb; decide
  · split at hb
    · simp at hb; rcases hb with rfl | rfl <;> decide
    · split at hb
      · simp at hb; rcases hb with rfl | rfl <;> decide
      · simp at hb; subst hb; exact hs
theorem crt_app (a b : List UInt8) : crt (a ++ b) = crt a ++ crt b := by unfold crt; rw [List.flatMap_append]
theorem crt_hi : ∀ (c : List UInt8), (∀ b ∈ c, 128 ≤ b.toNat) → crt c = c
  | [], _ => rfl
  | b :: t, h => by
    have hb := h b (by simp)
    show crtB b ++ crt t = _
    rw [crt_hi t (fun x hx => h x (by simp [hx]))]
    unfold crtB
    rw [if_neg (by omega), if_neg (by omega), if_neg (by omega)]
    rfl
theorem asc_of {b : UInt8} (h : 32 ≤ b.toNat ∧ b.toNat < 127) : Asc b := ⟨by omega, by omega⟩
theorem map_sp_hi : ∀ (v c : List UInt8), v.map sp = c → (∀ b ∈ c, 128 ≤ b.toNat) → v = c
  | [], c, h, _ => by simpa using h
  | b :: t, c, h, hc => by
    subst h
    have h1 := hc (sp b) (by simp)
    have e : sp b = b := by
      unfold sp at h1 ⊢
      by_cases hb : b.toNat = 10
      · rw [if_pos hb] at h1; exact absurd h1 (by decide)
      · rw [if_neg hb]
    rw [List.map_cons, e, ← map_sp_hi t _ rfl (fun x hx => hc x (by simp at hx ⊢; exact .inr hx))]
/-- What is written is not odd. -/
theorem crt_gd : ∀ {L : List UInt8}, Gd L → ∀ v : List UInt8, v.map sp = L → Gd (crt v) := by
  refine Gd.chars (M := fun L => ∀ v : List UInt8, v.map sp = L → Gd (crt v)) (fun v h => ?_) (fun b r hb hr ih v h => ?_) (fun c r hc hi hr ih v h => ?_)
  · have : v = [] := by simpa using h
    subst this; exact .nil
  · cases v with
    | nil => simp at h
    | cons x t =>
      rw [List.map_cons] at h
      injection h with h1 h2
      have ht := ih t h2
      show Gd (crtB x ++ crt t)
      unfold crtB
      split
      · exact (asc_of (b := 94) (by decide)).gd ((asc_of (b := 94) (by decide)).gd ht)
      · split
        · exact (asc_of (b := 94) (by decide)).gd ((asc_of (b := 110) (by decide)).gd ht)
        · split
          · exact (asc_of (b := 94) (by decide)).gd ((asc_of (b := 39) (by decide)).gd ht)
          · have e : sp x = x := by unfold sp; rw [if_neg (by assumption)]
            rw [e] at h1
            subst h1
            exact hb.gd ht
  · obtain ⟨a, b, rfl, ha, hb⟩ := List.map_eq_append_iff.1 h
    have e := map_sp_hi a c ha hi
    subst e
    rw [crt_app, crt_hi a hi]
    exact .cons a _ hc (ih b hb)
theorem wrt_fine {v : List UInt8} (h : fineB v = true) : oddI (crt v) 0 = -1 := (crt_gd (fine_gd.1 h) v rfl).odd 0
theorem map_sp_id : ∀ c : List UInt8, (∀ b ∈ c, 128 ≤ b.toNat) → c.map sp = c
  | [], _ => rfl
  | b :: t, h => by
    have hb := h b (by simp)
    rw [List.map_cons, map_sp_id t (fun x hx => h x (by simp [hx]))]
    unfold sp
    rw [if_neg (by omega)]
theorem sp_asc {b : UInt8} (h : Asc b) : sp b = b := by
  unfold sp
  rw [if_neg (by have := h.2; omega)]
/-- What is read may be. -/
theorem rd_gd : ∀ (n : Nat) (L : List UInt8), L.length ≤ n → Gd L → Gd ((rd L).map sp) := by
  intro n
  induction n with
  | zero =>
    intro L hn _
    have : L = [] := List.eq_nil_of_length_eq_zero (by omega)
    subst this
    rw [rd_nil]; exact .nil
  | succ n ih =>
    intro L hn h
    cases h with
    | nil => rw [rd_nil]; exact .nil
    | cons c r hc hr =>
      rcases hc.cases with ⟨b, rfl, hb⟩ | hi
      · show Gd ((rd (b :: r)).map sp)
        have hl : r.length ≤ n := by rw [List.length_append, List.length_singleton] at hn; omega
        by_cases h1 : b.toNat = 94
        · cases r with
          | nil =>
            rw [rd_end h1, List.map_cons, sp_asc hb]
            exact hb.gd .nil
          | cons d t =>
            cases hd : tc d with
            | some x =>
              have hd' : d.toNat < 128 := by unfold tc at hd; split at hd <;> (try split at hd) <;> (try split at hd) <;> first | omega | cases hd
              rw [rd_told h1 hd, List.map_cons]
              have hx : Asc (sp x) := by
                unfold tc at hd
                split at hd
                · injection hd with hd; subst hd; exact asc_of (by decide)
                · split at hd
                  · injection hd with hd; subst hd; exact asc_of (by decide)
                  · split at hd
                    · injection hd with hd; subst hd; exact asc_of (by decide)
                    · cases hd
              exact hx.gd (ih t (by rw [List.length_cons] at hl; omega) (hr.tail hd').2)
            | none =>
              rw [rd_care h1 hd, List.map_cons, sp_asc hb]
              exact hb.gd (ih _ hl hr)
        · rw [rd_byte h1, List.map_cons, sp_asc hb]
          exact hb.gd (ih _ hl hr)
      · have hl : r.length ≤ n := by
          have := List.length_pos_iff.2 hc.ne
          rw [List.length_append] at hn; omega
        rw [rd_hi c r (fun b hb => by have := hi b hb; omega), List.map_append, map_sp_id c hi]
        exact .cons c _ hc (ih r hl hr)
theorem rd_fine {L : List UInt8} (h : oddI L 0 = -1) : fineB (rd L) = true := fine_gd.2 (rd_gd _ L (Nat.le_refl _) (odd_gd.1 h))
end Go.Proofs.YtndbgdapojkfaaaGreatDoor.Par

/- Parameters, parsed: plain functions (places are told from where one begins), and facts: what is printed is parsed; what is parsed may be; where parameters end. -/
set_option linter.unusedVariables false
namespace Go.Proofs.YtndbgdapojkfaaaGreatDoor.Par
open Go.Proofs.YtndbgdapojkfaaaGreatDoor.Utf Go.Proofs.YtndbgdapojkfaaaGreatDoor.Chr

/-- Does a text begin with a byte that ends a value, or is it at its end? -/
def stpH : List UInt8 → Bool
  | [] => true
  | b :: _ => stp b
def qs (b : UInt8) : Bool := quo b || stp b
/-- What is found of a value, once it is known what stands in it. -/
def fin (inner : List UInt8) (o nx : Nat) (q : Bool) (rest : List UInt8) : List UInt8 × Nat × Int :=
  if oddI inner 0 ≠ -1 then ([], o + (oddI inner 0).toNat, 10) else if 60 < (rd inner).length then ([], 0, 5) else if q = true ∧ stpH rest = false then ([], nx, 4) else (rd inner, nx, 0)
/-- The value that a text begins with, how many bytes it takes; or an error and its place. -/
def val (X : List UInt8) : List UInt8 × Nat × Int :=
  if at_ X 0 = 34 then (if pre quo X.tail = X.tail.length then ([], X.length, 3) else fin (X.tail.take (pre quo X.tail)) 1 (pre quo X.tail + 2) true (X.tail.drop (pre quo X.tail + 1)))
  else if at_ X (pre qs X) = 34 then ([], pre qs X, 4) else fin (X.take (pre qs X)) 0 (pre qs X) false (X.drop (pre qs X))
/-- The values that a text begins with, behind those that there are. -/
def vals (X : List UInt8) (acc : List (List UInt8)) : List (List UInt8) × Nat × Int :=
  if 6 ≤ acc.length then ([], 0, 20) else if (val X).2.2 ≠ 0 then ([], (val X).2.1, (val X).2.2)
  else if at_ (X.drop (val X).2.1) 0 = 44 then
    let r := vals (X.drop (val X).2.1).tail (acc ++ [(val X).1])
    (r.1, (val X).2.1 + 1 + r.2.1, r.2.2)
  else (acc ++ [(val X).1], (val X).2.1, 0)
termination_by 6 - acc.length
decreasing_by simp; omega
theorem vals_many {X : List UInt8} {acc : List (List UInt8)} (h : 6 ≤ acc.length) : vals X acc = ([], 0, 20) := by rw [vals, if_pos h]
theorem vals_err {X : List UInt8} {acc : List (List UInt8)} (h : acc.length < 6) (he : (val X).2.2 ≠ 0) : vals X acc = ([], (val X).2.1, (val X).2.2) := by rw [vals, if_neg (by omega), if_pos he]
theorem vals_on {X v : List UInt8} {m : Nat} {acc : List (List UInt8)} (h : acc.length < 6) (hv : val X = (v, m, 0)) (hc : at_ (X.drop m) 0 = 44) : vals X acc = ((vals (X.drop m).tail (acc ++ [v])).1, m + 1 + (vals (X.drop m).tail (acc ++ [v])).2.1, (vals (X.drop m).tail (acc ++ [v])).2.2) := by
  rw [vals, if_neg (by omega), hv, if_neg (by simp), if_pos hc]
theorem vals_end {X v : List UInt8} {m : Nat} {acc : List (List UInt8)} (h : acc.length < 6) (hv : val X = (v, m, 0)) (hc : at_ (X.drop m) 0 ≠ 44) : vals X acc = (acc ++ [v], m, 0) := by
  rw [vals, if_neg (by omega), hv, if_neg (by simp), if_neg hc]
def nsg (b : UInt8) : Bool := !sgn (up b)
/-- The parameters that a text begins with, behind those that there are. -/
def prs (X : List UInt8) (out : List PP) : List PP × Nat × Int :=
  if at_ X 0 = 59 then
    if 6 ≤ out.length then ([], 0, 20) else if pre nsg X.tail = 0 ∨ 24 < pre nsg X.tail then ([], 1, 4) else if hasN out ((X.tail.take (pre nsg X.tail)).map up) = true then ([], 1, 19)
    else if at_ (X.tail.drop (pre nsg X.tail)) 0 ≠ 61 then ([], 1 + pre nsg X.tail, 4)
    else
      let r := vals (X.tail.drop (pre nsg X.tail)).tail []
      if r.2.2 ≠ 0 then ([], 1 + pre nsg X.tail + 1 + r.2.1, r.2.2)
      else
        let z := prs (X.drop (1 + pre nsg X.tail + 1 + r.2.1)) (out ++ [⟨(X.tail.take (pre nsg X.tail)).map up, r.1⟩])
        (z.1, 1 + pre nsg X.tail + 1 + r.2.1 + z.2.1, z.2.2)
  else (out, 0, 0)
termination_by 6 - out.length
decreasing_by simp; omega
theorem prs_end {X : List UInt8} (h : at_ X 0 ≠ 59) (out : List PP) : prs X out = (out, 0, 0) := by rw [prs, if_neg h]
theorem prs_many {X : List UInt8} (h : at_ X 0 = 59) {out : List PP} (ho : 6 ≤ out.length) : prs X out = ([], 0, 20) := by rw [prs, if_pos h, if_pos ho]
theorem prs_name {X : List UInt8} (h : at_ X 0 = 59) {out : List PP} (ho : out.length < 6) (hk : pre nsg X.tail = 0 ∨ 24 < pre nsg X.tail) : prs X out = ([], 1, 4) := by rw [prs, if_pos h, if_neg (by omega), if_pos hk]
theorem prs_twice {X : List UInt8} (h : at_ X 0 = 59) {out : List PP} (ho : out.length < 6) {k : Nat} (hk : pre nsg X.tail = k) (k0 : 1 ≤ k) (k1 : k ≤ 24) (ht : hasN out ((X.tail.take k).map up) = true) : prs X out = ([], 1, 19) := by
  rw [prs, if_pos h, if_neg (by omega), hk, if_neg (by omega), if_pos ht]
theorem prs_form {X : List UInt8} (h : at_ X 0 = 59) {out : List PP} (ho : out.length < 6) {k : Nat} (hk : pre nsg X.tail = k) (k0 : 1 ≤ k) (k1 : k ≤ 24) (ht : hasN out ((X.tail.take k).map up) = false) (he : at_ (X.tail.drop k) 0 ≠ 61) : prs X out = ([], 1 + k, 4) := by
  rw [prs, if_pos h, if_neg (by omega), hk, if_neg (by omega), if_neg (by rw [ht]; decide), if_pos he]
theorem prs_err {X : List UInt8} (h : at_ X 0 = 59) {out : List PP} (ho : out.length < 6) {k : Nat} (hk : pre nsg X.tail = k) (k0 : 1 ≤ k) (k1 : k ≤ 24) (ht : hasN out ((X.tail.take k).map up) = false) (he : at_ (X.tail.drop k) 0 = 61) (hv : (vals (X.tail.drop k).tail []).2.2 ≠ 0) :
    prs X out = ([], 1 + k + 1 + (vals (X.tail.drop k).tail []).2.1, (vals (X.tail.drop k).tail []).2.2) := by
  rw [prs, if_pos h, if_neg (by omega), hk, if_neg (by omega), if_neg (by rw [ht]; decide), if_neg (by omega), if_pos hv]
theorem prs_on {X : List UInt8} (h : at_ X 0 = 59) {out : List PP} (ho : out.length < 6) {k : Nat} (hk : pre nsg X.tail = k) (k0 : 1 ≤ k) (k1 : k ≤ 24) (ht : hasN out ((X.tail.take k).map up) = false) (he : at_ (X.tail.drop k) 0 = 61) {vs : List (List UInt8)} {m : Nat} (hv : vals (X.tail.drop k).tail [] = (vs, m, 0)) :
    prs X out = ((prs (X.drop (1 + k + 1 + m)) (out ++ [⟨(X.tail.take k).map up, vs⟩])).1, 1 + k + 1 + m + (prs (X.drop (1 + k + 1 + m)) (out ++ [⟨(X.tail.take k).map up, vs⟩])).2.1, (prs (X.drop (1 + k + 1 + m)) (out ++ [⟨(X.tail.take k).map up, vs⟩])).2.2) := by
  rw [prs, if_pos h, if_neg (by omega), hk, if_neg (by omega), if_neg (by rw [ht]; decide), if_neg (by omega), hv]
  simp only [ne_eq, not_true_eq_false, if_false]

theorem at_nil (k : Nat) : at_ [] k = 0 := rfl
theorem at_cons0 (b : UInt8) (t : List UInt8) : at_ (b :: t) 0 = b.toNat := rfl
theorem at_app (x r : List UInt8) : at_ (x ++ r) x.length = at_ r 0 := by
  unfold at_
  rw [List.getD_eq_getElem?_getD, List.getD_eq_getElem?_getD, List.getElem?_append_right (Nat.le_refl _), Nat.sub_self]
theorem at_drop0 (X : List UInt8) (k : Nat) : at_ (X.drop k) 0 = at_ X k := by
  unfold at_
  rw [List.getD_eq_getElem?_getD, List.getD_eq_getElem?_getD, List.getElem?_drop, Nat.add_zero]
theorem stpH_not34 {r : List UInt8} (h : stpH r = true) : at_ r 0 ≠ 34 := by
  cases r with
  | nil => rw [at_nil]; decide
  | cons b t =>
    have := of_decide_eq_true (show decide (b.toNat = 44 ∨ b.toNat = 58 ∨ b.toNat = 59) = true from h)
    rw [at_cons0]
    omega
theorem pre_stpH {r : List UInt8} (h : stpH r = true) : pre qs r = 0 := by
  cases r with
  | nil => rfl
  | cons b t => exact pre_stop qs b t (by unfold qs; rw [show stp b = true from h]; simp)
theorem fin_ok {inner : List UInt8} (h1 : oddI inner 0 = -1) (h2 : (rd inner).length ≤ 60) (o nx : Nat) (q : Bool) {rest : List UInt8} (h3 : q = true → stpH rest = true) : fin inner o nx q rest = (rd inner, nx, 0) := by
  unfold fin
  rw [if_neg (by rw [h1]; simp), if_neg (by omega), if_neg (fun x => by rw [h3 x.1] at x; cases x.2)]
theorem fin_was {inner : List UInt8} {o nx : Nat} {q : Bool} {rest v : List UInt8} {m : Nat} (h : fin inner o nx q rest = (v, m, 0)) : oddI inner 0 = -1 ∧ (rd inner).length ≤ 60 ∧ (q = true → stpH rest = true) ∧ v = rd inner ∧ m = nx := by
  unfold fin at h
  split at h
  · injection h with _ h; injection h with _ h; cases h
  · split at h
    · injection h with _ h; injection h with _ h; cases h
    · split at h
      · injection h with _ h; injection h with _ h; cases h
      · rename_i h1 h2 h3
        injection h with h4 h
        injection h with h5 h
        refine ⟨by simpa using h1, by omega, fun hq => ?_, h4.symm, h5.symm⟩
        cases hs : stpH rest with
        | true => rfl
        | false => exact absurd ⟨hq, hs⟩ h3
/-- A value within quotation marks. -/
theorem val_quoted {c rest : List UInt8} (hq : ∀ b ∈ c, quo b = false) (h1 : oddI c 0 = -1) (h2 : (rd c).length ≤ 60) (hr : stpH rest = true) : val (34 :: (c ++ 34 :: rest)) = (rd c, c.length + 2, 0) := by
  unfold val
  rw [if_pos (show at_ (34 :: (c ++ 34 :: rest)) 0 = 34 from rfl), List.tail_cons]
  have e : pre quo (c ++ 34 :: rest) = c.length := by rw [pre_app quo c _ hq, pre_stop quo 34 rest (by decide), Nat.add_zero]
  rw [e, if_neg (by simp), List.take_left]
  have e2 : (c ++ 34 :: rest).drop (c.length + 1) = rest := by
    rw [← List.drop_drop, List.drop_left]; rfl
  rw [e2]
  exact fin_ok h1 h2 _ _ _ (fun _ => hr)
/-- A value without. -/
theorem val_plain {c rest : List UInt8} (hq : ∀ b ∈ c, qs b = false) (h1 : oddI c 0 = -1) (h2 : (rd c).length ≤ 60) (hr : stpH rest = true) : val (c ++ rest) = (rd c, c.length, 0) := by
  have h0 : at_ (c ++ rest) 0 ≠ 34 := by
    cases c with
    | nil => exact stpH_not34 hr
    | cons b t =>
      have := hq b (by simp)
      show b.toNat ≠ 34
      intro hb
      have : qs b = true := by unfold qs quo; rw [decide_eq_true hb]; rfl
      rw [hq b (by simp)] at this
      cases this
  have e : pre qs (c ++ rest) = c.length := by rw [pre_app qs c _ hq, pre_stpH hr, Nat.add_zero]
  unfold val
  rw [if_neg h0, e, if_neg (by rw [at_app]; exact stpH_not34 hr), List.take_left, List.drop_left]
  exact fin_ok h1 h2 _ _ _ (fun h => by cases h)
/-- What a value that is found is: its bytes, and what stands behind. -/
theorem val_was {X v : List UInt8} {m : Nat} (h : val X = (v, m, 0)) : ∃ c, oddI c 0 = -1 ∧ (rd c).length ≤ 60 ∧ v = rd c ∧ stpH (X.drop m) = true ∧ m ≤ X.length ∧ ((X.take m = 34 :: (c ++ [34]) ∧ ∀ b ∈ c, quo b = false) ∨ (X.take m = c ∧ ∀ b ∈ c, qs b = false)) := by
  unfold val at h
  by_cases h0 : at_ X 0 = 34
  · rw [if_pos h0] at h
    cases X with
    | nil => rw [at_nil] at h0; cases h0
    | cons b Y =>
      have hb : b = 34 := UInt8.toNat_inj.1 h0
      subst hb
      rw [List.tail_cons] at h
      by_cases hk : pre quo Y = Y.length
      · rw [if_pos hk] at h
        injection h with _ h; injection h with _ h; cases h
      · rw [if_neg hk] at h
        have hkl : pre quo Y < Y.length := by have := pre_le quo Y; omega
        have hit := pre_hit quo Y hkl
        have hno := pre_none quo Y
        obtain ⟨f1, f2, f3, f4, f5⟩ := fin_was h
        generalize pre quo Y = k at *
        have hq : Y[k] = 34 := UInt8.toNat_inj.1 (of_decide_eq_true hit)
        refine ⟨Y.take k, f1, f2, f4, ?_, by rw [f5, List.length_cons]; omega, .inl ⟨?_, hno⟩⟩
        · rw [f5]
          exact f3 rfl
        · rw [f5, List.take_succ_cons, List.take_succ_eq_append_getElem hkl, hq]
  · rw [if_neg h0] at h
    by_cases hk : at_ X (pre qs X) = 34
    · rw [if_pos hk] at h
      injection h with _ h; injection h with _ h; cases h
    · rw [if_neg hk] at h
      have hle := pre_le qs X
      have hno := pre_none qs X
      have hit := pre_hit qs X
      obtain ⟨f1, f2, f3, f4, f5⟩ := fin_was h
      generalize pre qs X = k at *
      subst f5
      refine ⟨X.take m, f1, f2, f4, ?_, hle, .inr ⟨rfl, hno⟩⟩
      rcases Nat.lt_or_ge m X.length with hl | hl
      · have h3 := hit hl
        rw [List.drop_eq_getElem_cons hl]
        show stp X[m] = true
        unfold qs at h3
        rw [Bool.or_eq_true] at h3
        rcases h3 with h3 | h3
        · exfalso
          apply hk
          have := of_decide_eq_true h3
          rw [at_mem X hl]
          exact this
        · exact h3
      · rw [List.drop_eq_nil_of_le hl]; rfl
/-- A value is told by its own bytes. -/
theorem val_local {X v : List UInt8} {m : Nat} (h : val X = (v, m, 0)) {rest : List UInt8} (hr : stpH rest = true) : val (X.take m ++ rest) = (v, m, 0) := by
  obtain ⟨c, c1, c2, rfl, c4, c5, c6 | c6⟩ := val_was h
  · have hl : m = c.length + 2 := by
      have := congrArg List.length c6.1
      rw [List.length_take, List.length_cons, List.length_append, List.length_singleton] at this
      omega
    rw [c6.1]
    show val (34 :: (c ++ [34] ++ rest)) = _
    rw [List.append_assoc, show [34] ++ rest = 34 :: rest from rfl, val_quoted c6.2 c1 c2 hr, hl]
  · have hl : m = c.length := by
      have := congrArg List.length c6.1
      rw [List.length_take] at this
      omega
    rw [c6.1, val_plain c6.2 c1 c2 hr, hl]
theorem val_chk {X v : List UInt8} {m : Nat} (h : val X = (v, m, 0)) : chkV v = 0 := by
  obtain ⟨c, c1, c2, rfl, _⟩ := val_was h
  unfold chkV
  rw [if_neg (by omega), if_pos (rd_fine c1)]
/-- What is written is found. -/
theorem val_wrt {v rest : List UInt8} (h : chkV v = 0) (hr : stpH rest = true) : val (wrt v ++ rest) = (v, (wrt v).length, 0) := by
  have h1 : v.length ≤ 60 := by
    unfold chkV at h
    split at h
    · cases h
    · omega
  have h2 : fineB v = true := by
    unfold chkV at h
    rw [if_neg (by omega)] at h
    split at h
    · assumption
    · cases h
  have e1 := wrt_fine h2
  have e2 := rd_crt v
  unfold wrt
  by_cases hs : v.any stp = true
  · rw [if_pos hs]
    show val (34 :: (crt v ++ [34] ++ rest)) = _
    rw [List.append_assoc, show [34] ++ rest = 34 :: rest from rfl, val_quoted (crt_no_quo v) e1 (by rw [e2]; exact h1) hr, e2]
    simp
  · rw [if_neg hs]
    have hs' : v.any stp = false := by simpa using hs
    rw [val_plain (fun b hb => by unfold qs; rw [crt_no_quo v b hb, crt_no_stp hs' b hb]; rfl) e1 (by rw [e2]; exact h1) hr, e2]
theorem chkVs_cons {v : List UInt8} {t : List (List UInt8)} (h : chkVs (v :: t) = 0) : chkV v = 0 ∧ chkVs t = 0 := by
  unfold chkVs at h
  by_cases hv : chkV v ≠ 0
  · rw [if_pos hv] at h; exact absurd h hv
  · rw [if_neg hv] at h; exact ⟨by omega, h⟩
theorem drop_len (x r : List UInt8) : (x ++ r).drop x.length = r := List.drop_left
/-- What is printed is found: values. -/
theorem vals_join : ∀ (vs : List (List UInt8)), vs ≠ [] → chkVs vs = 0 → ∀ (acc : List (List UInt8)), acc.length + vs.length ≤ 6 → ∀ rest : List UInt8, stpH rest = true → at_ rest 0 ≠ 44 → vals (joinV vs ++ rest) acc = (acc ++ vs, (joinV vs).length, 0)
  | [], h, _, _, _, _, _, _ => absurd rfl h
  | [v], _, hc, acc, hl, rest, hr, h44 => by
    have hv := val_wrt (chkVs_cons hc).1 hr
    exact vals_end (by simp at hl; omega) hv (by rw [drop_len]; exact h44)
  | v :: w :: t, _, hc, acc, hl, rest, hr, h44 => by
    obtain ⟨c1, c2⟩ := chkVs_cons hc
    have hj : joinV (v :: w :: t) ++ rest = wrt v ++ (44 :: (joinV (w :: t) ++ rest)) := by
      show (wrt v ++ 44 :: joinV (w :: t)) ++ rest = _
      simp
    have hv := val_wrt (rest := 44 :: (joinV (w :: t) ++ rest)) c1 (by show stp 44 = true; decide)
    have ih := vals_join (w :: t) (by simp) c2 (acc ++ [v]) (by simp at hl ⊢; omega) rest hr h44
    rw [hj, vals_on (by simp at hl; omega) hv (by rw [drop_len]; rfl), drop_len, List.tail_cons, ih]
    have : (joinV (v :: w :: t)).length = (wrt v).length + 1 + (joinV (w :: t)).length := by
      show (wrt v ++ 44 :: joinV (w :: t)).length = _
      rw [List.length_append, List.length_cons]; omega
    rw [this]
    simp
theorem up_sgn {b : UInt8} (h : sgn b = true) : up b = b := by
  have := of_decide_eq_true h
  unfold up
  rw [if_neg (by omega)]
theorem map_up_sgn : ∀ {l : List UInt8}, (∀ b ∈ l, sgn b = true) → l.map up = l
  | [], _ => rfl
  | b :: t, h => by rw [List.map_cons, up_sgn (h b (by simp)), map_up_sgn (fun x hx => h x (by simp [hx]))]
theorem chkPs_cons {p : PP} {t : List PP} (h : chkPs (p :: t) = 0) : chkP p = 0 ∧ chkPs t = 0 := by
  unfold chkPs at h
  by_cases hv : chkP p ≠ 0
  · rw [if_pos hv] at h; exact absurd h hv
  · rw [if_neg hv] at h; exact ⟨by omega, h⟩
theorem chkP_was {p : PP} (h : chkP p = 0) : nmB p.n = true ∧ 1 ≤ p.v.length ∧ p.v.length ≤ 6 ∧ chkVs p.v = 0 := by
  unfold chkP at h
  by_cases h1 : nmB p.n = false
  · rw [if_pos h1] at h; cases h
  · rw [if_neg h1] at h
    by_cases h2 : p.v.length < 1 ∨ 6 < p.v.length
    · rw [if_pos h2] at h; cases h
    · rw [if_neg h2] at h
      exact ⟨by simpa using h1, by omega, by omega, h⟩
theorem chkP_of {p : PP} (h1 : nmB p.n = true) (h2 : 1 ≤ p.v.length) (h3 : p.v.length ≤ 6) (h4 : chkVs p.v = 0) : chkP p = 0 := by
  unfold chkP
  rw [if_neg (by rw [h1]; decide), if_neg (by omega)]
  exact h4
/-- What is printed is found: parameters. -/
theorem prs_prt : ∀ (ps : List PP), chkPs ps = 0 → ∀ (out : List PP), twc out ps = false → out.length + ps.length ≤ 6 → ∀ rest : List UInt8, stpH rest = true → at_ rest 0 ≠ 44 → at_ rest 0 ≠ 59 → prs (prtA ps ++ rest) out = (out ++ ps, (prtA ps).length, 0)
  | [], _, out, _, _, rest, _, _, h59 => by
    show prs rest out = _
    rw [prs_end h59]
    simp [prtA]
  | p :: t, hc, out, htw, hl, rest, hr, h44, h59 => by
    obtain ⟨c1, c2⟩ := chkPs_cons hc
    obtain ⟨n1, n2, n3, n4⟩ := chkP_was c1
    have hn := of_decide_eq_true n1
    have hX : prtA (p :: t) ++ rest = 59 :: (p.n ++ 61 :: (joinV p.v ++ (prtA t ++ rest))) := by
      show prt p ++ prtA t ++ rest = _
      unfold prt
      simp
    have hout : hasN out p.n = false ∧ twc (out ++ [p]) t = false := by
      unfold twc at htw
      rw [Bool.or_eq_false_iff] at htw
      exact htw
    have hk : pre nsg (p.n ++ 61 :: (joinV p.v ++ (prtA t ++ rest))) = p.n.length := by
      rw [pre_app nsg p.n _ (fun b hb => by unfold nsg; rw [up_sgn (hn.1 b hb), hn.1 b hb]; rfl), pre_stop nsg 61 _ (by decide), Nat.add_zero]
    have hr' : stpH (prtA t ++ rest) = true ∧ at_ (prtA t ++ rest) 0 ≠ 44 := by
      cases t with
      | nil => exact ⟨hr, h44⟩
      | cons q t => exact ⟨by show stp 59 = true; decide, by show (59 : UInt8).toNat ≠ 44; decide⟩
    have hv := vals_join p.v (by intro e; rw [e] at n2; simp at n2) n4 [] (by simpa using n3) (prtA t ++ rest) hr'.1 hr'.2
    rw [List.nil_append] at hv
    have ih := prs_prt t c2 (out ++ [p]) hout.2 (by simp at hl ⊢; omega) rest hr h44 h59
    rw [hX]
    have hd : (59 :: (p.n ++ 61 :: (joinV p.v ++ (prtA t ++ rest)))).drop (1 + p.n.length + 1 + (joinV p.v).length) = prtA t ++ rest := by
      have e : 59 :: (p.n ++ 61 :: (joinV p.v ++ (prtA t ++ rest))) = (59 :: (p.n ++ 61 :: joinV p.v)) ++ (prtA t ++ rest) := by simp
      rw [e, List.drop_left' (by simp; omega)]
    have hm : ((p.n ++ 61 :: (joinV p.v ++ (prtA t ++ rest))).take p.n.length).map up = p.n := by rw [List.take_left, map_up_sgn hn.1]
    have := prs_on (X := 59 :: (p.n ++ 61 :: (joinV p.v ++ (prtA t ++ rest)))) rfl (out := out) (by simp at hl; omega) hk hn.2.1 hn.2.2 (by rw [List.tail_cons, hm]; exact hout.1) (by rw [List.tail_cons, List.drop_left]; rfl) (vs := p.v) (m := (joinV p.v).length) (by rw [List.tail_cons, List.drop_left, List.tail_cons]; exact hv)
    rw [this, hd, List.tail_cons, hm, ih]
    have hlen : (prtA (p :: t)).length = 1 + p.n.length + 1 + (joinV p.v).length + (prtA t).length := by
      show (prt p ++ prtA t).length = _
      unfold prt
      simp
      omega
    rw [hlen]
    simp
end Go.Proofs.YtndbgdapojkfaaaGreatDoor.Par

/- Parameters, parsed: what is parsed may be; where parameters end; what stands behind is nothing to them. -/
set_option linter.unusedVariables false
namespace Go.Proofs.YtndbgdapojkfaaaGreatDoor.Par
open Go.Proofs.YtndbgdapojkfaaaGreatDoor.Utf Go.Proofs.YtndbgdapojkfaaaGreatDoor.Chr

theorem vals_was {X : List UInt8} {acc vs : List (List UInt8)} {m : Nat} (h : vals X acc = (vs, m, 0)) : acc.length < 6 ∧ ∃ v mv, val X = (v, mv, 0) ∧
    ((at_ (X.drop mv) 0 = 44 ∧ ∃ m', vals (X.drop mv).tail (acc ++ [v]) = (vs, m', 0) ∧ m = mv + 1 + m') ∨ (at_ (X.drop mv) 0 ≠ 44 ∧ vs = acc ++ [v] ∧ m = mv)) := by
  by_cases ha : 6 ≤ acc.length
  · rw [vals_many ha] at h
    injection h with _ h; injection h with _ h; cases h
  · refine ⟨by omega, ?_⟩
    by_cases he : (val X).2.2 ≠ 0
    · rw [vals_err (by omega) he] at h
      injection h with _ h; injection h with _ h
      exact absurd h he
    · have hv : val X = ((val X).1, (val X).2.1, 0) := by
        have : (val X).2.2 = 0 := by omega
        rw [← this]
      refine ⟨_, _, hv, ?_⟩
      by_cases hc : at_ (X.drop (val X).2.1) 0 = 44
      · rw [vals_on (by omega) hv hc] at h
        injection h with h1 h; injection h with h2 h3
        refine .inl ⟨hc, (vals (X.drop (val X).2.1).tail (acc ++ [(val X).1])).2.1, ?_, h2.symm⟩
        rw [← h1, ← h3]
      · rw [vals_end (by omega) hv hc] at h
        injection h with h1 h; injection h with h2 h3
        exact .inr ⟨hc, h1.symm, h2.symm⟩
theorem prs_was {X : List UInt8} {out ps : List PP} {m : Nat} (h : prs X out = (ps, m, 0)) : (at_ X 0 ≠ 59 ∧ ps = out ∧ m = 0) ∨
    (at_ X 0 = 59 ∧ out.length < 6 ∧ ∃ k vs mv m', pre nsg X.tail = k ∧ 1 ≤ k ∧ k ≤ 24 ∧ hasN out ((X.tail.take k).map up) = false ∧ at_ (X.tail.drop k) 0 = 61 ∧ vals (X.tail.drop k).tail [] = (vs, mv, 0) ∧ prs (X.drop (1 + k + 1 + mv)) (out ++ [⟨(X.tail.take k).map up, vs⟩]) = (ps, m', 0) ∧ m = 1 + k + 1 + mv + m') := by
  by_cases h0 : at_ X 0 = 59
  · right
    by_cases ho : 6 ≤ out.length
    · rw [prs_many h0 ho] at h
      injection h with _ h; injection h with _ h; cases h
    · have ho' : out.length < 6 := by omega
      by_cases hk : pre nsg X.tail = 0 ∨ 24 < pre nsg X.tail
      · rw [prs_name h0 ho' hk] at h
        injection h with _ h; injection h with _ h; cases h
      · have k0 : 1 ≤ pre nsg X.tail := by omega
        have k1 : pre nsg X.tail ≤ 24 := by omega
        by_cases ht : hasN out ((X.tail.take (pre nsg X.tail)).map up) = true
        · rw [prs_twice h0 ho' rfl k0 k1 ht] at h
          injection h with _ h; injection h with _ h; cases h
        · have ht' : hasN out ((X.tail.take (pre nsg X.tail)).map up) = false := by simpa using ht
          by_cases he : at_ (X.tail.drop (pre nsg X.tail)) 0 ≠ 61
          · rw [prs_form h0 ho' rfl k0 k1 ht' he] at h
            injection h with _ h; injection h with _ h; cases h
          · have he' : at_ (X.tail.drop (pre nsg X.tail)) 0 = 61 := by omega
            by_cases hv : (vals (X.tail.drop (pre nsg X.tail)).tail []).2.2 ≠ 0
            · rw [prs_err h0 ho' rfl k0 k1 ht' he' hv] at h
              injection h with _ h; injection h with _ h
              exact absurd h hv
            · have hv' : vals (X.tail.drop (pre nsg X.tail)).tail [] = ((vals (X.tail.drop (pre nsg X.tail)).tail []).1, (vals (X.tail.drop (pre nsg X.tail)).tail []).2.1, 0) := by
                have : (vals (X.tail.drop (pre nsg X.tail)).tail []).2.2 = 0 := by omega
                rw [← this]
              rw [prs_on h0 ho' rfl k0 k1 ht' he' hv'] at h
              injection h with h1 h; injection h with h2 h3
              refine ⟨h0, ho', _, _, _, _, rfl, k0, k1, ht', he', hv', ?_, h2.symm⟩
              rw [← h1, ← h3]
  · left
    rw [prs_end h0] at h
    injection h with h1 h; injection h with h2 h3
    exact ⟨h0, h1.symm, h2.symm⟩
theorem chkVs_snoc : ∀ (acc : List (List UInt8)) (v : List UInt8), chkVs acc = 0 → chkV v = 0 → chkVs (acc ++ [v]) = 0
  | [], v, _, hv => by
    show (if chkV v ≠ 0 then chkV v else 0) = 0
    rw [if_neg (by omega)]
  | w :: t, v, h, hv => by
    obtain ⟨h1, h2⟩ := chkVs_cons h
    show (if chkV w ≠ 0 then chkV w else chkVs (t ++ [v])) = 0
    rw [if_neg (by omega)]
    exact chkVs_snoc t v h2 hv
theorem chkPs_snoc : ∀ (acc : List PP) (p : PP), chkPs acc = 0 → chkP p = 0 → chkPs (acc ++ [p]) = 0
  | [], v, _, hv => by
    show (if chkP v ≠ 0 then chkP v else 0) = 0
    rw [if_neg (by omega)]
  | w :: t, v, h, hv => by
    obtain ⟨h1, h2⟩ := chkPs_cons h
    show (if chkP w ≠ 0 then chkP w else chkPs (t ++ [v])) = 0
    rw [if_neg (by omega)]
    exact chkPs_snoc t v h2 hv
theorem twc_snoc : ∀ (l acc : List PP) (p : PP), twc acc (l ++ [p]) = (twc acc l || hasN (acc ++ l) p.n)
  | [], acc, p => by
    show (hasN acc p.n || false) = (false || hasN (acc ++ []) p.n)
    simp
  | q :: t, acc, p => by
    show (hasN acc q.n || twc (acc ++ [q]) (t ++ [p])) = ((hasN acc q.n || twc (acc ++ [q]) t) || hasN (acc ++ q :: t) p.n)
    rw [twc_snoc t (acc ++ [q]) p, Bool.or_assoc, List.append_assoc]
    rfl
/-- Values that are found may be; where they end. -/
theorem vals_facts : ∀ (n : Nat) (X : List UInt8) (acc vs : List (List UInt8)) (m : Nat), 6 - acc.length ≤ n → vals X acc = (vs, m, 0) → (chkVs acc = 0 → chkVs vs = 0) ∧ acc.length < vs.length ∧ vs.length ≤ 6 ∧ m ≤ X.length ∧ stpH (X.drop m) = true ∧ at_ (X.drop m) 0 ≠ 44 ∧
    ∀ rest : List UInt8, stpH rest = true → at_ rest 0 ≠ 44 → vals (X.take m ++ rest) acc = (vs, m, 0) := by
  intro n
  induction n with
  | zero =>
    intro X acc vs m hn h
    have := (vals_was h).1
    omega
  | succ n ih =>
    intro X acc vs m hn h
    obtain ⟨ha, v, mv, hv, ⟨hc, m', h1, rfl⟩ | ⟨hc, rfl, rfl⟩⟩ := vals_was h
    · obtain ⟨i1, i2, i3, i4, i5, i6, i7⟩ := ih _ _ _ _ (by simp; omega) h1
      obtain ⟨c, _, _, _, _, w5, _⟩ := val_was hv
      have hlt : mv < X.length := by
        rcases Nat.lt_or_ge mv X.length with h | h
        · exact h
        · rw [List.drop_eq_nil_of_le h, at_nil] at hc; cases hc
      have hd : X.drop mv = 44 :: (X.drop mv).tail := by
        rw [List.drop_eq_getElem_cons hlt] at hc ⊢
        have : X[mv] = 44 := UInt8.toNat_inj.1 hc
        rw [this]; rfl
      have htl : (X.drop mv).tail = X.drop (mv + 1) := by rw [List.tail_drop]
      rw [htl] at i4 i5 i6 i7 h1 hd
      rw [List.drop_drop] at i5 i6
      rw [List.length_drop] at i4
      refine ⟨fun hacc => i1 (chkVs_snoc _ _ hacc (val_chk hv)), by rw [List.length_append, List.length_singleton] at i2; omega, i3, by omega, i5, i6, fun rest hr h44 => ?_⟩
      have e : X.take (mv + 1 + m') ++ rest = X.take mv ++ (44 :: ((X.drop (mv + 1)).take m' ++ rest)) := by
        rw [Nat.add_assoc, List.take_add, hd, Nat.add_comm 1 m', List.take_succ_cons]
        simp
      have hv2 := val_local hv (rest := 44 :: ((X.drop (mv + 1)).take m' ++ rest)) (by show stp 44 = true; decide)
      have hl : (X.take mv).length = mv := by rw [List.length_take]; omega
      rw [e, vals_on ha hv2 (by rw [List.drop_left' hl]; rfl), List.drop_left' hl, List.tail_cons, i7 rest hr h44]
    · obtain ⟨c, _, _, _, w4, w5, _⟩ := val_was hv
      refine ⟨fun hacc => chkVs_snoc _ _ hacc (val_chk hv), by simp, by simp; omega, w5, w4, hc, fun rest hr h44 => ?_⟩
      have hl : (X.take m).length = m := by rw [List.length_take]; omega
      exact vals_end ha (val_local hv hr) (by rw [List.drop_left' hl]; exact h44)
/-- Parameters that are found may be; where they end. -/
theorem prs_facts : ∀ (n : Nat) (X : List UInt8) (out ps : List PP) (m : Nat), 6 - out.length ≤ n → out.length ≤ 6 → prs X out = (ps, m, 0) → (chkPs out = 0 → twc [] out = false → chkPs ps = 0 ∧ twc [] ps = false) ∧ ps.length ≤ 6 ∧ m ≤ X.length ∧ at_ (X.drop m) 0 ≠ 59 ∧ ((m = 0 ∧ ps = out) ∨ (0 < m ∧ out.length < ps.length ∧ at_ X 0 = 59 ∧ stpH (X.drop m) = true ∧ at_ (X.drop m) 0 ≠ 44)) ∧
    ∀ rest : List UInt8, stpH rest = true → at_ rest 0 ≠ 44 → at_ rest 0 ≠ 59 → prs (X.take m ++ rest) out = (ps, m, 0) := by
  intro n
  induction n with
  | zero =>
    intro X out ps m hn ho h
    rcases prs_was h with ⟨h0, rfl, rfl⟩ | ⟨_, ho', _⟩
    · exact ⟨fun a b => ⟨a, b⟩, ho, Nat.zero_le _, by rw [List.drop_zero]; exact h0, .inl ⟨rfl, rfl⟩, fun rest _ _ h59 => by rw [List.take_zero, List.nil_append, prs_end h59]⟩
    · omega
  | succ n ih =>
    intro X out ps m hn ho h
    rcases prs_was h with ⟨h0, rfl, rfl⟩ | ⟨h0, ho', k, vs, mv, m', hk, k0, k1, ht, he, hv, hp, rfl⟩
    · exact ⟨fun a b => ⟨a, b⟩, ho, Nat.zero_le _, by rw [List.drop_zero]; exact h0, .inl ⟨rfl, rfl⟩, fun rest _ _ h59 => by rw [List.take_zero, List.nil_append, prs_end h59]⟩
    · obtain ⟨v1, v2, v3, v4, v5, v6, v7⟩ := vals_facts 6 _ _ _ _ (by omega) hv
      cases X with
      | nil => rw [at_nil] at h0; cases h0
      | cons b Y =>
        have hb : b = 59 := UInt8.toNat_inj.1 h0
        subst hb
        rw [List.tail_cons] at hk ht he hv v4 v5 v6 v7 hp
        have hkl := pre_le nsg Y
        have hno := pre_none nsg Y
        rw [hk] at hkl hno
        have hlt : k < Y.length := by
          rcases Nat.lt_or_ge k Y.length with h | h
          · exact h
          · rw [List.drop_eq_nil_of_le h, at_nil] at he; cases he
        have hd : Y.drop k = 61 :: (Y.drop k).tail := by
          rw [List.drop_eq_getElem_cons hlt] at he ⊢
          have : Y[k] = 61 := UInt8.toNat_inj.1 he
          rw [this]; rfl
        have htl : (Y.drop k).tail = Y.drop (k + 1) := by rw [List.tail_drop]
        rw [htl] at hd hv v4 v5 v6 v7
        have hdr : (59 :: Y).drop (1 + k + 1 + mv) = (Y.drop (k + 1)).drop mv := by
          rw [List.drop_drop, show 1 + k + 1 + mv = (k + 1 + mv) + 1 by omega, List.drop_succ_cons]
        rw [hdr] at hp
        obtain ⟨p1, p2, p3, p4, p5, p6⟩ := ih _ _ _ _ (by simp; omega) (by simp; omega) hp
        rw [List.length_drop] at v4
        rw [List.length_drop, List.length_drop] at p3
        rw [List.drop_drop] at p4
        have hnm : nmB ((Y.take k).map up) = true := by
          apply decide_eq_true
          refine ⟨fun b hb => ?_, ?_, ?_⟩
          · obtain ⟨c, hc, rfl⟩ := List.mem_map.1 hb
            have := hno c hc
            unfold nsg at this
            simpa using this
          · rw [List.length_map, List.length_take]; omega
          · rw [List.length_map, List.length_take]; omega
        have hdd : (59 :: Y).drop (1 + k + 1 + mv + m') = ((Y.drop (k + 1)).drop mv).drop m' := by rw [← List.drop_drop, hdr]
        refine ⟨fun h1 h2 => p1 (chkPs_snoc _ _ h1 (chkP_of hnm (show 1 ≤ vs.length from v2) v3 (v1 rfl))) (by rw [twc_snoc, h2, List.nil_append, ht]; rfl), p2, by rw [List.length_cons]; omega, by rw [hdd, List.drop_drop]; exact p4, .inr ⟨by omega, ?_, h0, ?_⟩, fun rest hr h44 h59 => ?_⟩
        · rcases p5 with ⟨_, rfl⟩ | ⟨_, h, _⟩
          · simp
          · rw [List.length_append, List.length_singleton] at h; omega
        · rw [hdd]
          rcases p5 with ⟨rfl, _⟩ | ⟨_, _, _, h1, h2⟩
          · rw [List.drop_zero]; exact ⟨v5, v6⟩
          · exact ⟨h1, h2⟩
        · have e : (59 :: Y).take (1 + k + 1 + mv + m') ++ rest = 59 :: (Y.take k ++ 61 :: ((Y.drop (k + 1)).take mv ++ (((Y.drop (k + 1)).drop mv).take m' ++ rest))) := by
            rw [show 1 + k + 1 + mv + m' = (k + (1 + (mv + m'))) + 1 by omega, List.take_succ_cons, List.take_add, hd, Nat.add_comm 1 (mv + m'), List.take_succ_cons, List.take_add]
            simp
          have hr' : stpH (((Y.drop (k + 1)).drop mv).take m' ++ rest) = true ∧ at_ (((Y.drop (k + 1)).drop mv).take m' ++ rest) 0 ≠ 44 := by
            rcases p5 with ⟨rfl, _⟩ | ⟨hm, _, h1, _⟩
            · rw [List.take_zero, List.nil_append]; exact ⟨hr, h44⟩
            · cases hq : (Y.drop (k + 1)).drop mv with
              | nil => rw [hq, at_nil] at h1; cases h1
              | cons b' t' =>
                rw [hq] at h1
                have hb' : b' = 59 := UInt8.toNat_inj.1 h1
                subst hb'
                obtain ⟨j, rfl⟩ : ∃ j, m' = j + 1 := ⟨m' - 1, by omega⟩
                rw [List.take_succ_cons]
                exact ⟨by show stp 59 = true; decide, by show (59 : UInt8).toNat ≠ 44; decide⟩
          have hv2 := v7 _ hr'.1 hr'.2
          have hpp := p6 rest hr h44 h59
          have hlk : (Y.take k).length = k := by rw [List.length_take]; omega
          have hlv : ((Y.drop (k + 1)).take mv).length = mv := by rw [List.length_take, List.length_drop]; omega
          rw [e]
          have hk2 : pre nsg (Y.take k ++ 61 :: ((Y.drop (k + 1)).take mv ++ (((Y.drop (k + 1)).drop mv).take m' ++ rest))) = k := by
            rw [pre_app nsg _ _ hno, pre_stop nsg 61 _ (by decide), hlk, Nat.add_zero]
          have hq := prs_on (X := 59 :: (Y.take k ++ 61 :: ((Y.drop (k + 1)).take mv ++ (((Y.drop (k + 1)).drop mv).take m' ++ rest)))) rfl (out := out) ho' hk2 k0 k1 (by rw [List.tail_cons, List.take_left' hlk]; exact ht) (by rw [List.tail_cons, List.drop_left' hlk]; rfl) (vs := vs) (m := mv) (by rw [List.tail_cons, List.drop_left' hlk, List.tail_cons]; exact hv2)
          have hdz : (59 :: (Y.take k ++ 61 :: ((Y.drop (k + 1)).take mv ++ (((Y.drop (k + 1)).drop mv).take m' ++ rest)))).drop (1 + k + 1 + mv) = ((Y.drop (k + 1)).drop mv).take m' ++ rest := by
            have e3 : 59 :: (Y.take k ++ 61 :: ((Y.drop (k + 1)).take mv ++ (((Y.drop (k + 1)).drop mv).take m' ++ rest))) = (59 :: (Y.take k ++ 61 :: (Y.drop (k + 1)).take mv)) ++ (((Y.drop (k + 1)).drop mv).take m' ++ rest) := by simp
            rw [e3, List.drop_left' (by simp only [List.length_cons, List.length_append, hlk, hlv]; omega)]
          rw [hq, hdz, List.tail_cons, List.take_left' hlk, hpp]
theorem chkA_of {ps : List PP} (h1 : ps.length ≤ 6) (h2 : chkPs ps = 0) (h3 : twc [] ps = false) : chkA ps = 0 := by
  unfold chkA
  rw [if_neg (by omega), if_neg (by omega), if_neg (by rw [h3]; decide)]
theorem chkA_was {ps : List PP} (h : chkA ps = 0) : ps.length ≤ 6 ∧ chkPs ps = 0 ∧ twc [] ps = false := by
  unfold chkA at h
  by_cases h1 : 6 < ps.length
  · rw [if_pos h1] at h; cases h
  · rw [if_neg h1] at h
    by_cases h2 : chkPs ps ≠ 0
    · rw [if_pos h2] at h; exact absurd h h2
    · rw [if_neg h2] at h
      by_cases h3 : twc [] ps = true
      · rw [if_pos h3] at h; cases h
      · exact ⟨by omega, by omega, by simpa using h3⟩
/-- What is parsed may be. -/
theorem prs_may {X : List UInt8} {ps : List PP} {m : Nat} (h : prs X [] = (ps, m, 0)) : chkA ps = 0 := by
  obtain ⟨p1, p2, _⟩ := prs_facts 6 X [] ps m (by simp) (by simp) h
  obtain ⟨q1, q2⟩ := p1 rfl rfl
  exact chkA_of p2 q1 q2
/-- What is printed is parsed. -/
theorem prs_back {ps : List PP} (h : chkA ps = 0) {rest : List UInt8} (hr : stpH rest = true) (h44 : at_ rest 0 ≠ 44) (h59 : at_ rest 0 ≠ 59) : prs (prtA ps ++ rest) [] = (ps, (prtA ps).length, 0) := by
  obtain ⟨h1, h2, h3⟩ := chkA_was h
  exact prs_prt ps h2 [] h3 (by simpa using h1) rest hr h44 h59
/-- Sizes of what may be. -/
theorem crt_len (v : List UInt8) : (crt v).length ≤ 2 * v.length := by
  induction v with
  | nil => exact Nat.le_refl _
  | cons b t ih =>
    show (crtB b ++ crt t).length ≤ _
    have : (crtB b).length ≤ 2 := by
      unfold crtB
      split
      · exact Nat.le_refl _
      · split
        · exact Nat.le_refl _
        · split
          · exact Nat.le_refl _
          · simp
    rw [List.length_append, List.length_cons]
    omega
theorem wrt_len (v : List UInt8) : (wrt v).length ≤ 2 * v.length + 2 := by
  have := crt_len v
  unfold wrt
  split
  · rw [List.length_cons, List.length_append, List.length_singleton]; omega
  · omega
theorem joinV_len (B : Nat) : ∀ vs : List (List UInt8), (∀ v ∈ vs, v.length ≤ B) → (joinV vs).length ≤ vs.length * (2 * B + 3)
  | [], _ => Nat.zero_le _
  | [v], h => by
    have h1 := wrt_len v
    have h2 := h v (by simp)
    show (wrt v).length ≤ 1 * (2 * B + 3)
    omega
  | v :: w :: t, h => by
    have h1 := wrt_len v
    have h2 := h v (by simp)
    have h3 := joinV_len B (w :: t) (fun x hx => h x (by simp [hx]))
    show (wrt v ++ 44 :: joinV (w :: t)).length ≤ _
    rw [List.length_append, List.length_cons, List.length_cons (a := v), Nat.succ_mul]
    omega
theorem chkVs_len : ∀ {vs : List (List UInt8)}, chkVs vs = 0 → ∀ v ∈ vs, v.length ≤ 60
  | [], _, v, h => by simp at h
  | w :: t, h, v, hv => by
    obtain ⟨h1, h2⟩ := chkVs_cons h
    rcases List.mem_cons.1 hv with rfl | hv
    · unfold chkV at h1
      split at h1
      · cases h1
      · omega
    · exact chkVs_len h2 v hv
theorem prtA_len : ∀ {ps : List PP}, chkPs ps = 0 → (prtA ps).length ≤ ps.length * 764
  | [], _ => Nat.zero_le _
  | p :: t, h => by
    obtain ⟨h1, h2⟩ := chkPs_cons h
    obtain ⟨n1, n2, n3, n4⟩ := chkP_was h1
    have hn := of_decide_eq_true n1
    have hj := joinV_len 60 p.v (chkVs_len n4)
    have ih := prtA_len h2
    show (prt p ++ prtA t).length ≤ _
    unfold prt
    rw [List.length_append, List.length_cons, List.length_append, List.length_cons, List.length_cons (a := p), Nat.succ_mul]
    have : p.v.length * (2 * 60 + 3) ≤ 6 * 123 := Nat.mul_le_mul n3 (Nat.le_refl _)
    omega
end Go.Proofs.YtndbgdapojkfaaaGreatDoor.Par
