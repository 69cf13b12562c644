import Derived.Test.YtkglolnghihegaaGreatDoorSltP
import Derived.Test.YtkglolnghihegaaGreatDoorDskB

/- Plain facts on journals: what a scan of bodies tells. -/
namespace Go.Proofs.YtkglolnghihegaaGreatDoor.Jrn
open Go.RowKit Go.Proofs.YtkglolnghihegaaGreatDoor.Dsk Go.Proofs.YtkglolnghihegaaGreatDoor.Sht Go.Proofs.YtkglolnghihegaaGreatDoor.Shf Go.Proofs.YtkglolnghihegaaGreatDoor.Slt Go.Proofs.YtkglolnghihegaaGreatDoor.Oct

/-- The records of a generation that bodies tell, from a number on; and how many bodies have them. -/
def scanL (g : Int) : Nat → Nat → List ByteArray → List ByteArray
  | 0, _, _ => []
  | r + 1, k, B => if errJ 2 g k B = 0 then textU (loadS B) :: scanL g r (k + 1) (B.drop (ofS B).toNat) else []
def scanN (g : Int) : Nat → Nat → List ByteArray → Nat
  | 0, _, _ => 0
  | r + 1, k, B => if errJ 2 g k B = 0 then (ofS B).toNat + scanN g r (k + 1) (B.drop (ofS B).toNat) else 0
theorem scanL_stop {g : Int} {r k : Nat} {B : List ByteArray} (h : ¬ errJ 2 g k B = 0) : scanL g r k B = [] := by
  cases r with
  | zero => rfl
  | succ r => exact if_neg h
theorem scanN_stop {g : Int} {r k : Nat} {B : List ByteArray} (h : ¬ errJ 2 g k B = 0) : scanN g r k B = 0 := by
  cases r with
  | zero => rfl
  | succ r => exact if_neg h
theorem scanL_go {g : Int} {r k : Nat} {B : List ByteArray} (h : errJ 2 g k B = 0) : scanL g (r + 1) k B = textU (loadS B) :: scanL g r (k + 1) (B.drop (ofS B).toNat) := if_pos h
theorem scanN_go {g : Int} {r k : Nat} {B : List ByteArray} (h : errJ 2 g k B = 0) : scanN g (r + 1) k B = (ofS B).toNat + scanN g r (k + 1) (B.drop (ofS B).toNat) := if_pos h
theorem scanL_len (g : Int) : ∀ (r k : Nat) (B : List ByteArray), (scanL g r k B).length ≤ r := by
  intro r
  induction r with
  | zero => intro k B; exact Nat.le_refl _
  | succ r ih =>
    intro k B
    by_cases h : errJ 2 g k B = 0
    · rw [scanL_go h, List.length_cons]; exact Nat.succ_le_succ (ih _ _)
    · rw [scanL_stop h]; exact Nat.zero_le _

/-- What is known of bodies that are joined. -/
theorem errJ_some {k : Nat} {g n : Int} {B : List ByteArray} (h : errJ k g n B = 0) : 1 ≤ (ofS B).toNat ∧ (ofS B).toNat ≤ B.length ∧ ofS B = ((ofS B).toNat : Int) ∧ ∀ j, j < (ofS B).toNat → ∃ s, B[j]? = some s ∧ gA s = g := by
  have hS : errS k g n B = 0 := by
    unfold errJ at h
    by_cases hS : errS k g n B = 0
    · exact hS
    · rw [if_neg hS] at h; exact absurd h hS
  obtain ⟨h1, h2, h3⟩ := errS_zero hS
  have hall : ∀ j, j < (ofS B).toNat → ∃ s, B[j]? = some s ∧ gA s = g := fun j hj => by
    obtain ⟨s, hs, hb, -⟩ := errG_zero (h3 j (by omega))
    exact ⟨s, hs, (errB_zero hb).2.2.1⟩
  refine ⟨by omega, ?_, by omega, hall⟩
  obtain ⟨s, hs, -⟩ := hall ((ofS B).toNat - 1) (by omega)
  obtain ⟨hl, -⟩ := List.getElem?_eq_some_iff.1 hs
  omega

theorem drainL_nil : drainL [] = [] := rfl
theorem drainL_cons {s : ByteArray} {L : List ByteArray} (h : wholeB s = true) : drainL (s :: L) = (openR s).2.1 :: drainL L := by
  unfold drainL
  rw [List.takeWhile_cons_of_pos h, List.map_cons]
theorem drainL_none {s : ByteArray} {L : List ByteArray} (h : ¬ wholeB s = true) : drainL (s :: L) = [] := by
  unfold drainL
  rw [List.takeWhile_cons_of_neg h, List.map_nil]
/-- What is drained from further on is the end of what is drained from here. -/
theorem drainL_drop : ∀ (n : Nat) (L : List ByteArray), n ≤ (drainL L).length → drainL (L.drop n) = (drainL L).drop n := by
  intro n
  induction n with
  | zero => intro L _; rfl
  | succ n ih =>
    intro L h
    cases L with
    | nil => rw [drainL_nil] at h; exact absurd h (by simp)
    | cons a L =>
      by_cases ha : wholeB a = true
      · rw [drainL_cons ha, List.length_cons] at h
        rw [drainL_cons ha, List.drop_succ_cons, List.drop_succ_cons]
        exact ih L (by omega)
      · rw [drainL_none ha] at h; exact absurd h (by simp)
theorem part_drop (L : List ByteArray) (a b n : Nat) : Slt.part L (a + n) b = (Slt.part L a b).drop n := by
  unfold Slt.part
  rw [List.drop_drop]
theorem drainD_drop {S : List ByteArray} {V : List Wr} {f : Int} {p q n : Nat} (h : n ≤ (drainD S V f p q).length) : drainD S V f (p + n : Nat) q = (drainD S V f p q).drop n := by
  by_cases h0 : n = 0
  · subst h0; rfl
  · by_cases hok : okS S V f p q = true
    · obtain ⟨h1, h2, h3, h4⟩ := okS_yes hok
      unfold drainD at h ⊢
      rw [if_pos hok] at h ⊢
      have hl := drainL_len (Slt.part (secsD S V) (p : Int).toNat (q : Int).toNat)
      rw [Int.toNat_natCast, Int.toNat_natCast] at hl h ⊢
      rw [part_length (by rw [secsD_length]; omega)] at hl
      rw [if_pos (okS_of h1 (by omega) (by omega) h4), Int.toNat_natCast, part_drop, drainL_drop _ _ h]
    · unfold drainD at h
      rw [if_neg hok] at h
      exact absurd h (by simp; omega)

/-- The bodies of records, from a number on; and how many there are. -/
def recs (g : Nat) : Nat → List ByteArray → List ByteArray
  | _, [] => []
  | k, t :: M => bodiesT 2 g k t ++ recs g (k + 1) M
def tot : List ByteArray → Nat
  | [] => 0
  | t :: M => cntN t.size + tot M
theorem recs_len (g : Nat) : ∀ (M : List ByteArray) (k : Nat), (recs g k M).length = tot M := by
  intro M
  induction M with
  | nil => intro k; rfl
  | cons t M ih => intro k; rw [recs, List.length_append, bodiesT_len, ih, tot]
theorem tot_snoc (M : List ByteArray) (t : ByteArray) : tot (M ++ [t]) = tot M + cntN t.size := by
  induction M with
  | nil => simp [tot]
  | cons x M ih => rw [List.cons_append, tot, ih, tot]; omega
theorem recs_snoc (g : Nat) (t : ByteArray) : ∀ (M : List ByteArray) (k : Nat), recs g k (M ++ [t]) = recs g k M ++ bodiesT 2 g (k + M.length) t := by
  intro M
  induction M with
  | nil => intro k; simp [recs]
  | cons x M ih =>
    intro k
    rw [List.cons_append, recs, ih, recs, List.append_assoc, List.length_cons, show k + 1 + M.length = k + (M.length + 1) by omega]

/-- Records that lie one behind the other are told, and no others. -/
theorem scan_recs {g : Nat} (hg1 : 1 ≤ g) (hg2 : g ≤ 1099511627776) : ∀ (M : List ByteArray) (k r : Nat) (R : List ByteArray), (∀ t ∈ M, (t.size : Int) ≤ 16000) → k + M.length ≤ 4294967295 → M.length ≤ r → ¬ errJ 2 g ((k + M.length : Nat) : Int) R = 0 →
    scanL g r k (recs g k M ++ R) = M ∧ scanN g r k (recs g k M ++ R) = tot M := by
  intro M
  induction M with
  | nil =>
    intro k r R _ _ _ h
    exact ⟨scanL_stop h, scanN_stop h⟩
  | cons t M ih =>
    intro k r R hs hk hr h
    rw [List.length_cons] at hk hr h
    obtain ⟨r, rfl⟩ : ∃ r', r = r' + 1 := ⟨r - 1, by omega⟩
    obtain ⟨j1, j2, j3⟩ := join_back (k := 2) (g := g) (n := k) ⟨by omega, hg1, hg2, by omega⟩ (hs t (by simp)) (begins_append (k := 2) (g := g) (n := k) (t := t) (recs g (k + 1) M ++ R))
    have hd : (bodiesT 2 g k t ++ (recs g (k + 1) M ++ R)).drop (cntN t.size) = recs g (k + 1) M ++ R := List.drop_left' bodiesT_len
    obtain ⟨i1, i2⟩ := ih (k + 1) r R (fun x hx => hs x (by simp [hx])) (by omega) (by omega) (by rw [show k + 1 + M.length = k + (M.length + 1) by omega]; exact h)
    rw [recs, List.append_assoc, scanL_go j1, scanN_go j1, j2, j3, Int.toNat_natCast, hd, i1, i2, tot]
    exact ⟨rfl, rfl⟩

/-- The device's scan. -/
def scanDL (S : List ByteArray) (V : List Wr) (f g : Int) : List ByteArray := if chk S V f = 0 then scanL g 600 0 (drainD S V f (2 * sizR S.length) S.length) else []
def scanDA (S : List ByteArray) (V : List Wr) (f g : Int) : Int := if chk S V f = 0 then 2 * sizR S.length + scanN g 600 0 (drainD S V f (2 * sizR S.length) S.length) else 0
def scanDE (S : List ByteArray) (V : List Wr) (f : Int) : Int := if chk S V f = 0 then 0 else 2

/-- What Put leaves. -/
def putR (S : List ByteArray) (V : List Wr) (f p g n st : Int) (t : ByteArray) : Poured := if 2 * sizR S.length ≤ p then pourR S V f p S.length 2 g n st t else ⟨S, V, f, p, st, 2⟩

/-- How many sheets records take, the longest record, and whether one fits. -/
def needR : List ByteArray → Int
  | [] => 0
  | t :: M => cntR t.size + needR M
theorem needR_snoc (M : List ByteArray) (t : ByteArray) : needR (M ++ [t]) = needR M + cntR t.size := by
  induction M with
  | nil => simp [needR]
  | cons x M ih => rw [List.cons_append, needR, ih, needR]; omega
theorem cntR_of {t : ByteArray} (h : (t.size : Int) ≤ 16000) : cntR t.size = cntN t.size := by
  unfold cntR cntN
  rw [if_pos (by omega)]
  omega
theorem cntR_bound (n : Int) : 0 ≤ cntR n ∧ cntR n ≤ 434 := by unfold cntR; split <;> omega
theorem needR_bound (M : List ByteArray) : 0 ≤ needR M ∧ needR M ≤ 434 * M.length := by
  induction M with
  | nil => simp [needR]
  | cons x M ih =>
    have := cntR_bound x.size
    rw [needR, List.length_cons]
    omega
theorem needR_tot {M : List ByteArray} (h : ∀ t ∈ M, (t.size : Int) ≤ 16000) : needR M = tot M := by
  induction M with
  | nil => rfl
  | cons x M ih =>
    rw [needR, tot, ih (fun t ht => h t (by simp [ht])), cntR_of (h x (by simp))]
    push_cast; rfl
def mostR (n : Int) : Int := if 16 ≤ n ∧ n ≤ 512 then longR (n - 2 * sizR n) else 0
def fitsR (n p z : Int) : Bool := decide (16 ≤ n ∧ n ≤ 512 ∧ 2 * sizR n ≤ p ∧ 0 ≤ z ∧ z ≤ 16000 ∧ cntR z ≤ n - p)

end Go.Proofs.YtkglolnghihegaaGreatDoor.Jrn

/- Plain facts on journals: what a put leaves, and what is scanned then. -/
namespace Go.Proofs.YtkglolnghihegaaGreatDoor.Jrn
open Go.RowKit Go.Proofs.YtkglolnghihegaaGreatDoor.Dsk Go.Proofs.YtkglolnghihegaaGreatDoor.Sht Go.Proofs.YtkglolnghihegaaGreatDoor.Shf Go.Proofs.YtkglolnghihegaaGreatDoor.Slt Go.Proofs.YtkglolnghihegaaGreatDoor.Oct

/-- A record that may be put. -/
structure MayP (S : List ByteArray) (p g n st : Nat) (t : ByteArray) : Prop where
  good : Slt.Good S
  g1 : 1 ≤ g
  g2 : g ≤ 1099511627776
  n : n ≤ 4294967295
  s1 : 1 ≤ st
  s2 : st + cntN t.size ≤ 1099511627776
  sz : (t.size : Int) ≤ 16000
  fits : p + cntN t.size ≤ S.length

theorem at52 {g n : Nat} {t : ByteArray} {i : Nat} (hi : i < cntN t.size) : (bodyAt 2 g n (cntN t.size) (loadT t) i).size = 52 := by
  unfold bodyAt
  exact body_size (part_len (loadT_size t) hi)
theorem all52 {g n : Nat} {t : ByteArray} : ∀ b ∈ bodiesT 2 g n t, b.size = 52 := by
  intro b hb
  obtain ⟨i, hi⟩ := List.mem_iff_getElem?.1 hb
  obtain ⟨h1, -⟩ := List.getElem?_eq_some_iff.1 hi
  rw [bodiesT_len] at h1
  rw [bodiesT_at i h1] at hi
  rw [← Option.some.inj hi]
  exact at52 h1
theorem at_getD {g n : Nat} {t : ByteArray} {i : Nat} (hi : i < cntN t.size) : (bodiesT 2 g n t).getD i ⟨#[]⟩ = bodyAt 2 g n (cntN t.size) (loadT t) i := by
  simp only [List.getD, bodiesT_at i hi, Option.getD_some]

section
variable {S : List ByteArray} {p g n st : Nat} {t : ByteArray}

theorem MayP.head (h : MayP S p g n st t) : Head 2 g n := ⟨by omega, h.g1, h.g2, h.n⟩

/-- What Pour leaves. -/
theorem pour_form (h : MayP S p g n st t) (f : Int) (hf : -1 ≤ f) :
    ∃ j f', j ≤ cntN t.size ∧ -1 ≤ f' ∧ (f = -1 → f' = -1) ∧
      ((pourR S [] f p S.length 2 g n st t = ⟨goAll S ((wrs (bodiesT 2 g n t) st p).take (cntN t.size)) (fun _ => 64), [], f', (p : Int) + cntN t.size, (st : Int) + cntN t.size, 0⟩) ∨
       (f ≠ -1 ∧ chk S ((wrs (bodiesT 2 g n t) st p).take j) f' = 0 ∧ pourR S [] f p S.length 2 g n st t = ⟨S, (wrs (bodiesT 2 g n t) st p).take j, f', p, st, 21⟩)) := by
  have hs1 := h.s1; have hs2 := h.s2; have hlo := h.good.lo; have hhi := h.good.hi; have hfit := h.fits
  obtain ⟨hE, hL⟩ := layS_eq h.head h.sz
  have hcp := cnt_pos t
  have hlay : layS 2 (g : Int) (n : Int) t = bodiesT 2 g n t := hL
  have hlen : (layS 2 (g : Int) (n : Int) t).length = cntN t.size := by rw [hlay, bodiesT_len]
  have hpour : pourE S [] f p S.length 2 g n st t = 0 := by
    unfold pourE
    rw [if_pos (okS_of (h.good.chk hf) (by omega) (by omega) (by omega)), if_pos hE, hlen, if_pos (by omega), if_pos (by omega)]
  obtain ⟨j, f', e, hj, hl, hc, he, hm⟩ := lays_form S (bodiesT 2 g n t) st p [] f (h.good.chk hf) (by rw [bodiesT_len]; omega) (by rw [bodiesT_len]; simp; omega) hs1 (by rw [bodiesT_len]; omega) (fun b hb => by rw [all52 b hb]; omega)
  rw [bodiesT_len] at hj he
  rw [List.nil_append] at hl hc
  rw [wrs_take] at hl hc
  have hf' : -1 ≤ f' := (chk_ok hc).1.2.2
  have hwt : (wrs (bodiesT 2 g n t) st p).take (cntN t.size) = wrs (bodiesT 2 g n t) st p := List.take_of_length_le (by rw [wrs_length, bodiesT_len]; omega)
  unfold pourR
  rw [if_pos hpour, hlay, hl, bodiesT_len]
  rcases he with ⟨rfl, rfl⟩ | rfl
  · rw [hwt] at hc ⊢
    by_cases h0 : f' = 0
    · have hfl : flushR S (wrs (bodiesT 2 g n t) st p, f', 0) = (S, wrs (bodiesT 2 g n t) st p, f', 21) := by
        unfold flushR flushE; dsimp only; rw [if_pos rfl, if_pos hc, if_pos h0]; rfl
      rw [hfl]
      dsimp only
      rw [if_neg (by decide)]
      refine ⟨cntN t.size, f', Nat.le_refl _, hf', fun x => (hm x).2, .inr ⟨fun x => ?_, by rw [hwt]; exact hc, by rw [hwt]⟩⟩
      have := (hm x).2
      omega
    · have hfl : flushR S (wrs (bodiesT 2 g n t) st p, f', 0) = (goAll S (wrs (bodiesT 2 g n t) st p) (fun _ => 64), [], burnt f', 0) := by
        unfold flushR flushE; dsimp only; rw [if_pos rfl, if_pos hc, if_neg h0]; rfl
      rw [hfl]
      dsimp only
      rw [if_pos rfl]
      exact ⟨cntN t.size, burnt f', Nat.le_refl _, burnt_ge hf', fun x => by rw [(hm x).2]; rfl, .inl rfl⟩
  · have hfl : flushR S ((wrs (bodiesT 2 g n t) st p).take j, f', 21) = (S, (wrs (bodiesT 2 g n t) st p).take j, f', 21) := rfl
    rw [hfl]
    dsimp only
    rw [if_neg (by decide)]
    exact ⟨j, f', hj, hf', fun x => (hm x).2, .inr ⟨fun x => by have := (hm x).1; omega, hc, rfl⟩⟩

/-- A record that does not fit. -/
theorem pour_full (hG : Slt.Good S) (hH : Head 2 g n) (ht : (t.size : Int) ≤ 16000) (hp : p ≤ S.length) (h : ¬ p + cntN t.size ≤ S.length) (f : Int) (hf : -1 ≤ f) (z : Int) : pourR S [] f p S.length 2 g n z t = ⟨S, [], f, p, z, 7⟩ := by
  obtain ⟨hE, hL⟩ := layS_eq hH ht
  have hlay : layS 2 (g : Int) (n : Int) t = bodiesT 2 g n t := hL
  have hpour : pourE S [] f p S.length 2 g n z t = 7 := by
    unfold pourE
    rw [if_pos (okS_of (hG.chk hf) (by omega) (by omega) (by omega)), if_pos hE, hlay, bodiesT_len, if_neg (by omega)]
  unfold pourR
  rw [hpour, if_neg (by decide)]

theorem goAll_goodP (h : MayP S p g n st t) (j : Nat) (c : Nat → Nat) (hc : ∀ i, c i ≤ 64) : Slt.Good (goAll S ((wrs (bodiesT 2 g n t) st p).take j) c) := by
  have hb := h.fits
  have hw : (wrs (bodiesT 2 g n t) st p).all (wrOk S.length) = true := by
    rw [List.all_eq_true]
    intro x hx
    obtain ⟨i, hi, rfl⟩ := List.getElem_of_mem hx
    rw [wrs_length, bodiesT_len] at hi
    rw [wrs_get _ _ _ _ (by rw [bodiesT_len]; exact hi), wrOk_iff]
    refine ⟨by simp only; omega, by simp only; omega, sheetB_size _ _ ?_⟩
    rw [all52 _ (List.getElem_mem _)]; omega
  obtain ⟨h1, h2⟩ := goAll_ok h.good.ok hw hc j
  exact ⟨by rw [h2]; exact h.good.lo, by rw [h2]; exact h.good.hi, h1⟩

/-- What each sector has, behind a put that was broken off. -/
theorem sec_put (h : MayP S p g n st t) (c : Nat → Nat) (j : Nat) (hj : j ≤ cntN t.size) (q : Nat) (hq : q < S.length) :
    secAt (goAll S ((wrs (bodiesT 2 g n t) st p).take j) c) q =
      if p ≤ q ∧ q < p + j then torn (sheetB (st + (q - p)) (bodyAt 2 g n (cntN t.size) (loadT t) (q - p))) (secAt S q) (c (q - p)) else secAt S q := by
  have hb := h.fits
  rw [sec_after h.good.ok (by rw [bodiesT_len]; omega) c q hq j (by rw [bodiesT_len]; exact hj)]
  by_cases hh : p ≤ q ∧ q < p + j
  · rw [dif_pos hh, if_pos hh, at_getD (by omega)]
  · rw [dif_neg hh, if_neg hh]
end

/-- Records that lie from a place on. -/
structure LaidP (S : List ByteArray) (b g : Nat) (M : List ByteArray) : Prop where
  sec : ∀ i, (h : i < (recs g 0 M).length) → ∃ st, 1 ≤ st ∧ st ≤ 1099511627776 ∧ secAt S (b + i) = sheetB st (recs g 0 M)[i]
/-- No whole sheet from a place on is of the generation. -/
def RestP (S : List ByteArray) (p : Nat) (g : Int) : Prop := ∀ q, p ≤ q → q < S.length → wholeB (secAt S q) = true → gA (openR (secAt S q)).2.1 ≠ g

theorem recs52 (g : Nat) : ∀ (M : List ByteArray) (k : Nat), ∀ b ∈ recs g k M, b.size = 52 := by
  intro M
  induction M with
  | nil => intro k b hb; simp [recs] at hb
  | cons t M ih =>
    intro k b hb
    rw [recs] at hb
    rcases List.mem_append.1 hb with hb | hb
    · exact all52 b hb
    · exact ih (k + 1) b hb

theorem LaidP.drain {S : List ByteArray} {b g : Nat} {M : List ByteArray} (h : LaidP S b g M) (hb : b + tot M ≤ S.length) : drainL (Slt.part S b S.length) = recs g 0 M ++ drainL (Slt.part S (b + tot M) S.length) := by
  have hl := recs_len g M 0
  rw [part_drop, ← hl]
  have e : ∀ i, (hi : i < (recs g 0 M).length) → ∃ st, 1 ≤ st ∧ st ≤ 1099511627776 ∧ (Slt.part S b S.length)[i]? = some (sheetB st (recs g 0 M)[i]) := fun i hi => by
    obtain ⟨st, h1, h2, h3⟩ := h.sec i hi
    exact ⟨st, h1, h2, by rw [part_getD (by omega) (Nat.le_refl _), h3]⟩
  generalize Slt.part S b S.length = P at *
  have h52 := recs52 g M 0
  generalize recs g 0 M = B at *
  clear h hl hb
  induction B generalizing P with
  | nil => rfl
  | cons x B ih =>
    obtain ⟨st, h1, h2, h3⟩ := e 0 (by simp)
    cases P with
    | nil => simp at h3
    | cons s P =>
      obtain rfl : s = sheetB st x := by simpa using h3
      have ho := open_body h1 h2 (h52 x (by simp))
      have hw : wholeB (sheetB st x) = true := by unfold wholeB; rw [ho]; rfl
      rw [drainL_cons hw, ho, List.length_cons, List.drop_succ_cons, List.cons_append, ← ih P ?_ fun y hy => h52 y (by simp [hy])]
      intro i hi
      obtain ⟨st', h1', h2', h3'⟩ := e (i + 1) (by simp; omega)
      exact ⟨st', h1', h2', by simpa using h3'⟩

theorem RestP.join {S : List ByteArray} {p : Nat} {g : Int} (h : RestP S p g) (hp : p ≤ S.length) (k : Nat) (n : Int) : ¬ errJ k g n (drainL (Slt.part S p S.length)) = 0 := by
  intro he
  obtain ⟨h1, -, -, h4⟩ := errJ_some he
  obtain ⟨s, hs, hg⟩ := h4 0 (by omega)
  obtain ⟨hj, hw, rfl⟩ := drainL_get hs
  rw [part_length (Nat.le_refl _)] at hj
  have e : (Slt.part S p S.length)[0] = secAt S (p + 0) := by rw [part_get hj (Nat.le_refl _), secAt_eq]
  rw [e] at hw hg
  exact h (p + 0) (by omega) (by omega) hw hg

/-- What is scanned. -/
theorem scan_laid {S : List ByteArray} {b g : Nat} {M : List ByteArray} (hG : Slt.Good S) (hb : b = 2 * (S.length / 4)) (hg1 : 1 ≤ g) (hg2 : g ≤ 1099511627776) (h : LaidP S b g M) (hs : ∀ t ∈ M, (t.size : Int) ≤ 16000) (hM : M.length ≤ 600)
    (hp : b + tot M ≤ S.length) (hR : ¬ errJ 2 g (M.length : Nat) (drainL (Slt.part S (b + tot M) S.length)) = 0) : scanDL S [] (-1) g = M ∧ scanDA S [] (-1) g = ((b + tot M : Nat) : Int) ∧ scanDE S [] (-1) = 0 := by
  have hlo := hG.lo
  have hc := hG.chk (f := -1) (by omega)
  have e2 : 2 * sizR S.length = (b : Int) := by rw [hG.sz, hb]; push_cast; rfl
  have ed : drainD S [] (-1) (2 * sizR S.length) S.length = recs g 0 M ++ drainL (Slt.part S (b + tot M) S.length) := by
    unfold drainD
    rw [e2, if_pos (okS_of hc (by omega) (by omega) (by omega)), hG.secs, Int.toNat_natCast, Int.toNat_natCast, h.drain hp]
  obtain ⟨i1, i2⟩ := scan_recs hg1 hg2 M 0 600 (drainL (Slt.part S (b + tot M) S.length)) hs (by omega) hM (by rw [Nat.zero_add]; exact hR)
  unfold scanDL scanDA scanDE
  rw [if_pos hc, if_pos hc, if_pos hc, ed, e2, i1, i2]
  refine ⟨rfl, ?_, rfl⟩
  push_cast; rfl

/-- Another generation is not scanned. -/
theorem scan_other {S : List ByteArray} {b g g' : Nat} {M : List ByteArray} (hG : Slt.Good S) (hb : b = 2 * (S.length / 4)) (hg : g < 256 ^ 6) (hne : g' ≠ g) (h : LaidP S b g M) (hp : b + tot M ≤ S.length) (hR : RestP S (b + tot M) g') :
    scanDL S [] (-1) g' = [] ∧ scanDA S [] (-1) g' = (b : Int) ∧ scanDE S [] (-1) = 0 := by
  have hlo := hG.lo
  have hc := hG.chk (f := -1) (by omega)
  have e2 : 2 * sizR S.length = (b : Int) := by rw [hG.sz, hb]; push_cast; rfl
  have ed : drainD S [] (-1) (2 * sizR S.length) S.length = recs g 0 M ++ drainL (Slt.part S (b + tot M) S.length) := by
    unfold drainD
    rw [e2, if_pos (okS_of hc (by omega) (by omega) (by omega)), hG.secs, Int.toNat_natCast, Int.toNat_natCast, h.drain hp]
  have hJ : ¬ errJ 2 (g' : Int) ((0 : Nat) : Int) (drainD S [] (-1) (2 * sizR S.length) S.length) = 0 := by
    rw [ed]
    cases M with
    | nil => exact hR.join hp 2 _
    | cons t M =>
      intro he
      obtain ⟨h1, -, -, h4⟩ := errJ_some he
      obtain ⟨s, hs, hgs⟩ := h4 0 (by omega)
      have hcp := cnt_pos t
      rw [recs, List.append_assoc, List.getElem?_append_left (by rw [bodiesT_len]; exact hcp), bodiesT_at 0 hcp] at hs
      rw [← Option.some.inj hs] at hgs
      unfold bodyAt at hgs
      rw [body_g hg] at hgs
      exact hne (by omega)
  unfold scanDL scanDA scanDE
  rw [if_pos hc, if_pos hc, if_pos hc, e2] at *
  rw [scanL_stop (by rw [e2] at hJ; exact hJ), scanN_stop (by rw [e2] at hJ; exact hJ)]
  exact ⟨rfl, by omega, rfl⟩

/-- A put that nothing breaks off: what it leaves. -/
structure PutP (S : List ByteArray) (p g n st : Nat) (t : ByteArray) (S' : List ByteArray) : Prop where
  good : Slt.Good S'
  len : S'.length = S.length
  new_ : ∀ i, i < cntN t.size → secAt S' (p + i) = sheetB (st + i) (bodyAt 2 g n (cntN t.size) (loadT t) i)
  old : ∀ q, q < S.length → ¬ (p ≤ q ∧ q < p + cntN t.size) → secAt S' q = secAt S q

theorem put_goes {S : List ByteArray} {p g n st : Nat} {t : ByteArray} (h : MayP S p g n st t) : PutP S p g n st t (goAll S ((wrs (bodiesT 2 g n t) st p).take (cntN t.size)) (fun _ => 64)) := by
  have hfit := h.fits
  refine ⟨goAll_goodP h _ _ fun _ => Nat.le_refl _, goAll_len _ _ _, fun i hi => ?_, fun q hq hn => ?_⟩
  · rw [sec_put h _ _ (Nat.le_refl _) (p + i) (by omega), if_pos (by omega), show p + i - p = i by omega]
    exact torn_64 (sheetB_size _ _ (by rw [at52 hi]; omega)) ((secOk_iff S).1 h.good.ok _ (h.good.sec_mem (by omega)))
  · rw [sec_put h _ _ (Nat.le_refl _) q hq, if_neg hn]
theorem put_plain {S : List ByteArray} {p g n st : Nat} {t : ByteArray} (h : MayP S p g n st t) (hb : 2 * (S.length / 4) ≤ p) :
    ∃ S', putR S [] (-1) p g n st t = ⟨S', [], -1, (p : Int) + cntN t.size, (st : Int) + cntN t.size, 0⟩ ∧ PutP S p g n st t S' := by
  unfold putR
  rw [if_pos (by rw [h.good.sz]; omega)]
  obtain ⟨j, f', hj, hf', hf, hx | ⟨hne, -, -⟩⟩ := pour_form h (-1) (by omega)
  · rw [hf rfl] at hx
    exact ⟨_, hx, put_goes h⟩
  · exact absurd rfl hne

theorem PutP.laid {S S' : List ByteArray} {b g st : Nat} {M : List ByteArray} {t : ByteArray} (hP : PutP S (b + tot M) g M.length st t S') (h : LaidP S b g M) (h1 : 1 ≤ st) (h2 : st + cntN t.size ≤ 1099511627776) (hf : b + tot M + cntN t.size ≤ S.length) : LaidP S' b g (M ++ [t]) := by
  have hl := recs_len g M 0
  have e : recs g 0 (M ++ [t]) = recs g 0 M ++ bodiesT 2 g M.length t := by rw [recs_snoc, Nat.zero_add]
  refine ⟨fun i hi => ?_⟩
  rw [e, List.length_append, bodiesT_len] at hi
  have hge : (recs g 0 (M ++ [t]))[i]? = (recs g 0 M ++ bodiesT 2 g M.length t)[i]? := by rw [e]
  by_cases h3 : i < (recs g 0 M).length
  · obtain ⟨s, a1, a2, a3⟩ := h.sec i h3
    refine ⟨s, a1, a2, ?_⟩
    rw [hP.old _ (by omega) (by omega), a3]
    rw [List.getElem?_append_left h3, List.getElem?_eq_getElem h3, List.getElem?_eq_getElem (by rw [e, List.length_append, bodiesT_len]; exact hi)] at hge
    rw [Option.some.inj hge]
  · refine ⟨st + (i - tot M), by omega, by omega, ?_⟩
    rw [List.getElem?_append_right (by omega), hl, bodiesT_at _ (by omega), List.getElem?_eq_getElem (by rw [e, List.length_append, bodiesT_len]; exact hi)] at hge
    rw [Option.some.inj hge, show b + i = b + tot M + (i - tot M) by omega]
    exact hP.new_ _ (by omega)
theorem PutP.rest {S S' : List ByteArray} {p g n st : Nat} {t : ByteArray} (hP : PutP S p g n st t S') {g' : Int} (h : RestP S p g') : RestP S' (p + cntN t.size) g' := fun q h1 h2 hw => by
  have hl := hP.len
  rw [hP.old q (by omega) (by omega)] at hw ⊢
  exact h q (by omega) (by omega) hw

end Go.Proofs.YtkglolnghihegaaGreatDoor.Jrn

/- Plain facts on journals: records that are put one behind the other on a new disk; and what every right program does. -/
namespace Go.Proofs.YtkglolnghihegaaGreatDoor.Jrn
open Go.RowKit Go.Proofs.YtkglolnghihegaaGreatDoor.Dsk Go.Proofs.YtkglolnghihegaaGreatDoor.Sht Go.Proofs.YtkglolnghihegaaGreatDoor.Shf Go.Proofs.YtkglolnghihegaaGreatDoor.Slt Go.Proofs.YtkglolnghihegaaGreatDoor.Oct

theorem zero_whole : wholeB (fillS 0) = false := by
  have := Sec.zero.whole
  cases hw : wholeB (fillS 0) with
  | false => rfl
  | true => have := this.1 hw; omega
theorem good_newS {n : Nat} (h1 : 16 ≤ n) (h2 : n ≤ 512) : Slt.Good (newS n) ∧ (newS n).length = n ∧ ∀ q, q < n → secAt (newS n) q = fillS 0 := by
  have hl : (newS n).length = n := by simp [newS]
  refine ⟨⟨by omega, by omega, ?_⟩, hl, fun q hq => ?_⟩
  · rw [secOk_iff]
    intro s hs
    unfold newS at hs
    rw [(List.mem_replicate.1 hs).2]
    exact fillS_size 0
  · rw [secAt_eq (by omega)]; simp only [newS, List.getElem_replicate]

/-- Records of a generation that lie on a disk on which nothing else does. -/
structure JB (S : List ByteArray) (N g : Nat) (M : List ByteArray) : Prop where
  good : Slt.Good S
  len : S.length = N
  laid : LaidP S (2 * (N / 4)) g M
  zero : ∀ q, 2 * (N / 4) + tot M ≤ q → q < N → secAt S q = fillS 0
  sz : ∀ t ∈ M, (t.size : Int) ≤ 16000
  fit : 2 * (N / 4) + tot M ≤ N

section
variable {S : List ByteArray} {N g : Nat} {M : List ByteArray}

theorem JB.rest (h : JB S N g M) (g' : Int) : RestP S (2 * (N / 4) + tot M) g' := fun q h1 h2 hw => by
  have hl := h.len
  rw [h.zero q h1 (by omega), zero_whole] at hw
  exact absurd hw (by decide)
theorem jb_new (h1 : 16 ≤ N) (h2 : N ≤ 512) (g : Nat) : JB (newS N) N g [] := by
  obtain ⟨a, b, c⟩ := good_newS h1 h2
  exact ⟨a, b, ⟨fun i hi => by simp [recs] at hi⟩, fun q _ hq => c q hq, by simp, by simp [tot]; omega⟩
theorem JB.may (h : JB S N g M) (hg1 : 1 ≤ g) (hg2 : g ≤ 1099511627776) (hM : M.length ≤ 4294967295) {st : Nat} {t : ByteArray} (hs1 : 1 ≤ st) (hs2 : st + cntN t.size ≤ 1099511627776) (ht : (t.size : Int) ≤ 16000) (hf : 2 * (N / 4) + tot M + cntN t.size ≤ N) : MayP S (2 * (N / 4) + tot M) g M.length st t :=
  ⟨h.good, hg1, hg2, hM, hs1, hs2, ht, by rw [h.len]; exact hf⟩
theorem JB.put (h : JB S N g M) (hg1 : 1 ≤ g) (hg2 : g ≤ 1099511627776) (hM : M.length ≤ 4294967295) {st : Nat} {t : ByteArray} (hs1 : 1 ≤ st) (hs2 : st + cntN t.size ≤ 1099511627776) (ht : (t.size : Int) ≤ 16000) (hf : 2 * (N / 4) + tot M + cntN t.size ≤ N) :
    ∃ S', putR S [] (-1) ((2 * (N / 4) + tot M : Nat) : Int) g (M.length : Nat) st t = ⟨S', [], -1, ((2 * (N / 4) + tot (M ++ [t]) : Nat) : Int), ((st + cntN t.size : Nat) : Int), 0⟩ ∧ JB S' N g (M ++ [t]) := by
  have hm := h.may hg1 hg2 hM hs1 hs2 ht hf
  have hl := h.len
  obtain ⟨S', e, hP⟩ := put_plain hm (by omega)
  have hts := tot_snoc M t
  refine ⟨S', ?_, hP.good, by rw [hP.len, hl], hP.laid h.laid hs1 hs2 (by omega), fun q h1 h2 => ?_, fun x hx => ?_, by omega⟩
  · rw [e, hts]; push_cast; rw [Int.add_assoc]
  · rw [hP.old q (by omega) (by omega)]
    exact h.zero q (by omega) h2
  · rcases List.mem_append.1 hx with hx | hx
    · exact h.sz x hx
    · rw [List.mem_singleton.1 hx]; exact ht
theorem JB.full (h : JB S N g M) (hg1 : 1 ≤ g) (hg2 : g ≤ 1099511627776) (hM : M.length ≤ 4294967295) {z : Int} {t : ByteArray} (ht : (t.size : Int) ≤ 16000) (hf : ¬ 2 * (N / 4) + tot M + cntN t.size ≤ N) :
    putR S [] (-1) ((2 * (N / 4) + tot M : Nat) : Int) g (M.length : Nat) z t = ⟨S, [], -1, ((2 * (N / 4) + tot M : Nat) : Int), z, 7⟩ := by
  have hl := h.len
  have hfit := h.fit
  have hlo := h.good.lo
  unfold putR
  rw [if_pos (by rw [h.good.sz]; omega)]
  exact pour_full h.good ⟨by omega, hg1, hg2, hM⟩ ht (by omega) (by omega) (-1) (by omega) z
theorem JB.scan (h : JB S N g M) (hg1 : 1 ≤ g) (hg2 : g ≤ 1099511627776) (hM : M.length ≤ 600) : scanDL S [] (-1) g = M ∧ scanDA S [] (-1) g = ((2 * (N / 4) + tot M : Nat) : Int) ∧ scanDE S [] (-1) = 0 := by
  have hl := h.len
  have hfit := h.fit
  exact scan_laid h.good (by rw [hl]) hg1 hg2 h.laid h.sz hM (by omega) ((h.rest g).join (by omega) 2 _)
theorem JB.other (h : JB S N g M) (hg2 : g ≤ 1099511627776) {g' : Nat} (hne : g' ≠ g) : scanDL S [] (-1) g' = [] ∧ scanDA S [] (-1) g' = ((2 * (N / 4) : Nat) : Int) ∧ scanDE S [] (-1) = 0 := by
  have hl := h.len
  have hfit := h.fit
  exact scan_other h.good (by rw [hl]) (by omega) hne h.laid (by omega) (h.rest g')
end

def oneT : ByteArray := ⟨#[111, 110, 101]⟩
def secondT : ByteArray := ⟨#[97, 32, 115, 101, 99, 111, 110, 100, 32, 114, 101, 99, 111, 114, 100, 44, 32, 116, 104, 97, 116, 32, 116, 97, 107, 101, 115, 32, 116, 119, 111, 32, 115, 104, 101, 101, 116, 115]⟩

/-- What every right program does with two records. -/
structure AwJ (Sa Sb : List ByteArray) : Prop where
  one : putR (newS 16) [] (-1) 8 3 0 5 oneT = ⟨Sa, [], -1, 9, 6, 0⟩
  two : putR Sa [] (-1) 9 3 1 6 secondT = ⟨Sb, [], -1, 11, 8, 0⟩
  scan : scanDL Sb [] (-1) 3 = [oneT, secondT] ∧ scanDA Sb [] (-1) 3 = 11 ∧ scanDE Sb [] (-1) = 0
  none_ : scanDL Sb [] (-1) 4 = []
  ahead : putR (newS 16) [] (-1) 7 3 0 5 ⟨#[]⟩ = ⟨newS 16, [], -1, 7, 5, 2⟩
  full : putR (newS 16) [] (-1) 15 3 0 5 secondT = ⟨newS 16, [], -1, 15, 5, 7⟩

theorem awj : ∃ Sa Sb, AwJ Sa Sb := by
  have h0 := jb_new (N := 16) (by omega) (by omega) 3
  have s1 : oneT.size = 3 := rfl
  have s2 : secondT.size = 38 := rfl
  have c1 : cntN oneT.size = 1 := by rw [s1]; decide
  have c2 : cntN secondT.size = 2 := by rw [s2]; decide
  obtain ⟨Sa, e1, h1⟩ := h0.put (st := 5) (t := oneT) (by omega) (by omega) (by simp) (by omega) (by omega) (by omega) (by simp only [tot]; omega)
  obtain ⟨Sb, e2, h2⟩ := h1.put (st := 6) (t := secondT) (by omega) (by omega) (by simp) (by omega) (by omega) (by omega) (by simp only [tot, List.nil_append]; omega)
  refine ⟨Sa, Sb, ?_, ?_, ?_, (h2.other (g' := 4) (by omega) (by omega)).1, ?_, ?_⟩
  · simp only [tot, List.nil_append, c1] at e1; exact e1
  · simp only [tot, List.nil_append, c1, c2, List.singleton_append] at e2; exact e2
  · have := h2.scan (by omega) (by omega) (by simp)
    simp only [tot, List.nil_append, c1, c2, List.singleton_append] at this
    exact this
  · unfold putR; rw [if_neg (by rw [h0.good.sz, h0.len]; omega)]
  · have hG := h0.good
    unfold putR
    rw [if_pos (by rw [h0.good.sz, h0.len]; omega)]
    exact pour_full (p := 15) (g := 3) (n := 0) hG ⟨by omega, by omega, by omega, by omega⟩ (by omega) (by rw [h0.len]; omega) (by rw [h0.len, c2]; omega) (-1) (by omega) 5

end Go.Proofs.YtkglolnghihegaaGreatDoor.Jrn

/- Plain facts on journals: puts that the power breaks off, again and again; and the records of a new generation behind them. -/
namespace Go.Proofs.YtkglolnghihegaaGreatDoor.Jrn
open Go.RowKit Go.Proofs.YtkglolnghihegaaGreatDoor.Dsk Go.Proofs.YtkglolnghihegaaGreatDoor.Sht Go.Proofs.YtkglolnghihegaaGreatDoor.Shf Go.Proofs.YtkglolnghihegaaGreatDoor.Slt Go.Proofs.YtkglolnghihegaaGreatDoor.Oct

set_option linter.unusedVariables false
section
variable {S : List ByteArray} {p g n st : Nat} {t : ByteArray}

/-- A sector, behind a put that was broken off: as it was, the new sheet, or neither. -/
theorem sec_cases (h : MayP S p g n st t) (hs : st + cntN t.size ≤ 256) (c : Nat → Nat) (hc : ∀ i, c i ≤ 64) (j : Nat) (hj : j ≤ cntN t.size) (q : Nat) (hq : q < S.length) {x y : Nat} (hx : Sec (secAt S q) x y) (hxs : p ≤ q → q < p + cntN t.size → x < st) :
    secAt (goAll S ((wrs (bodiesT 2 g n t) st p).take j) c) q = secAt S q ∨
    (p ≤ q ∧ q < p + j ∧ (secAt (goAll S ((wrs (bodiesT 2 g n t) st p).take j) c) q = sheetB (st + (q - p)) (bodyAt 2 g n (cntN t.size) (loadT t) (q - p)) ∨
      (Sec (secAt (goAll S ((wrs (bodiesT 2 g n t) st p).take j) c) q) (st + (q - p)) y ∧ y < st))) := by
  rw [sec_put h c j hj q hq]
  by_cases hh : p ≤ q ∧ q < p + j
  · have h1 := hxs hh.1 (by omega)
    have h2 := hx.ba
    rw [if_pos hh]
    rcases (torn_sec hx (show x < st + (q - p) by omega) (show st + (q - p) < 256 by omega) (show (bodyAt 2 g n (cntN t.size) (loadT t) (q - p)).size ≤ 52 by rw [at52 (by omega)]; omega) (c (q - p)) (hc _)).1 with e | e | e
    · exact .inl e
    · exact .inr ⟨hh.1, hh.2, .inl e⟩
    · exact .inr ⟨hh.1, hh.2, .inr ⟨e, by omega⟩⟩
  · rw [if_neg hh]; exact .inl rfl
theorem sheet_sec {i : Nat} (h : st + i < 256) (hi : i < cntN t.size) : Sec (sheetB (st + i) (bodyAt 2 g n (cntN t.size) (loadT t) i)) (st + i) (st + i) := Sec.sheet h (by rw [at52 hi]; omega)
theorem sheet_gA (hs1 : 1 ≤ st) (hg : g ≤ 1099511627776) {i : Nat} (h : st + i < 256) (hi : i < cntN t.size) : gA (openR (sheetB (st + i) (bodyAt 2 g n (cntN t.size) (loadT t) i))).2.1 = g := by
  rw [open_body (by omega) (by omega) (at52 hi)]
  unfold bodyAt
  exact body_g (by omega)
end

/-- What holds behind each try. -/
structure OInv (S : List ByteArray) (b : Nat) : Prop where
  good : Slt.Good S
  len : S.length = 32
  sec : ∀ q, q < 32 → ∃ x y, Sec (secAt S q) x y ∧ x ≤ b
  old : ∀ q, q < 32 → wholeB (secAt S q) = true → gA (openR (secAt S q)).2.1 ≤ topL S

theorem OInv.top_le {S : List ByteArray} {b : Nat} (h : OInv S b) : topL S ≤ b := topL_le (by omega) fun s hs => by
  obtain ⟨q, hq, rfl⟩ := h.good.mem hs
  obtain ⟨x, y, hx, hb⟩ := h.sec q (by have := h.len; omega)
  rw [hx.top]; omega
theorem OInv.sec_top {S : List ByteArray} {b : Nat} (h : OInv S b) {q : Nat} (hq : q < 32) : ∃ x y, Sec (secAt S q) x y ∧ x ≤ b ∧ (x : Int) ≤ topL S := by
  obtain ⟨x, y, hx, hb⟩ := h.sec q hq
  refine ⟨x, y, hx, hb, ?_⟩
  have := topL_ge (h.good.sec_mem (show q < S.length by have := h.len; omega))
  rwa [hx.top] at this
theorem oinv_new : OInv (newS 32) 0 := by
  obtain ⟨a, b, c⟩ := good_newS (n := 32) (by omega) (by omega)
  refine ⟨a, b, fun q hq => ⟨0, 0, by rw [c q hq]; exact Sec.zero, Nat.le_refl _⟩, fun q hq hw => ?_⟩
  rw [c q hq, zero_whole] at hw
  exact absurd hw (by decide)

/-- A try: a put that the power may break off, and a crash. -/
theorem OInv.step {S : List ByteArray} {b : Nat} (h : OInv S b) (hb : b + 9 < 250) {g : Nat} (hg : (g : Int) = topL S + 1) {t : ByteArray} (ht : t.size ≤ 300) (j : Nat) (hj : j ≤ cntN t.size) (c : Nat → Nat) (hc : ∀ i, c i ≤ 64) :
    OInv (goAll S ((wrs (bodiesT 2 g 0 t) g 16).take j) c) (b + 9) := by
  have h1 := h.top_le
  have h2 := topL_nonneg S
  have h4 : cntN t.size ≤ 9 := by unfold cntN; omega
  have hl := h.len
  have hm : MayP S 16 g 0 g t := ⟨h.good, by omega, by omega, by omega, by omega, by omega, by omega, by omega⟩
  have hgood := goAll_goodP hm j c hc
  have hlen' := goAll_len S ((wrs (bodiesT 2 g 0 t) g 16).take j) c
  have hcase := fun q (hq : q < 32) x y (hx : Sec (secAt S q) x y) (hxs : x < g) => sec_cases hm (by omega) c hc j hj q (by omega) hx (fun _ _ => hxs)
  generalize goAll S ((wrs (bodiesT 2 g 0 t) g 16).take j) c = S' at *
  have htop : topL S ≤ topL S' := topL_le (topL_nonneg _) fun s hs => by
    obtain ⟨q, hq, rfl⟩ := h.good.mem hs
    obtain ⟨x, y, hx, hxb, hxt⟩ := h.sec_top (q := q) (by omega)
    refine Int.le_trans ?_ (topL_ge (hgood.sec_mem (q := q) (by omega)))
    rcases hcase q (by omega) x y hx (by omega) with e | ⟨a1, a2, e | ⟨e, -⟩⟩
    · rw [e]; exact Int.le_refl _
    · rw [e, hx.top, (sheet_sec (by omega) (by omega)).top]; omega
    · rw [hx.top, e.top]; omega
  refine ⟨hgood, by omega, fun q hq => ?_, fun q hq hw => ?_⟩
  · obtain ⟨x, y, hx, hxb, hxt⟩ := h.sec_top hq
    rcases hcase q hq x y hx (by omega) with e | ⟨a1, a2, e | ⟨e, -⟩⟩
    · exact ⟨x, y, by rw [e]; exact hx, by omega⟩
    · exact ⟨_, _, by rw [e]; exact sheet_sec (by omega) (by omega), by omega⟩
    · exact ⟨_, _, e, by omega⟩
  · obtain ⟨x, y, hx, hxb, hxt⟩ := h.sec_top hq
    have hxy := hx.ba
    rcases hcase q hq x y hx (by omega) with e | ⟨a1, a2, e | ⟨e, hy⟩⟩
    · rw [e] at hw ⊢
      exact Int.le_trans (h.old q hq hw) htop
    · have ht' := (sheet_sec (g := g) (n := 0) (st := g) (t := t) (i := q - 16) (by omega) (by omega)).top
      rw [← e] at ht'
      have := topL_ge (hgood.sec_mem (q := q) (by omega))
      rw [e, sheet_gA (by omega) (by omega) (by omega) (by omega)]
      omega
    · have := e.whole.1 hw
      omega

/-- What a try answers, and what is left. -/
theorem OInv.try_ {S : List ByteArray} {b : Nat} (h : OInv S b) (hb : b + 9 < 250) {t : ByteArray} (ht : t.size ≤ 300) (f : Int) (hf : -1 ≤ f) (zs : List Int) :
    ∃ S2 W2 f2 p2 st2 e2, putR S [] f 16 (topL S + 1) 0 (topL S + 1) t = ⟨S2, W2, f2, p2, st2, e2⟩ ∧ (e2 = 0 ∨ e2 = 21) ∧ chk S2 W2 f2 = 0 ∧ OInv (goAll S2 W2 (cutAt zs)) (b + 9) := by
  have h1 := h.top_le
  have h2 := topL_nonneg S
  have h4 : cntN t.size ≤ 9 := by unfold cntN; omega
  have hl := h.len
  obtain ⟨g, hg⟩ := Int.eq_ofNat_of_zero_le (show 0 ≤ topL S + 1 by omega)
  have hm : MayP S 16 g 0 g t := ⟨h.good, by omega, by omega, by omega, by omega, by omega, by omega, by omega⟩
  have hstep := fun j hj c hc => h.step hb hg.symm ht j hj c hc
  rw [hg]
  unfold putR
  rw [if_pos (by rw [h.good.sz, hl]; omega)]
  obtain ⟨j, f', hj, hf', -, hx | ⟨-, hc, hx⟩⟩ := pour_form hm f hf
  · refine ⟨_, _, _, _, _, _, hx, .inl rfl, (goAll_goodP hm _ _ fun _ => Nat.le_refl _).chk hf', ?_⟩
    rw [goAll_nil]
    exact hstep _ (Nat.le_refl _) _ fun _ => Nat.le_refl _
  · exact ⟨_, _, _, _, _, _, hx, .inr rfl, hc, hstep j hj _ fun i => cutAt_le zs i⟩

/-- Records of a new generation, behind those that were broken off. -/
structure NInv (S : List ByteArray) (g : Nat) (M : List ByteArray) : Prop where
  good : Slt.Good S
  len : S.length = 32
  g1 : 1 ≤ g
  g2 : g ≤ 60
  laid : LaidP S 16 g M
  rest : ∀ q, 16 + tot M ≤ q → q < 32 → (∃ x y, Sec (secAt S q) x y ∧ x < g) ∧ (wholeB (secAt S q) = true → gA (openR (secAt S q)).2.1 ≠ g)
  sz : ∀ t ∈ M, (t.size : Int) ≤ 16000
  fit : 16 + tot M ≤ 32

section
variable {S : List ByteArray} {g : Nat} {M : List ByteArray}
theorem OInv.ninv {b : Nat} (h : OInv S b) (hb : b ≤ 50) (hg : (g : Int) = topL S + 1) : NInv S g [] := by
  have h1 := h.top_le
  have h2 := topL_nonneg S
  refine ⟨h.good, h.len, by omega, by omega, ⟨fun i hi => by simp [recs] at hi⟩, fun q _ hq => ⟨?_, fun hw => ?_⟩, by simp, by simp [tot]⟩
  · obtain ⟨x, y, hx, hxb, hxt⟩ := h.sec_top hq
    exact ⟨x, y, hx, by omega⟩
  · have := h.old q hq hw
    omega
theorem NInv.restP (h : NInv S g M) : RestP S (16 + tot M) g := fun q h1 h2 hw => (h.rest q h1 (by have := h.len; omega)).2 hw
theorem NInv.may (h : NInv S g M) (hM : M.length ≤ 100) {t : ByteArray} (ht : (t.size : Int) ≤ 16000) (hf : 16 + tot M + cntN t.size ≤ 32) : MayP S (16 + tot M) g M.length (g + tot M) t :=
  ⟨h.good, h.g1, by have := h.g2; omega, by omega, by have := h.g1; omega, by have := h.g2; have := h.fit; omega, ht, by rw [h.len]; exact hf⟩
theorem NInv.more (h : NInv S g M) (hM : M.length ≤ 100) {t : ByteArray} (ht : (t.size : Int) ≤ 16000) (hf : 16 + tot M + cntN t.size ≤ 32) {S' : List ByteArray} (hP : PutP S (16 + tot M) g M.length (g + tot M) t S') : NInv S' g (M ++ [t]) := by
  have hl := h.len
  have hg1 := h.g1
  have hg2 := h.g2
  have hts := tot_snoc M t
  refine ⟨hP.good, by rw [hP.len, hl], hg1, hg2, hP.laid h.laid (by omega) (by omega) (by omega), fun q h1 h2 => ?_, fun x hx => ?_, by omega⟩
  · rw [hP.old q (by omega) (by omega)]
    exact h.rest q (by omega) h2
  · rcases List.mem_append.1 hx with hx | hx
    · exact h.sz x hx
    · rw [List.mem_singleton.1 hx]; exact ht
theorem NInv.scan (h : NInv S g M) (hM : M.length ≤ 100) (hR : ¬ errJ 2 g (M.length : Nat) (drainL (Slt.part S (16 + tot M) S.length)) = 0) : scanDL S [] (-1) g = M ∧ scanDE S [] (-1) = 0 := by
  have hl := h.len
  have hfit := h.fit
  have hg2 := h.g2
  obtain ⟨a, -, c⟩ := scan_laid h.good (b := 16) (by rw [hl]) h.g1 (by omega) h.laid h.sz (by omega) (by omega) hR
  exact ⟨a, c⟩
theorem NInv.scan_ (h : NInv S g M) (hM : M.length ≤ 100) : scanDL S [] (-1) g = M ∧ scanDE S [] (-1) = 0 := h.scan hM (h.restP.join (by have := h.len; have := h.fit; omega) 2 _)

theorem NInv.putR_in (h : NInv S g M) (f z : Int) (t : ByteArray) : putR S [] f ((16 + tot M : Nat) : Int) g (M.length : Nat) z t = pourR S [] f ((16 + tot M : Nat) : Int) S.length 2 g (M.length : Nat) z t := by
  have hl := h.len
  unfold putR
  rw [if_pos (by rw [h.good.sz, hl]; omega)]
/-- A record more. -/
theorem NInv.put (h : NInv S g M) (hM : M.length ≤ 100) {t : ByteArray} (ht : (t.size : Int) ≤ 16000) (hf : 16 + tot M + cntN t.size ≤ 32) :
    ∃ S', putR S [] (-1) ((16 + tot M : Nat) : Int) g (M.length : Nat) ((g + tot M : Nat) : Int) t = ⟨S', [], -1, ((16 + tot (M ++ [t]) : Nat) : Int), ((g + tot (M ++ [t]) : Nat) : Int), 0⟩ ∧ NInv S' g (M ++ [t]) := by
  have hm := h.may hM ht hf
  have hts := tot_snoc M t
  rw [h.putR_in]
  obtain ⟨j, f', hj, hf', hf1, hx | ⟨hne, -, -⟩⟩ := pour_form hm (-1) (by omega)
  · rw [hf1 rfl] at hx
    refine ⟨_, ?_, h.more hM ht hf (put_goes hm)⟩
    rw [hx, hts]; push_cast; rw [Int.add_assoc, Int.add_assoc]
  · exact absurd rfl hne
theorem NInv.full (h : NInv S g M) (hM : M.length ≤ 100) {t : ByteArray} (ht : (t.size : Int) ≤ 16000) (hf : ¬ 16 + tot M + cntN t.size ≤ 32) (f : Int) (hf1 : -1 ≤ f) (z : Int) :
    putR S [] f ((16 + tot M : Nat) : Int) g (M.length : Nat) z t = ⟨S, [], f, ((16 + tot M : Nat) : Int), z, 7⟩ := by
  have hl := h.len
  have hg2 := h.g2
  rw [h.putR_in]
  exact pour_full h.good ⟨by omega, h.g1, by omega, by omega⟩ ht (by have := h.fit; omega) (by omega) f hf1 z

/-- The last record, as the power goes somewhere: what is scanned. -/
theorem NInv.last (h : NInv S g M) (hM : M.length ≤ 50) {t : ByteArray} (ht : (t.size : Int) ≤ 16000) (f : Int) (hf : -1 ≤ f) (zs : List Int) :
    ∃ S2 W2 f2 p2 st2 e2, putR S [] f ((16 + tot M : Nat) : Int) g (M.length : Nat) ((g + tot M : Nat) : Int) t = ⟨S2, W2, f2, p2, st2, e2⟩ ∧ chk S2 W2 f2 = 0 ∧ scanDE (goAll S2 W2 (cutAt zs)) [] (-1) = 0 ∧
      ((e2 = 0 ∧ scanDL (goAll S2 W2 (cutAt zs)) [] (-1) g = M ++ [t]) ∨ (e2 = 21 ∧ scanDL (goAll S2 W2 (cutAt zs)) [] (-1) g = M ++ [t]) ∨ ((e2 = 21 ∨ e2 = 7) ∧ scanDL (goAll S2 W2 (cutAt zs)) [] (-1) g = M)) := by
  have hl := h.len
  have hg1 := h.g1
  have hg2 := h.g2
  have hfit := h.fit
  have hml : (M ++ [t]).length ≤ 100 := by simp; omega
  by_cases hfi : 16 + tot M + cntN t.size ≤ 32
  · have hm := h.may (by omega) ht hfi
    rw [h.putR_in]
    obtain ⟨j, f', hj, hf', -, hx | ⟨-, hc, hx⟩⟩ := pour_form hm f hf
    · have hN := h.more (by omega) ht hfi (put_goes hm)
      obtain ⟨a, b⟩ := hN.scan_ hml
      refine ⟨_, _, _, _, _, _, hx, hN.good.chk hf', ?_, .inl ⟨rfl, ?_⟩⟩
      · rw [goAll_nil]; exact b
      · rw [goAll_nil]; exact a
    · refine ⟨_, _, _, _, _, _, hx, hc, ?_⟩
      have hgood := goAll_goodP hm j (cutAt zs) fun i => cutAt_le zs i
      have hlen' := goAll_len S ((wrs (bodiesT 2 g M.length t) (g + tot M) (16 + tot M)).take j) (cutAt zs)
      have hsec := fun q (hq : q < S.length) => sec_put hm (cutAt zs) j hj q hq
      have hcase := fun q (h1 : 16 + tot M ≤ q) (hq : q < 32) => (by
        obtain ⟨⟨x, y, hx, hxg⟩, -⟩ := h.rest q h1 hq
        exact sec_cases hm (by omega) (cutAt zs) (fun i => cutAt_le zs i) j hj q (by omega) hx (fun _ _ => by omega) |>.imp_right fun ⟨a1, a2, a3⟩ => ⟨a1, a2, a3.imp_right fun a4 => ⟨y, a4⟩⟩ :
          secAt (goAll S ((wrs (bodiesT 2 g M.length t) (g + tot M) (16 + tot M)).take j) (cutAt zs)) q = secAt S q ∨ (16 + tot M ≤ q ∧ q < 16 + tot M + j ∧ (secAt (goAll S ((wrs (bodiesT 2 g M.length t) (g + tot M) (16 + tot M)).take j) (cutAt zs)) q = sheetB (g + tot M + (q - (16 + tot M))) (bodyAt 2 g M.length (cntN t.size) (loadT t) (q - (16 + tot M))) ∨
            ∃ y, Sec (secAt (goAll S ((wrs (bodiesT 2 g M.length t) (g + tot M) (16 + tot M)).take j) (cutAt zs)) q) (g + tot M + (q - (16 + tot M))) y ∧ y < g + tot M)))
      generalize goAll S ((wrs (bodiesT 2 g M.length t) (g + tot M) (16 + tot M)).take j) (cutAt zs) = S' at *
      have hold : ∀ q, q < S.length → ¬ (16 + tot M ≤ q ∧ q < 16 + tot M + cntN t.size) → secAt S' q = secAt S q := fun q hq hn => by rw [hsec q hq, if_neg (by omega)]
      by_cases hall : ∀ i, i < cntN t.size → secAt S' (16 + tot M + i) = sheetB (g + tot M + i) (bodyAt 2 g M.length (cntN t.size) (loadT t) i)
      · have hN := h.more (by omega) ht hfi ⟨hgood, hlen', hall, hold⟩
        obtain ⟨a, b⟩ := hN.scan_ hml
        exact ⟨b, .inr (.inl ⟨rfl, a⟩)⟩
      · -- not all of it is there
        have hlaid : LaidP S' 16 g M := ⟨fun i hi => by
          obtain ⟨s, a1, a2, a3⟩ := h.laid.sec i hi
          have := recs_len g M 0
          exact ⟨s, a1, a2, by rw [hold _ (by omega) (by omega), a3]⟩⟩
        have hJ : ¬ errJ 2 g (M.length : Nat) (drainL (Slt.part S' (16 + tot M) S'.length)) = 0 := fun he => by
          obtain ⟨o1, o2, o3, o4⟩ := errJ_some he
          have hnew : ∀ k, k < (ofS (drainL (Slt.part S' (16 + tot M) S'.length))).toNat → 16 + tot M + k < 32 ∧ k < cntN t.size ∧ secAt S' (16 + tot M + k) = sheetB (g + tot M + k) (bodyAt 2 g M.length (cntN t.size) (loadT t) k) ∧ (drainL (Slt.part S' (16 + tot M) S'.length))[k]? = some (openR (secAt S' (16 + tot M + k))).2.1 := fun k hk => by
            obtain ⟨s, hs, hgs⟩ := o4 k hk
            have hs2 := hs
            obtain ⟨hj1, hw, rfl⟩ := drainL_get hs
            rw [part_length (Nat.le_refl _)] at hj1
            have e : (Slt.part S' (16 + tot M) S'.length)[k] = secAt S' (16 + tot M + k) := by rw [part_get hj1 (Nat.le_refl _), secAt_eq]
            rw [e] at hw hgs hs2
            rcases hcase (16 + tot M + k) (by omega) (by omega) with e1 | ⟨a1, a2, e1 | ⟨y, e1, hy⟩⟩
            · rw [e1] at hw hgs
              exact absurd hgs ((h.rest _ (by omega) (by omega)).2 hw)
            · rw [show 16 + tot M + k - (16 + tot M) = k by omega] at e1
              exact ⟨by omega, by omega, e1, hs2⟩
            · have := e1.whole.1 hw
              omega
          obtain ⟨h32, hk0, e0, hs0⟩ := hnew 0 (by omega)
          have hof : ofS (drainL (Slt.part S' (16 + tot M) S'.length)) = cntN t.size := by
            unfold ofS
            rw [hs0, e0, open_body (by omega) (by omega) (at52 hk0)]
            exact at_oA (cnt_lt ht) 0
          exact hall fun i hi => (hnew i (by rw [hof]; omega)).2.2.1
        have hl' : S'.length = 32 := by omega
        obtain ⟨a, -, b⟩ := scan_laid hgood (b := 16) (by rw [hl']) hg1 (by omega) hlaid h.sz (by omega) (by omega) hJ
        exact ⟨b, .inr (.inr ⟨.inl rfl, a⟩)⟩
  · rw [h.full (by omega) ht hfi f hf]
    obtain ⟨a, b⟩ := h.scan_ (by omega)
    refine ⟨_, _, _, _, _, _, rfl, h.good.chk hf, ?_, .inr (.inr ⟨.inr rfl, ?_⟩)⟩
    · rw [goAll_nil]; exact b
    · rw [goAll_nil]; exact a
end

end Go.Proofs.YtkglolnghihegaaGreatDoor.Jrn
