import Derived.Test.YtpeckeiaonjaaaaGreatDoorSlotsSave
import Derived.Test.YtpeckeiaonjaaaaGreatDoorShtP
import Derived.Test.YtpeckeiaonjaaaaGreatDoorSheafBackP
import Derived.Test.YtpeckeiaonjaaaaGreatDoorDiskPlain
import Derived.Test.YtpeckeiaonjaaaaGreatDoorSlotsDrain
import Derived.Test.YtpeckeiaonjaaaaGreatDoorSlotsBest

/- Plain facts on saves: what is put, how far it comes, and what each sector has then. -/
namespace Go.Proofs.YtpeckeiaonjaaaaGreatDoor.Slt
open Go.RowKit Go.Proofs.YtpeckeiaonjaaaaGreatDoor.Dsk Go.Proofs.YtpeckeiaonjaaaaGreatDoor.Sht Go.Proofs.YtpeckeiaonjaaaaGreatDoor.Shf Go.Proofs.YtpeckeiaonjaaaaGreatDoor.Oct

/-- The writes of bodies, one behind the other. -/
def wrs : List ByteArray → Nat → Nat → List Wr
  | [], _, _ => []
  | b :: bs, st, p => ((p : Int), sheetB st b) :: wrs bs (st + 1) (p + 1)
theorem wrs_length (bs : List ByteArray) : ∀ st p, (wrs bs st p).length = bs.length := by
  induction bs with
  | nil => intro _ _; rfl
  | cons b bs ih => intro st p; show (wrs bs (st + 1) (p + 1)).length + 1 = _; rw [ih]; rfl
theorem wrs_get (bs : List ByteArray) : ∀ st p k, (h : k < bs.length) → (wrs bs st p)[k]'(by rw [wrs_length]; exact h) = (((p + k : Nat) : Int), sheetB (st + k) bs[k]) := by
  induction bs with
  | nil => intro _ _ k h; simp at h
  | cons b bs ih =>
    intro st p k h
    cases k with
    | zero => rfl
    | succ k =>
      have := ih (st + 1) (p + 1) k (by simpa using h)
      show (wrs bs (st + 1) (p + 1))[k]'_ = _
      rw [this]
      simp only [List.getElem_cons_succ]
      rw [show p + 1 + k = p + (k + 1) by omega, show st + 1 + k = st + (k + 1) by omega]
theorem wrs_take (bs : List ByteArray) : ∀ st p k, wrs (bs.take k) st p = (wrs bs st p).take k := by
  induction bs with
  | nil => intro _ _ k; simp [wrs]
  | cons b bs ih =>
    intro st p k
    cases k with
    | zero => rfl
    | succ k => show _ :: wrs (bs.take k) (st + 1) (p + 1) = _ :: (wrs bs (st + 1) (p + 1)).take k; rw [ih]

theorem seal_sheet {n : Nat} {b : ByteArray} (h1 : 1 ≤ n) (h2 : n ≤ 1099511627776) (h : b.size ≤ 52) : (sealR n b).1 = sheetB n b := by
  unfold sealR
  rw [if_pos (by omega), if_pos h]
  rfl

theorem chk_more {S : List ByteArray} {W : List Wr} {f : Int} (h : chk S W f = 0) {p : Nat} (hp : p < S.length) {s : ByteArray} (hs : s.size = 64) (hw : W.length < 1024) : chk S (W ++ [((p : Int), s)]) (burnt f) = 0 := by
  obtain ⟨⟨h1, h2, h3⟩, h4, h5, h6⟩ := chk_ok h
  refine chk0 ⟨h1, h2, burnt_ge h3⟩ h4 (by simp; omega) ?_
  rw [List.all_append, h6]
  simp only [List.all_cons, List.all_nil, Bool.and_true, Bool.true_and]
  rw [wrOk_iff]
  exact ⟨by omega, by omega, hs⟩
theorem putE_in {S : List ByteArray} {W : List Wr} {f : Int} (h : chk S W f = 0) {p : Nat} (hp : p < S.length) {s : ByteArray} (hs : s.size = 64) (hw : W.length < 1024) : putE S W f p s = if f = 0 then 21 else 0 := by
  unfold putE
  rw [if_pos h, if_pos (by omega), if_pos hs]
  split
  · rfl
  · rw [if_neg (by omega)]

/-- How far bodies come. -/
theorem lays_form (S : List ByteArray) : ∀ (bs : List ByteArray) (st p : Nat) (W : List Wr) (f : Int), chk S W f = 0 → p + bs.length ≤ S.length → W.length + bs.length ≤ 1024 → 1 ≤ st → st + bs.length ≤ 1099511627777 → (∀ b ∈ bs, b.size ≤ 52) →
    ∃ k f' e, k ≤ bs.length ∧ lays S bs st p W f = (W ++ wrs (bs.take k) st p, f', e) ∧ chk S (W ++ wrs (bs.take k) st p) f' = 0 ∧ (e = 0 ∧ k = bs.length ∨ e = 21) ∧ (f = -1 → e = 0 ∧ f' = -1) := by
  intro bs
  induction bs with
  | nil =>
    intro st p W f hc _ _ _ _ _
    exact ⟨0, f, 0, Nat.le_refl _, by simp [lays, wrs], by simpa [wrs] using hc, .inl ⟨rfl, rfl⟩, fun h => ⟨rfl, h⟩⟩
  | cons b bs ih =>
    intro st p W f hc hp hw h1 h2 hb
    simp only [List.length_cons] at hp hw h2
    have hbs : b.size ≤ 52 := hb b (by simp)
    have hs : (sheetB st b).size = 64 := sheetB_size st b hbs
    have hpe := putE_in (s := sheetB st b) hc (show p < S.length by omega) hs (show W.length < 1024 by omega)
    unfold lays
    rw [seal_sheet h1 (by omega) hbs, hpe]
    by_cases hf : f = 0
    · rw [if_pos hf, if_neg (by decide)]
      exact ⟨0, f, 21, Nat.zero_le _, by simp [wrs], by simpa [wrs] using hc, .inr rfl, fun h => by omega⟩
    · rw [if_neg hf, if_pos rfl]
      obtain ⟨k, f', e, hk, he, hc', h4, h5⟩ := ih (st + 1) (p + 1) (W ++ [((p : Int), sheetB st b)]) (burnt f) (chk_more hc (by omega) hs (by omega)) (by omega) (by simp; omega) (by omega) (by omega) (fun x hx => hb x (by simp [hx]))
      have ew : W ++ wrs ((b :: bs).take (k + 1)) st p = W ++ [((p : Int), sheetB st b)] ++ wrs (bs.take k) (st + 1) (p + 1) := by
        simp [wrs]
      refine ⟨k + 1, f', e, by simp; omega, ?_, by rw [ew]; exact hc', ?_, ?_⟩
      · rw [ew, ← he]; push_cast; rfl
      · rcases h4 with ⟨h4, h6⟩ | h4
        · exact .inl ⟨h4, by simp [h6]⟩
        · exact .inr h4
      · intro h
        subst h
        exact h5 (by unfold burnt; rfl)

set_option linter.unusedVariables false in
/-- One sector, behind writes that go. -/
theorem sec_after {S : List ByteArray} (hS : secOk S = true) {bs : List ByteArray} {st p : Nat} (hp : p + bs.length ≤ S.length) (c : Nat → Nat) (q : Nat) (hq : q < S.length) :
    ∀ k, k ≤ bs.length → secAt (goAll S ((wrs bs st p).take k) c) q = if h : p ≤ q ∧ q < p + k then torn (sheetB (st + (q - p)) (bs.getD (q - p) ⟨#[]⟩)) (secAt S q) (c (q - p)) else secAt S q := by
  intro k
  induction k with
  | zero => intro _; rw [dif_neg (by omega)]; rfl
  | succ k ih =>
    intro hk
    have hl : k < (wrs bs st p).length := by rw [wrs_length]; omega
    have hlen : (goAll S ((wrs bs st p).take k) c).length = S.length := by
      have : ∀ (V : List Wr), (goAll S V c).length = S.length := by
        intro V
        unfold goAll
        suffices H : ∀ (L : List (Wr × Nat)) (T : List ByteArray), (L.foldl (fun S p => goOne S p.1 (c p.2)) T).length = T.length from H _ _
        intro L
        induction L with
        | nil => intro T; rfl
        | cons x L ih => intro T; rw [List.foldl_cons, ih, goOne_length]
      exact this _
    rw [goAll_take S _ k hl, goOne_at _ _ _ _ (by rw [wrs_get bs st p k (by omega)]; simp only; omega) (by omega), wrs_get bs st p k (by omega), ih (by omega)]
    dsimp only
    by_cases hqk : q = p + k
    · subst hqk
      rw [if_pos rfl, dif_neg (by omega), dif_pos (by omega)]
      unfold torn
      have e : p + k - p = k := by omega
      rw [e]
      congr 2
      simp only [List.getD, List.getElem?_eq_getElem (show k < bs.length by omega)]
      rfl
    · rw [if_neg (by omega)]
      by_cases h2 : p ≤ q ∧ q < p + k
      · rw [dif_pos h2, dif_pos (by omega)]
      · rw [dif_neg h2, dif_neg (by omega)]

end Go.Proofs.YtpeckeiaonjaaaaGreatDoor.Slt

/- Plain facts on sectors with small stamps: whole ones, and ones that were broken off, again and again. -/
namespace Go.Proofs.YtpeckeiaonjaaaaGreatDoor.Slt
open Go.RowKit Go.Proofs.YtpeckeiaonjaaaaGreatDoor.Dsk Go.Proofs.YtpeckeiaonjaaaaGreatDoor.Sht Go.Proofs.YtpeckeiaonjaaaaGreatDoor.Shf Go.Proofs.YtpeckeiaonjaaaaGreatDoor.Oct

/-- A small stamp. -/
def st6 (a : Nat) : List UInt8 := [0, 0, 0, 0, 0, UInt8.ofNat a]
theorem beB_small {a : Nat} (h : a < 256) : beB 6 a = st6 a := by
  have e : ∀ k, 0 < k → a / 256 ^ k = 0 := fun k hk => Nat.div_eq_of_lt (Nat.lt_of_lt_of_le h (by
    calc 256 = 256 ^ 1 := by rfl
    _ ≤ 256 ^ k := Nat.pow_le_pow_right (by omega) hk))
  unfold st6
  simp only [beB, e 5 (by omega), e 4 (by omega), e 3 (by omega), e 2 (by omega), e 1 (by omega), Nat.pow_zero, Nat.div_one, Nat.mod_eq_of_lt h]
  rfl
theorem natBE_small {a : Nat} (h : a < 256) : natBE (st6 a) = a := by rw [← beB_small h, Sht.natBE_beB, Nat.mod_eq_of_lt (by omega)]
theorem st6_inj {a b : Nat} (ha : a < 256) (hb : b < 256) (h : st6 a = st6 b) : a = b := by rw [← natBE_small ha, ← natBE_small hb, h]
theorem st6_take (a b m : Nat) (h : m ≤ 5) : (st6 a).take m = (st6 b).take m := by
  unfold st6
  match m, h with
  | 0, _ | 1, _ | 2, _ | 3, _ | 4, _ | 5, _ => rfl
theorem st6_mix (a b j : Nat) (h : j ≤ 5) : (st6 a).take j ++ (st6 b).drop j = st6 b := by rw [st6_take a b j h, List.take_append_drop]

/-- A sector that begins with the stamp a, and ends with the stamp b, that is not greater. -/
structure Sec (s : ByteArray) (a b : Nat) : Prop where
  size : s.size = 64
  fst : s.data.toList.take 6 = st6 a
  lst : s.data.toList.drop 58 = st6 b
  ba : b ≤ a
  lt : a < 256

theorem Sec.top {s : ByteArray} {a b : Nat} (h : Sec s a b) : topR s = a := by
  have hb := h.ba; have ha := h.lt
  rw [topR, if_pos h.size, drop_take6 h.size, h.fst, h.lst, natBE_small ha, natBE_small (by omega), if_neg (by omega)]
theorem Sec.whole {s : ByteArray} {a b : Nat} (h : Sec s a b) : wholeB s = true ↔ (a = b ∧ 1 ≤ a) := by
  have hb := h.ba; have ha := h.lt
  unfold wholeB openR
  rw [if_pos h.size, drop_take6 h.size, h.fst, h.lst]
  by_cases e : a = b
  · subst e
    rw [if_pos rfl, natBE_small ha]
    by_cases h1 : 1 ≤ a
    · rw [if_pos (by omega)]; simp [h1]
    · rw [if_neg (by omega)]; simp [h1]
  · rw [if_neg (fun x => e (st6_inj ha (by omega) x))]
    simp [e]
theorem Sec.sheet {t : Nat} {bd : ByteArray} (ht : t < 256) (h : bd.size ≤ 52) : Sec (sheetB t bd) t t := by
  have e := Ends.sheet t bd h
  exact ⟨e.size, by rw [e.first, beB_small ht], by rw [e.last, beB_small ht], Nat.le_refl _, ht⟩
theorem Sec.zero : Sec (fillS 0) 0 0 := ⟨fillS_size 0, by decide +kernel, by decide +kernel, Nat.le_refl _, by omega⟩

theorem torn_sec {O : ByteArray} {a b t : Nat} {bd : ByteArray} (hO : Sec O a b) (hat : a < t) (ht : t < 256) (hbd : bd.size ≤ 52) (m : Nat) (hm : m ≤ 64) :
    (torn (sheetB t bd) O m = O ∨ torn (sheetB t bd) O m = sheetB t bd ∨ Sec (torn (sheetB t bd) O m) t b) ∧ (m = 64 → torn (sheetB t bd) O m = sheetB t bd) := by
  have hT := Sec.sheet ht hbd
  have hba := hO.ba
  generalize sheetB t bd = T at *
  have lo : O.data.toList.length = 64 := hO.size
  have lt : T.data.toList.length = 64 := hT.size
  have hl := torn_list T O m
  have h64 : m = 64 → torn T O m = T := fun h => by
    apply list_ext
    rw [hl, h, List.take_of_length_le (by omega), List.drop_of_length_le (by omega), List.append_nil]
  refine ⟨?_, h64⟩
  have hs : (torn T O m).size = 64 := by
    rw [← size_list, hl, List.length_append, List.length_take, List.length_drop]; omega
  by_cases h1 : m < 6
  · left
    apply list_ext
    rw [hl]
    have e3 : T.data.toList.take m = O.data.toList.take m := by
      have e1 : T.data.toList.take m = (T.data.toList.take 6).take m := by rw [List.take_take, Nat.min_eq_left (by omega)]
      have e2 : O.data.toList.take m = (O.data.toList.take 6).take m := by rw [List.take_take, Nat.min_eq_left (by omega)]
      rw [e1, e2, hT.fst, hO.fst]
      exact st6_take _ _ _ (by omega)
    rw [e3, List.take_append_drop]
  · by_cases h3 : m = 64
    · exact .inr (.inl (h64 h3))
    · right; right
      refine ⟨hs, ?_, ?_, by omega, ht⟩
      · rw [hl, List.take_append_of_le_length (by rw [List.length_take]; omega), List.take_take, Nat.min_eq_left (by omega), hT.fst]
      · rw [hl]
        by_cases h2 : m ≤ 58
        · rw [List.drop_append, List.drop_of_length_le (by rw [List.length_take]; omega), List.nil_append, List.length_take, List.drop_drop, ← hO.lst]
          congr 1; omega
        · rw [List.drop_append_of_le_length (by rw [List.length_take]; omega), List.drop_take]
          have e2 : O.data.toList.drop m = (O.data.toList.drop 58).drop (m - 58) := by rw [List.drop_drop]; congr 1; omega
          rw [e2, hT.lst, hO.lst]
          exact st6_mix _ _ _ (by omega)

/-- What bodies a list of sheets has. -/
theorem drainL_app {A R : List ByteArray} (h : ∀ s ∈ A, wholeB s = true) : drainL (A ++ R) = (A.map fun s => (openR s).2.1) ++ drainL R := by
  induction A with
  | nil => rfl
  | cons a A ih =>
    have := ih fun s hs => h s (by simp [hs])
    unfold drainL at this ⊢
    rw [List.cons_append, List.takeWhile_cons_of_pos (h a (by simp)), List.map_cons, this]
    rfl
theorem drainL_get {L : List ByteArray} {j : Nat} {x : ByteArray} (h : (drainL L)[j]? = some x) : ∃ (hj : j < L.length), wholeB L[j] = true ∧ x = (openR L[j]).2.1 := by
  induction L generalizing j with
  | nil => simp [drainL] at h
  | cons a L ih =>
    by_cases ha : wholeB a = true
    · have e : drainL (a :: L) = (openR a).2.1 :: drainL L := by unfold drainL; rw [List.takeWhile_cons_of_pos ha]; rfl
      rw [e] at h
      cases j with
      | zero => simp at h; exact ⟨by simp, ha, h.symm⟩
      | succ j =>
        obtain ⟨hj, h1, h2⟩ := ih (by simpa using h)
        exact ⟨by simp; omega, by simpa using h1, by simpa using h2⟩
    · have e : drainL (a :: L) = [] := by unfold drainL; rw [List.takeWhile_cons_of_neg ha]; rfl
      rw [e] at h
      simp at h
theorem drainL_no {L : List ByteArray} (h : ∀ s, L[0]? = some s → wholeB s = false) : drainL L = [] := by
  cases L with
  | nil => rfl
  | cons a L =>
    unfold drainL
    rw [List.takeWhile_cons_of_neg (by rw [h a rfl]; decide)]
    rfl

theorem bodyB_self {b : ByteArray} (h : b.size = 52) : Sht.bodyB b = b := by
  unfold Sht.bodyB
  rw [h]
  simp
theorem open_body {n : Nat} {b : ByteArray} (h1 : 1 ≤ n) (h2 : n ≤ 1099511627776) (h : b.size = 52) : openR (sheetB n b) = ((n : Int), b, 0) := by
  rw [open_sheet n b h1 h2 (by omega), bodyB_self h]

theorem topL_ge {L : List ByteArray} {s : ByteArray} (h : s ∈ L) : topR s ≤ topL L := by
  unfold topL
  suffices H : ∀ (L : List ByteArray) (z : Int), z ≤ L.foldl (fun t s => max t (topR s)) z ∧ ∀ s ∈ L, topR s ≤ L.foldl (fun t s => max t (topR s)) z from (H L 0).2 s h
  intro L
  induction L with
  | nil => intro z; exact ⟨Int.le_refl _, fun s h => by simp at h⟩
  | cons a L ih =>
    intro z
    rw [List.foldl_cons]
    obtain ⟨h1, h2⟩ := ih (max z (topR a))
    refine ⟨by omega, fun s hs => ?_⟩
    rcases List.mem_cons.1 hs with rfl | hs
    · omega
    · exact h2 s hs
theorem topL_le {L : List ByteArray} {m : Int} (h0 : 0 ≤ m) (h : ∀ s ∈ L, topR s ≤ m) : topL L ≤ m := by
  unfold topL
  suffices H : ∀ (L : List ByteArray) (z : Int), z ≤ m → (∀ s ∈ L, topR s ≤ m) → L.foldl (fun t s => max t (topR s)) z ≤ m from H L 0 h0 h
  intro L
  induction L with
  | nil => intro z hz _; exact hz
  | cons a L ih =>
    intro z hz h
    rw [List.foldl_cons]
    have := h a (by simp)
    exact ih _ (by omega) fun s hs => h s (by simp [hs])
theorem topL_nonneg (L : List ByteArray) : 0 ≤ topL L := by
  unfold topL
  suffices H : ∀ (L : List ByteArray) (z : Int), z ≤ L.foldl (fun t s => max t (topR s)) z from H L 0
  intro L
  induction L with
  | nil => intro z; exact Int.le_refl _
  | cons a L ih => intro z; rw [List.foldl_cons]; have := ih (max z (topR a)); omega

end Go.Proofs.YtpeckeiaonjaaaaGreatDoor.Slt

/- Plain facts on slots: what is saved is loaded. -/
namespace Go.Proofs.YtpeckeiaonjaaaaGreatDoor.Slt
open Go.RowKit Go.Proofs.YtpeckeiaonjaaaaGreatDoor.Dsk Go.Proofs.YtpeckeiaonjaaaaGreatDoor.Sht Go.Proofs.YtpeckeiaonjaaaaGreatDoor.Shf Go.Proofs.YtpeckeiaonjaaaaGreatDoor.Oct

/-- A disk that may be, on which nothing waits. -/
structure Good (S : List ByteArray) : Prop where
  lo : 16 ≤ S.length
  hi : S.length ≤ 512
  ok : secOk S = true
theorem Good.chk {S : List ByteArray} (h : Good S) {f : Int} (hf : -1 ≤ f) : chk S [] f = 0 := chk0 ⟨h.lo, h.hi, hf⟩ h.ok (by simp) (by simp)
theorem Good.sz {S : List ByteArray} (h : Good S) : sizR S.length = ((S.length / 4 : Nat) : Int) := by have := h.lo; have := h.hi; rw [sizR_of (by omega) (by omega)]; omega
theorem Good.secs {S : List ByteArray} (_ : Good S) : secsD S [] = S := secsD_nil S
theorem Good.mem {S : List ByteArray} (_ : Good S) {s : ByteArray} (hs : s ∈ S) : ∃ q, q < S.length ∧ secAt S q = s := by
  obtain ⟨q, hq, e⟩ := List.getElem_of_mem hs
  exact ⟨q, hq, by rw [secAt_eq hq, e]⟩
theorem Good.sec_mem {S : List ByteArray} (_ : Good S) {q : Nat} (hq : q < S.length) : secAt S q ∈ S := by rw [secAt_eq hq]; exact List.getElem_mem hq

theorem isS_nat {k : Nat} (hk : k < 2) : isS (k : Int) = true := by unfold isS; simp; omega
theorem Good.mayL {S : List ByteArray} (h : Good S) {k : Nat} (hk : k < 2) : mayL S [] (-1) k = true := by
  unfold Slt.mayL
  rw [h.chk (by omega), isS_nat hk]
  rfl
theorem Good.slotB {S : List ByteArray} (h : Good S) {k : Nat} (hk : k < 2) : slotB S [] (-1) k = drainL (part S (k * (S.length / 4)) ((k + 1) * (S.length / 4))) := by
  have e1 : ((k : Int) * ((S.length / 4 : Nat) : Int)) = ((k * (S.length / 4) : Nat) : Int) := by push_cast; rfl
  have e2 : (((k : Int) + 1) * ((S.length / 4 : Nat) : Int)) = (((k + 1) * (S.length / 4) : Nat) : Int) := by push_cast; rfl
  have e3 : (k + 1) * (S.length / 4) ≤ S.length := by
    have : (k + 1) * (S.length / 4) ≤ 2 * (S.length / 4) := Nat.mul_le_mul_right _ (by omega)
    omega
  have e4 : k * (S.length / 4) ≤ (k + 1) * (S.length / 4) := Nat.mul_le_mul_right _ (by omega)
  unfold Slt.slotB drainD
  rw [h.sz, e1, e2, if_pos (okS_of (h.chk (by omega)) (by omega) (by omega) (by omega)), Int.toNat_natCast, Int.toNat_natCast, h.secs]

theorem part_getD {S : List ByteArray} {a b i : Nat} (hi : i < b - a) (hb : b ≤ S.length) : (part S a b)[i]? = some (secAt S (a + i)) := by
  rw [List.getElem?_eq_getElem (by rw [part_length hb]; exact hi), part_get hi hb, secAt_eq]

theorem loadE_some {s : ByteArray} {B : List ByteArray} (h1 : errR s = 0) (h2 : kA s = 1) (h3 : nA s = 0) : loadE (s :: B) = errJ 1 (gA s) 0 (s :: B) := by
  unfold loadE
  dsimp only
  rw [if_pos h1, if_pos ⟨h2, h3⟩]

/-- A text that lies in a slot. -/
structure Lies (S : List ByteArray) (a st g : Nat) (t : ByteArray) : Prop where
  g1 : 1 ≤ g
  g2 : g ≤ 1099511627776
  s1 : 1 ≤ st
  s2 : st + cntN t.size ≤ 1099511627776
  sz : (t.size : Int) ≤ 16000
  sec : ∀ i, i < cntN t.size → secAt S (a + i) = sheetB (st + i) (bodyAt 1 g 0 (cntN t.size) (loadT t) i)

theorem body52 {g : Nat} {t : ByteArray} {i : Nat} (hi : i < cntN t.size) : (bodyAt 1 g 0 (cntN t.size) (loadT t) i).size = 52 := by
  unfold bodyAt
  exact body_size (part_len (loadT_size t) hi)

theorem Lies.drain {S : List ByteArray} {a b st g : Nat} {t : ByteArray} (h : Lies S a st g t) (hb : b ≤ S.length) (hc : a + cntN t.size ≤ b) :
    ∃ R, drainL (part S a b) = bodiesT 1 g 0 t ++ R := by
  have hs1 := h.s1; have hs2 := h.s2
  have e : (part S a b).take (cntN t.size) = (List.range (cntN t.size)).map fun i => sheetB (st + i) (bodyAt 1 g 0 (cntN t.size) (loadT t) i) := by
    apply List.ext_getElem?
    intro i
    rw [List.getElem?_take]
    by_cases hi : i < cntN t.size
    · rw [if_pos hi, part_getD (by omega) hb, h.sec i hi]
      simp [hi]
    · rw [if_neg hi]; simp [hi]
  rw [← List.take_append_drop (cntN t.size) (part S a b), e, drainL_app]
  · refine ⟨_, congrArg (· ++ _) ?_⟩
    unfold bodiesT
    rw [List.map_map]
    apply List.map_congr_left
    intro i hi
    have hi := List.mem_range.1 hi
    show (openR (sheetB (st + i) _)).2.1 = _
    rw [open_body (by omega) (by omega) (body52 hi)]
  · intro s hs
    obtain ⟨i, hi, rfl⟩ := List.mem_map.1 hs
    have hi := List.mem_range.1 hi
    unfold wholeB
    rw [open_body (by omega) (by omega) (body52 hi)]
    rfl

theorem loads_of {g : Nat} {t : ByteArray} (hg1 : 1 ≤ g) (hg2 : g ≤ 1099511627776) (ht : (t.size : Int) ≤ 16000) (R : List ByteArray) :
    loadE (bodiesT 1 g 0 t ++ R) = 0 ∧ loadG (bodiesT 1 g 0 t ++ R) = g ∧ loadT' (bodiesT 1 g 0 t ++ R) = t := by
  have hH : Head 1 g 0 := ⟨by omega, hg1, hg2, by omega⟩
  have hp := cnt_pos t
  have h0 : (bodiesT 1 g 0 t ++ R)[0]? = some (bodyAt 1 g 0 (cntN t.size) (loadT t) 0) := by
    rw [List.getElem?_append_left (by rw [bodiesT_len]; exact hp)]
    exact bodiesT_at 0 hp
  obtain ⟨j1, j2, -⟩ := join_back hH ht (begins_append (k := 1) (g := g) (n := 0) (t := t) R)
  have hd := part_len (loadT_size t) hp
  have e1 : errR (bodyAt 1 g 0 (cntN t.size) (loadT t) 0) = 0 := at_errR hH (loadT_size t) (cnt_lt ht) hp
  have e2 : kA (bodyAt 1 g 0 (cntN t.size) (loadT t) 0) = 1 := by unfold bodyAt; exact body_k (by omega)
  have e3 : nA (bodyAt 1 g 0 (cntN t.size) (loadT t) 0) = 0 := by unfold bodyAt; exact body_n (by omega)
  have e4 : gA (bodyAt 1 g 0 (cntN t.size) (loadT t) 0) = g := by unfold bodyAt; exact body_g (by omega)
  cases hB : bodiesT 1 g 0 t ++ R with
  | nil => rw [hB] at h0; simp at h0
  | cons s B =>
    rw [hB] at h0 j1 j2
    obtain rfl : s = bodyAt 1 g 0 (cntN t.size) (loadT t) 0 := by simpa using h0
    have eE : loadE (bodyAt 1 g 0 (cntN t.size) (loadT t) 0 :: B) = 0 := by rw [loadE_some e1 e2 e3, e4]; exact j1
    refine ⟨eE, ?_, ?_⟩
    · unfold loadG; rw [if_pos eE]; exact e4
    · unfold loadT'; rw [if_pos eE]; exact j2

theorem Lies.load {S : List ByteArray} (hG : Good S) {k : Nat} (hk : k < 2) {st g : Nat} {t : ByteArray} (h : Lies S (k * (S.length / 4)) st g t) (hc : cntN t.size ≤ S.length / 4) :
    loadDE S [] (-1) k = 0 ∧ loadDG S [] (-1) k = g ∧ loadDT S [] (-1) k = t := by
  have e3 : (k + 1) * (S.length / 4) ≤ S.length := by
    have : (k + 1) * (S.length / 4) ≤ 2 * (S.length / 4) := Nat.mul_le_mul_right _ (by omega)
    omega
  obtain ⟨R, hR⟩ := h.drain e3 (by rw [Nat.succ_mul]; omega)
  unfold loadDE loadDG loadDT
  rw [if_pos (hG.mayL hk), if_pos (hG.mayL hk), if_pos (hG.mayL hk), hG.slotB hk, hR]
  exact loads_of h.g1 h.g2 h.sz R

theorem load_bad {S : List ByteArray} (hG : Good S) {k : Nat} (hk : k < 2) (h : wholeB (secAt S (k * (S.length / 4))) = false) : loadDE S [] (-1) k = 6 ∧ loadDG S [] (-1) k = 0 ∧ loadDT S [] (-1) k = ⟨#[]⟩ := by
  have hl := hG.lo
  have e3 : (k + 1) * (S.length / 4) ≤ S.length := by
    have : (k + 1) * (S.length / 4) ≤ 2 * (S.length / 4) := Nat.mul_le_mul_right _ (by omega)
    omega
  have e : drainL (part S (k * (S.length / 4)) ((k + 1) * (S.length / 4))) = [] := drainL_no fun s hs => by
    rw [part_getD (by rw [Nat.succ_mul]; omega) e3] at hs
    rw [← Option.some.inj hs]
    exact h
  unfold loadDE loadDG loadDT
  rw [if_pos (hG.mayL hk), if_pos (hG.mayL hk), if_pos (hG.mayL hk), hG.slotB hk, e]
  exact ⟨rfl, rfl, rfl⟩

end Go.Proofs.YtpeckeiaonjaaaaGreatDoor.Slt

/- Plain facts on slots: what a save, and a crash behind it, leave. -/
namespace Go.Proofs.YtpeckeiaonjaaaaGreatDoor.Slt
open Go.RowKit Go.Proofs.YtpeckeiaonjaaaaGreatDoor.Dsk Go.Proofs.YtpeckeiaonjaaaaGreatDoor.Sht Go.Proofs.YtpeckeiaonjaaaaGreatDoor.Shf Go.Proofs.YtpeckeiaonjaaaaGreatDoor.Oct

theorem goAll_len (S : List ByteArray) (V : List Wr) (c : Nat → Nat) : (goAll S V c).length = S.length := by
  unfold goAll
  suffices H : ∀ (L : List (Wr × Nat)) (T : List ByteArray), (L.foldl (fun S p => goOne S p.1 (c p.2)) T).length = T.length from H _ _
  intro L
  induction L with
  | nil => intro T; rfl
  | cons x L ih => intro T; rw [List.foldl_cons, ih, goOne_length]

/-- What may be saved, and where. -/
structure May (S : List ByteArray) (k g : Nat) (t : ByteArray) : Prop where
  good : Good S
  k : k < 2
  g1 : 1 ≤ g
  g2 : g + cntN t.size ≤ 1099511627776
  sz : (t.size : Int) ≤ 16000
  fits : cntN t.size ≤ S.length / 4

theorem bodies_small {g : Nat} {t : ByteArray} : ∀ b ∈ bodiesT 1 g 0 t, b.size = 52 := by
  intro b hb
  obtain ⟨i, hi⟩ := List.mem_iff_getElem?.1 hb
  obtain ⟨h1, -⟩ := List.getElem?_eq_some_iff.1 hi
  rw [bodiesT_len] at h1
  rw [bodiesT_at i h1] at hi
  rw [← Option.some.inj hi]
  exact body52 h1
theorem bodies_getD {g : Nat} {t : ByteArray} {i : Nat} (hi : i < cntN t.size) : (bodiesT 1 g 0 t).getD i ⟨#[]⟩ = bodyAt 1 g 0 (cntN t.size) (loadT t) i := by
  simp only [List.getD, bodiesT_at i hi, Option.getD_some]

section
variable {S : List ByteArray} {k g : Nat} {t : ByteArray}

theorem May.bound (h : May S k g t) : k * (S.length / 4) + cntN t.size ≤ S.length := by
  have := h.fits
  have : (k + 1) * (S.length / 4) ≤ 2 * (S.length / 4) := Nat.mul_le_mul_right _ (by have := h.k; omega)
  rw [Nat.succ_mul] at this
  omega

/-- What Save leaves. -/
theorem save_form (h : May S k g t) (f : Int) (hf : -1 ≤ f) :
    ∃ j f', j ≤ cntN t.size ∧ -1 ≤ f' ∧ (f = -1 → f' = -1) ∧
      ((saveR S [] f k g g t = ⟨goAll S (wrs (bodiesT 1 g 0 t) g (k * (S.length / 4))) (fun _ => 64), [], f', ((k * (S.length / 4) : Nat) : Int) + cntN t.size, (g : Int) + cntN t.size, 0⟩) ∨
       (f ≠ -1 ∧ chk S ((wrs (bodiesT 1 g 0 t) g (k * (S.length / 4))).take j) f' = 0 ∧ saveR S [] f k g g t = ⟨S, (wrs (bodiesT 1 g 0 t) g (k * (S.length / 4))).take j, f', ((k * (S.length / 4) : Nat) : Int), g, 21⟩)) := by
  have hg1 := h.g1; have hg2 := h.g2; have hlo := h.good.lo; have hhi := h.good.hi; have hfit := h.fits
  have hH : Head 1 g 0 := ⟨by omega, hg1, by omega, by omega⟩
  obtain ⟨hE, hL⟩ := layS_eq hH h.sz
  have hbound := h.bound
  have hcp := cnt_pos t
  have e1 : ((k : Int) * ((S.length / 4 : Nat) : Int)) = ((k * (S.length / 4) : Nat) : Int) := by push_cast; rfl
  have e2 : (((k : Int) + 1) * ((S.length / 4 : Nat) : Int)) = (((k + 1) * (S.length / 4) : Nat) : Int) := by push_cast; rfl
  have e3 : (k + 1) * (S.length / 4) ≤ S.length := by
    have := h.k
    have : (k + 1) * (S.length / 4) ≤ 2 * (S.length / 4) := Nat.mul_le_mul_right _ (by omega)
    omega
  have e4 : (k + 1) * (S.length / 4) = k * (S.length / 4) + S.length / 4 := Nat.succ_mul _ _
  have hlen : (layS 1 (g : Int) (0 : Int) t).length = cntN t.size := by
    have : layS 1 (g : Int) (0 : Int) t = bodiesT 1 g 0 t := hL
    rw [this, bodiesT_len]
  have hlay : layS 1 (g : Int) (0 : Int) t = bodiesT 1 g 0 t := hL
  have hE' : errL (g : Int) (0 : Int) t = 0 := hE
  have hpour : pourE S [] f ((k * (S.length / 4) : Nat) : Int) (((k + 1) * (S.length / 4) : Nat) : Int) 1 g 0 g t = 0 := by
    unfold pourE
    rw [if_pos (okS_of (h.good.chk hf) (by omega) (by omega) (by omega)), if_pos hE', hlen, if_pos (by omega), if_pos (by omega)]
  obtain ⟨j, f', e, hj, hl, hc, he, hm⟩ := lays_form S (bodiesT 1 g 0 t) g (k * (S.length / 4)) [] f (h.good.chk hf) (by rw [bodiesT_len]; omega) (by rw [bodiesT_len]; simp; omega) hg1 (by rw [bodiesT_len]; omega) (fun b hb => by rw [bodies_small b hb]; omega)
  rw [bodiesT_len] at hj he
  rw [List.nil_append] at hl hc
  rw [wrs_take] at hl hc
  have hf' : -1 ≤ f' := (chk_ok hc).1.2.2
  unfold saveR
  rw [if_pos (isS_nat h.k), h.good.sz, e1, e2]
  unfold pourR
  rw [if_pos hpour, hlay, hl, bodiesT_len]
  rcases he with ⟨rfl, rfl⟩ | rfl
  · have hwt : (wrs (bodiesT 1 g 0 t) g (k * (S.length / 4))).take (cntN t.size) = wrs (bodiesT 1 g 0 t) g (k * (S.length / 4)) := List.take_of_length_le (by rw [wrs_length, bodiesT_len]; omega)
    rw [hwt] at hc ⊢
    by_cases h0 : f' = 0
    · have hfl : flushR S (wrs (bodiesT 1 g 0 t) g (k * (S.length / 4)), f', 0) = (S, wrs (bodiesT 1 g 0 t) g (k * (S.length / 4)), f', 21) := by
        unfold flushR flushE; dsimp only; rw [if_pos rfl, if_pos hc, if_pos h0]; rfl
      rw [hfl]
      dsimp only
      rw [if_neg (by decide)]
      refine ⟨cntN t.size, f', Nat.le_refl _, hf', fun x => (hm x).2, .inr ⟨fun x => ?_, by rw [hwt]; exact hc, by rw [hwt]⟩⟩
      have := (hm x).2
      omega
    · have hfl : flushR S (wrs (bodiesT 1 g 0 t) g (k * (S.length / 4)), f', 0) = (goAll S (wrs (bodiesT 1 g 0 t) g (k * (S.length / 4))) (fun _ => 64), [], burnt f', 0) := by
        unfold flushR flushE; dsimp only; rw [if_pos rfl, if_pos hc, if_neg h0]; rfl
      rw [hfl]
      dsimp only
      rw [if_pos rfl]
      exact ⟨cntN t.size, burnt f', Nat.le_refl _, burnt_ge hf', fun x => by rw [(hm x).2]; rfl, .inl rfl⟩
  · have hfl : flushR S ((wrs (bodiesT 1 g 0 t) g (k * (S.length / 4))).take j, f', 21) = (S, (wrs (bodiesT 1 g 0 t) g (k * (S.length / 4))).take j, f', 21) := rfl
    rw [hfl]
    dsimp only
    rw [if_neg (by decide)]
    exact ⟨j, f', hj, hf', fun x => (hm x).2, .inr ⟨fun x => by have := (hm x).1; omega, hc, rfl⟩⟩

theorem goAll_good (h : May S k g t) (j : Nat) (c : Nat → Nat) (hc : ∀ i, c i ≤ 64) : Good (goAll S ((wrs (bodiesT 1 g 0 t) g (k * (S.length / 4))).take j) c) := by
  have hb := h.bound
  have hw : (wrs (bodiesT 1 g 0 t) g (k * (S.length / 4))).all (wrOk S.length) = true := by
    rw [List.all_eq_true]
    intro x hx
    obtain ⟨i, hi, rfl⟩ := List.getElem_of_mem hx
    rw [wrs_length, bodiesT_len] at hi
    rw [wrs_get _ _ _ _ (by rw [bodiesT_len]; exact hi), wrOk_iff]
    refine ⟨by simp only; omega, by simp only; omega, sheetB_size _ _ ?_⟩
    rw [bodies_small _ (List.getElem_mem _)]; omega
  obtain ⟨h1, h2⟩ := goAll_ok h.good.ok hw hc j
  exact ⟨by rw [h2]; exact h.good.lo, by rw [h2]; exact h.good.hi, h1⟩

/-- What each sector has, behind a save that was broken off. -/
theorem sec_saved (h : May S k g t) (c : Nat → Nat) (j : Nat) (hj : j ≤ cntN t.size) (q : Nat) (hq : q < S.length) :
    secAt (goAll S ((wrs (bodiesT 1 g 0 t) g (k * (S.length / 4))).take j) c) q =
      if k * (S.length / 4) ≤ q ∧ q < k * (S.length / 4) + j then torn (sheetB (g + (q - k * (S.length / 4))) (bodyAt 1 g 0 (cntN t.size) (loadT t) (q - k * (S.length / 4)))) (secAt S q) (c (q - k * (S.length / 4))) else secAt S q := by
  have hb := h.bound
  rw [sec_after h.good.ok (by rw [bodiesT_len]; omega) c q hq j (by rw [bodiesT_len]; exact hj)]
  by_cases hh : k * (S.length / 4) ≤ q ∧ q < k * (S.length / 4) + j
  · rw [dif_pos hh, if_pos hh, bodies_getD (by omega)]
  · rw [dif_neg hh, if_neg hh]
end

theorem torn_64 {T O : ByteArray} (hT : T.size = 64) (hO : O.size = 64) : torn T O 64 = T := by
  apply list_ext
  rw [torn_list, List.take_of_length_le (by rw [size_list]; omega), List.drop_of_length_le (by rw [size_list]; omega), List.append_nil]

end Go.Proofs.YtpeckeiaonjaaaaGreatDoor.Slt

/- Plain facts on slots: saves of one slot that the power breaks off, again and again. -/
namespace Go.Proofs.YtpeckeiaonjaaaaGreatDoor.Slt
open Go.RowKit Go.Proofs.YtpeckeiaonjaaaaGreatDoor.Dsk Go.Proofs.YtpeckeiaonjaaaaGreatDoor.Sht Go.Proofs.YtpeckeiaonjaaaaGreatDoor.Shf Go.Proofs.YtpeckeiaonjaaaaGreatDoor.Oct

abbrev Sn := Int × ByteArray

/-- The texts whose sheets stand in the slot. -/
structure Used (S : List ByteArray) (M : List Sn) (U : List (Nat × ByteArray)) : Prop where
  mem : ∀ u ∈ U, ((u.1 : Int), u.2) ∈ M
  lo : ∀ u ∈ U, 2 ≤ u.1
  hi : ∀ u ∈ U, (u.1 : Int) ≤ topL S
  sz : ∀ u ∈ U, u.2.size ≤ 140
  one : ∀ u ∈ U, ∀ v ∈ U, u.1 = v.1 → u = v
  whole : ∀ i, i < 4 → wholeB (secAt S (4 + i)) = true → ∃ u ∈ U, i < cntN u.2.size ∧ secAt S (4 + i) = sheetB (u.1 + i) (bodyAt 1 u.1 0 (cntN u.2.size) (loadT u.2) i)

/-- What holds behind each try. -/
structure CInv (S1 S : List ByteArray) (M : List Sn) (b : Nat) : Prop where
  good : Good S
  len : S.length = 16
  sec : ∀ q, q < 16 → ∃ x y, Sec (secAt S q) x y ∧ x ≤ b
  other : ∀ q, q < 16 → ¬ (4 ≤ q ∧ q < 8) → secAt S q = secAt S1 q
  used : ∃ U, Used S M U

theorem cnt4 {t : ByteArray} (h : t.size ≤ 140) : cntN t.size ≤ 4 := by unfold cntN; omega
theorem CInv.top_le {S1 S : List ByteArray} {M : List Sn} {b : Nat} (h : CInv S1 S M b) : topL S ≤ b := topL_le (by omega) fun s hs => by
  obtain ⟨q, hq, rfl⟩ := h.good.mem hs
  obtain ⟨x, y, hx, hb⟩ := h.sec q (by have := h.len; omega)
  rw [hx.top]; omega

theorem CInv.may {S1 S : List ByteArray} {M : List Sn} {b : Nat} (h : CInv S1 S M b) {g : Nat} (hg : (g : Int) = topL S + 1) (hb : b + 4 < 256) {t : ByteArray} (ht : t.size ≤ 140) : May S 1 g t := by
  have h1 := h.top_le
  have h2 := topL_nonneg S
  have h3 := cnt4 ht
  have h4 := h.len
  exact ⟨h.good, by omega, by omega, by omega, by omega, by omega⟩

theorem cinv_step {S1 S : List ByteArray} {M : List Sn} {b : Nat} (h : CInv S1 S M b) (hb : b + 4 < 256) {g : Nat} (hg : (g : Int) = topL S + 1) (hg2 : 2 ≤ g) {t : ByteArray} (ht : t.size ≤ 140) (j : Nat) (hj : j ≤ cntN t.size) (c : Nat → Nat) (hc : ∀ i, c i ≤ 64) :
    CInv S1 (goAll S ((wrs (bodiesT 1 g 0 t) g (1 * (S.length / 4))).take j) c) (M ++ [((g : Int), t)]) (b + 4) := by
  have hmay := h.may hg hb ht
  have hgood := goAll_good hmay j c hc
  have hlen := h.len
  have hlen' := goAll_len S ((wrs (bodiesT 1 g 0 t) g (1 * (S.length / 4))).take j) c
  have h4 := cnt4 ht
  have htl := h.top_le
  have hsec := fun q (hq : q < S.length) => sec_saved hmay c j hj q hq
  have e4 : 1 * (S.length / 4) = 4 := by omega
  generalize hS' : goAll S ((wrs (bodiesT 1 g 0 t) g (1 * (S.length / 4))).take j) c = S' at *
  rw [e4] at hsec
  -- each sector: as it was, or the new sheet, or neither
  have hcase : ∀ q, q < 16 → ∃ x y, Sec (secAt S q) x y ∧ (x : Int) ≤ topL S ∧ x ≤ b ∧
      (secAt S' q = secAt S q ∨ (4 ≤ q ∧ q < 4 + j ∧ (secAt S' q = sheetB (g + (q - 4)) (bodyAt 1 g 0 (cntN t.size) (loadT t) (q - 4)) ∨ Sec (secAt S' q) (g + (q - 4)) y))) := by
    intro q hq
    obtain ⟨x, y, hx, hxb⟩ := h.sec q hq
    have hxt : (x : Int) ≤ topL S := by
      have := topL_ge (h.good.sec_mem (show q < S.length by omega))
      rwa [hx.top] at this
    refine ⟨x, y, hx, hxt, hxb, ?_⟩
    rw [hsec q (by omega)]
    by_cases hh : 4 ≤ q ∧ q < 4 + j
    · rw [if_pos hh]
      rcases (torn_sec hx (show x < g + (q - 4) by omega) (show g + (q - 4) < 256 by omega) (show (bodyAt 1 g 0 (cntN t.size) (loadT t) (q - 4)).size ≤ 52 by rw [body52 (by omega)]; omega) (c (q - 4)) (hc _)).1 with h1 | h1 | h1
      · exact .inl h1
      · exact .inr ⟨hh.1, hh.2, .inl h1⟩
      · exact .inr ⟨hh.1, hh.2, .inr h1⟩
    · rw [if_neg hh]; exact .inl rfl
  have hsheet : ∀ q, 4 ≤ q → q < 4 + j → Sec (sheetB (g + (q - 4)) (bodyAt 1 g 0 (cntN t.size) (loadT t) (q - 4))) (g + (q - 4)) (g + (q - 4)) := fun q h1 h2 => Sec.sheet (by omega) (by rw [body52 (by omega)]; omega)
  have htop : topL S ≤ topL S' := topL_le (topL_nonneg _) fun s hs => by
    obtain ⟨q, hq, rfl⟩ := h.good.mem hs
    obtain ⟨x, y, hx, hxt, hxb, hh⟩ := hcase q (by omega)
    refine Int.le_trans ?_ (topL_ge (hgood.sec_mem (q := q) (by omega)))
    rcases hh with e | ⟨h1, h2, e | e⟩
    · rw [e]; exact Int.le_refl _
    · rw [e, hx.top, (hsheet q h1 h2).top]; omega
    · rw [hx.top, e.top]; omega
  obtain ⟨U, hU⟩ := h.used
  refine ⟨hgood, by omega, ?_, ?_, ?_⟩
  · intro q hq
    obtain ⟨x, y, hx, hxt, hxb, hh⟩ := hcase q hq
    rcases hh with e | ⟨h1, h2, e | e⟩
    · exact ⟨x, y, by rw [e]; exact hx, by omega⟩
    · exact ⟨_, _, by rw [e]; exact hsheet q h1 h2, by omega⟩
    · exact ⟨_, _, e, by omega⟩
  · intro q hq hn
    obtain ⟨x, y, hx, hxt, hxb, hh⟩ := hcase q hq
    rcases hh with e | ⟨h1, h2, -⟩
    · rw [e]; exact h.other q hq hn
    · exact absurd ⟨h1, by omega⟩ hn
  · -- a whole sheet is an older one, or one of the new text
    have hw : ∀ i, i < 4 → wholeB (secAt S' (4 + i)) = true → (∃ u ∈ U, i < cntN u.2.size ∧ secAt S' (4 + i) = sheetB (u.1 + i) (bodyAt 1 u.1 0 (cntN u.2.size) (loadT u.2) i)) ∨
        ((g : Int) ≤ topL S' ∧ i < cntN t.size ∧ secAt S' (4 + i) = sheetB (g + i) (bodyAt 1 g 0 (cntN t.size) (loadT t) i)) := by
      intro i hi hwh
      obtain ⟨x, y, hx, hxt, hxb, hh⟩ := hcase (4 + i) (by omega)
      have hy := hx.ba
      rcases hh with e | ⟨h1, h2, e | e⟩
      · rw [e] at hwh ⊢
        exact .inl (hU.whole i hi hwh)
      · rw [show 4 + i - 4 = i by omega] at e
        have ht := (hsheet (4 + i) h1 h2).top
        rw [show 4 + i - 4 = i by omega, ← e] at ht
        have := topL_ge (hgood.sec_mem (q := 4 + i) (by omega))
        exact .inr ⟨by omega, by omega, e⟩
      · have := e.whole.1 hwh
        omega
    by_cases hgt : (g : Int) ≤ topL S'
    · refine ⟨U ++ [(g, t)], ?_, ?_, ?_, ?_, ?_, ?_⟩
      · intro u hu
        rcases List.mem_append.1 hu with hu | hu
        · exact List.mem_append.2 (.inl (hU.mem u hu))
        · rw [List.mem_singleton.1 hu]; simp
      · intro u hu
        rcases List.mem_append.1 hu with hu | hu
        · exact hU.lo u hu
        · rw [List.mem_singleton.1 hu]; exact hg2
      · intro u hu
        rcases List.mem_append.1 hu with hu | hu
        · have := hU.hi u hu; omega
        · rw [List.mem_singleton.1 hu]; exact hgt
      · intro u hu
        rcases List.mem_append.1 hu with hu | hu
        · exact hU.sz u hu
        · rw [List.mem_singleton.1 hu]; exact ht
      · intro u hu v hv e
        rcases List.mem_append.1 hu with hu | hu <;> rcases List.mem_append.1 hv with hv | hv
        · exact hU.one u hu v hv e
        · rw [List.mem_singleton.1 hv] at e
          have := hU.hi u hu
          simp only at e
          omega
        · rw [List.mem_singleton.1 hu] at e
          have := hU.hi v hv
          simp only at e
          omega
        · rw [List.mem_singleton.1 hu, List.mem_singleton.1 hv]
      · intro i hi hwh
        rcases hw i hi hwh with ⟨u, hu, h1, h2⟩ | ⟨-, h1, h2⟩
        · exact ⟨u, List.mem_append.2 (.inl hu), h1, h2⟩
        · exact ⟨(g, t), by simp, h1, h2⟩
    · refine ⟨U, fun u hu => List.mem_append.2 (.inl (hU.mem u hu)), hU.lo, fun u hu => by have := hU.hi u hu; omega, hU.sz, hU.one, ?_⟩
      intro i hi hwh
      rcases hw i hi hwh with ⟨u, hu, h1, h2⟩ | ⟨h0, -, -⟩
      · exact ⟨u, hu, h1, h2⟩
      · exact absurd h0 hgt

end Go.Proofs.YtpeckeiaonjaaaaGreatDoor.Slt

/- Plain facts on slots: what may be left behind each try. -/
namespace Go.Proofs.YtpeckeiaonjaaaaGreatDoor.Slt
open Go.RowKit Go.Proofs.YtpeckeiaonjaaaaGreatDoor.Dsk Go.Proofs.YtpeckeiaonjaaaaGreatDoor.Sht Go.Proofs.YtpeckeiaonjaaaaGreatDoor.Shf Go.Proofs.YtpeckeiaonjaaaaGreatDoor.Oct

section
variable {S1 S : List ByteArray} {M : List Sn} {b : Nat}

theorem CInv.bodies (h : CInv S1 S M b) : slotB S [] (-1) 1 = drainL (part S 4 8) := by
  have := h.good.slotB (k := 1) (by omega)
  have e := h.len
  rw [show 1 * (S.length / 4) = 4 by omega, show (1 + 1) * (S.length / 4) = 8 by omega] at this
  exact this

theorem Used.body {U : List (Nat × ByteArray)} (hl : S.length = 16) (hb : topL S ≤ 300) (hU : Used S M U) {j : Nat} {x : ByteArray} (hx : (drainL (part S 4 8))[j]? = some x) :
    ∃ u ∈ U, j < cntN u.2.size ∧ x = bodyAt 1 u.1 0 (cntN u.2.size) (loadT u.2) j ∧ gA x = u.1 ∧ oA x = cntN u.2.size := by
  obtain ⟨hj, hw, rfl⟩ := drainL_get hx
  rw [part_length (by omega)] at hj
  have e : (part S 4 8)[j] = secAt S (4 + j) := by
    rw [part_get hj (by omega), secAt_eq]
  rw [e] at hw ⊢
  obtain ⟨u, hu, h1, h2⟩ := hU.whole j (by omega) hw
  have hlo := hU.lo u hu
  have hhi := hU.hi u hu
  have hsz := hU.sz u hu
  have h4 := cnt4 hsz
  have eb : (openR (secAt S (4 + j))).2.1 = bodyAt 1 u.1 0 (cntN u.2.size) (loadT u.2) j := by rw [h2, open_body (by omega) (by omega) (body52 h1)]
  refine ⟨u, hu, h1, eb, ?_, ?_⟩
  · rw [eb]; unfold bodyAt; exact body_g (by omega)
  · rw [eb]; exact at_oA (by omega) j

/-- What is loaded is one of those that were to be saved. -/
theorem CInv.known (h : CInv S1 S M b) (hb : b ≤ 256) (hE : loadDE S [] (-1) 1 = 0) : (loadDG S [] (-1) 1, loadDT S [] (-1) 1) ∈ M ∧ 2 ≤ loadDG S [] (-1) 1 := by
  have htl := h.top_le
  obtain ⟨U, hU⟩ := h.used
  have hm : mayL S [] (-1) (1 : Int) = true := h.good.mayL (k := 1) (by omega)
  unfold loadDE at hE
  unfold loadDG loadDT
  rw [if_pos hm, h.bodies] at hE ⊢
  rw [if_pos hm]
  have hBd := fun {j x} => hU.body (j := j) (x := x) h.len (by omega)
  generalize drainL (part S 4 8) = B at *
  cases B with
  | nil => simp [loadE] at hE
  | cons s B =>
    have hE0 := hE
    obtain ⟨u, hu, hc0, hs0, hg0, ho0⟩ := hBd (j := 0) (x := s) rfl
    have hsz := hU.sz u hu
    have hlo := hU.lo u hu
    have hhi := hU.hi u hu
    have ht : (u.2.size : Int) ≤ 16000 := by omega
    have hH : Head 1 u.1 0 := ⟨by omega, by omega, by omega, by omega⟩
    unfold loadE at hE
    dsimp only at hE
    have h1 : errR s = 0 := by
      by_cases h1 : errR s = 0
      · exact h1
      · rw [if_neg h1] at hE; exact hE
    rw [if_pos h1] at hE
    have h2 : kA s = 1 ∧ nA s = 0 := by
      by_cases h2 : kA s = 1 ∧ nA s = 0
      · exact h2
      · rw [if_neg h2] at hE; omega
    rw [if_pos h2, hg0] at hE
    have hS : errS 1 (u.1 : Int) 0 (s :: B) = 0 := by
      unfold errJ at hE
      by_cases h3 : errS 1 (u.1 : Int) 0 (s :: B) = 0
      · exact h3
      · rw [if_neg h3] at hE; exact hE
    obtain ⟨-, -, hall⟩ := errS_zero hS
    have hof : ofS (s :: B) = cntN u.2.size := ho0
    have hbeg : Begins 1 u.1 0 (cntN u.2.size) (loadT u.2) (s :: B) (cntN u.2.size) := ⟨fun j hj => by
      obtain ⟨x, hx, he, -⟩ := errG_zero (hall j (by rw [hof]; omega))
      obtain ⟨v, hv, -, hxb, hgx, -⟩ := hBd hx
      have hgu : gA x = u.1 := (errB_zero he).2.2.1
      have : v = u := hU.one v hv u hu (by rw [hgx] at hgu; exact_mod_cast hgu)
      rw [hx, hxb, this]⟩
    obtain ⟨-, j2, -⟩ := join_back hH ht hbeg
    have e1 : loadG (s :: B) = u.1 := by unfold loadG; rw [if_pos hE0]; exact hg0
    have e2 : loadT' (s :: B) = u.2 := by unfold loadT'; rw [if_pos hE0]; exact j2
    rw [e1, e2]
    exact ⟨hU.mem u hu, by omega⟩

/-- The slot that is not saved any more. -/
structure First (S1 : List ByteArray) (first : ByteArray) : Prop where
  sz : first.size ≤ 140
  lies : Lies S1 0 1 1 first
theorem CInv.lies {first : ByteArray} (h : CInv S1 S M b) (hF : First S1 first) : Lies S 0 1 1 first := by
  have h4 := cnt4 hF.sz
  have hl := hF.lies
  refine ⟨hl.g1, hl.g2, hl.s1, hl.s2, hl.sz, fun i hi => ?_⟩
  rw [h.other (0 + i) (by omega) (by omega)]
  exact hl.sec i hi
theorem CInv.zero {first : ByteArray} (h : CInv S1 S M b) (hF : First S1 first) : loadDE S [] (-1) 0 = 0 ∧ loadDG S [] (-1) 0 = 1 ∧ loadDT S [] (-1) 0 = first := by
  have h4 := cnt4 hF.sz
  have hl := h.len
  have := (show Lies S (0 * (S.length / 4)) 1 1 first by rw [Nat.zero_mul]; exact h.lies hF).load h.good (k := 0) (by omega) (by omega)
  exact this
theorem CInv.top_ge {first : ByteArray} (h : CInv S1 S M b) (hF : First S1 first) : 1 ≤ topL S := by
  have hl := h.len
  have hp := cnt_pos first
  have e := (h.lies hF).sec 0 hp
  have hs := Sec.sheet (t := 1 + 0) (bd := bodyAt 1 1 0 (cntN first.size) (loadT first) 0) (by omega) (by rw [body52 hp]; omega)
  rw [← e] at hs
  have := topL_ge (h.good.sec_mem (q := 0 + 0) (by omega))
  rw [hs.top] at this
  omega

/-- The newer slot, behind each try. -/
theorem CInv.best {first : ByteArray} (h : CInv S1 S M b) (hF : First S1 first) (hb : b ≤ 256) :
    (loadDE S [] (-1) 1 ≠ 0 ∧ bestR S [] (-1) = ⟨0, 1, first, 0⟩) ∨ (loadDE S [] (-1) 1 = 0 ∧ (loadDG S [] (-1) 1, loadDT S [] (-1) 1) ∈ M ∧ bestR S [] (-1) = ⟨1, loadDG S [] (-1) 1, loadDT S [] (-1) 1, 0⟩) := by
  obtain ⟨z1, z2, z3⟩ := h.zero hF
  have e1 : bst S [] (-1) 1 = ⟨0, 1, first, 0⟩ := by
    show bstep S [] (-1) ⟨0, 0, ⟨#[]⟩, 6⟩ ((0 : Nat) : Int) = _
    unfold bstep
    rw [show ((0 : Nat) : Int) = 0 from rfl, z1, z2, z3, if_pos ⟨rfl, by decide⟩]
  have e2 : bestR S [] (-1) = bstep S [] (-1) ⟨0, 1, first, 0⟩ 1 := by
    unfold bestR
    rw [if_pos (h.good.chk (by omega))]
    show bstep S [] (-1) (bst S [] (-1) 1) ((1 : Nat) : Int) = _
    rw [e1]
    rfl
  rw [e2]
  unfold bstep
  by_cases hE : loadDE S [] (-1) 1 = 0
  · obtain ⟨k1, k2⟩ := h.known hb hE
    right
    refine ⟨hE, k1, ?_⟩
    rw [if_pos ⟨hE, by show (1 : Int) < _; omega⟩]
  · left
    exact ⟨hE, if_neg fun x => hE x.1⟩

/-- One try: a save that the power may break off, and a crash. -/
theorem CInv.try_ {first : ByteArray} (h : CInv S1 S M b) (hF : First S1 first) (hb : b + 4 < 256) {t : ByteArray} (ht : t.size ≤ 140) (f : Int) (hf : -1 ≤ f) (zs : List Int) :
    ∃ S2 W2 f2 p2 st2 e2, saveR S [] f 1 (topL S + 1) (topL S + 1) t = ⟨S2, W2, f2, p2, st2, e2⟩ ∧ (e2 = 0 ∨ e2 = 21) ∧ chk S2 W2 f2 = 0 ∧ (∀ x ∈ W2, x.1 ≠ 0) ∧
      CInv S1 (goAll S2 W2 (cutAt zs)) (M ++ [(topL S + 1, t)]) (b + 4) ∧ (e2 = 0 → loadDE (goAll S2 W2 (cutAt zs)) [] (-1) 1 = 0 ∧ loadDG (goAll S2 W2 (cutAt zs)) [] (-1) 1 = topL S + 1 ∧ loadDT (goAll S2 W2 (cutAt zs)) [] (-1) 1 = t) := by
  have h1 := h.top_ge hF
  have h2 := h.top_le
  have h4 := cnt4 ht
  have hl := h.len
  obtain ⟨g, hg⟩ := Int.eq_ofNat_of_zero_le (show 0 ≤ topL S + 1 by omega)
  have hmay := h.may (g := g) hg.symm hb ht
  have hstep := fun j hj c hc => cinv_step h hb hg.symm (by omega) ht j hj c hc
  rw [hg]
  obtain ⟨j, f', hj, hf', -, hx | ⟨-, hc, hx⟩⟩ := save_form hmay f hf
  · have e64 : goAll S (wrs (bodiesT 1 g 0 t) g (1 * (S.length / 4))) (fun _ => 64) = goAll S ((wrs (bodiesT 1 g 0 t) g (1 * (S.length / 4))).take (cntN t.size)) (fun _ => 64) := by
      rw [List.take_of_length_le (by rw [wrs_length, bodiesT_len]; omega)]
    rw [e64] at hx
    refine ⟨_, _, _, _, _, _, hx, .inl rfl, (goAll_good hmay _ _ fun _ => Nat.le_refl _).chk hf', (by simp), (by rw [goAll_nil]; exact hstep _ (Nat.le_refl _) _ fun _ => Nat.le_refl _), fun _ => ?_⟩
    rw [goAll_nil]
    have hG := goAll_good hmay (cntN t.size) (fun _ => 64) fun _ => Nat.le_refl _
    have hlen := goAll_len S ((wrs (bodiesT 1 g 0 t) g (1 * (S.length / 4))).take (cntN t.size)) (fun _ => 64)
    have hL : Lies (goAll S ((wrs (bodiesT 1 g 0 t) g (1 * (S.length / 4))).take (cntN t.size)) (fun _ => 64)) (1 * ((goAll S ((wrs (bodiesT 1 g 0 t) g (1 * (S.length / 4))).take (cntN t.size)) (fun _ => 64)).length / 4)) g g t := by
      refine ⟨by omega, by omega, by omega, by omega, by omega, fun i hi => ?_⟩
      rw [hlen, sec_saved hmay _ _ (Nat.le_refl _) _ (by omega), if_pos (by omega), show 1 * (S.length / 4) + i - 1 * (S.length / 4) = i by omega]
      exact torn_64 (sheetB_size _ _ (by rw [body52 hi]; omega)) ((secOk_iff S).1 h.good.ok _ (h.good.sec_mem (by omega)))
    exact hL.load hG (k := 1) (by omega) (by omega)
  · refine ⟨_, _, _, _, _, _, hx, .inr rfl, hc, fun x hm => ?_, hstep j hj _ fun i => cutAt_le zs i, fun x => by omega⟩
    obtain ⟨i, hi, rfl⟩ := List.getElem_of_mem (List.mem_of_mem_take hm)
    rw [wrs_length] at hi
    rw [wrs_get _ _ _ _ hi]
    simp only
    omega
end

/-- The first save, on a new disk. -/
theorem first_ {first : ByteArray} (h : first.size ≤ 140) :
    ∃ S1 p, saveR (newS 16) [] (-1) 0 1 1 first = ⟨S1, [], -1, p, 1 + cntN first.size, 0⟩ ∧ CInv S1 S1 [] 4 ∧ First S1 first := by
  have hn : Good (newS 16) := ⟨by decide, by decide, by decide +kernel⟩
  have hl : (newS 16).length = 16 := by decide
  have h4 := cnt4 h
  have hmay : May (newS 16) 0 1 first := ⟨hn, by omega, by omega, by omega, by omega, by omega⟩
  have hz : ∀ q, q < 16 → secAt (newS 16) q = fillS 0 := fun q hq => by
    rw [secAt_eq (by omega)]; simp only [newS, List.getElem_replicate]
  obtain ⟨j, f', hj, hf', hf, hx | ⟨hne, -, -⟩⟩ := save_form hmay (-1) (by omega)
  · have e64 : goAll (newS 16) (wrs (bodiesT 1 1 0 first) 1 (0 * ((newS 16).length / 4))) (fun _ => 64) = goAll (newS 16) ((wrs (bodiesT 1 1 0 first) 1 (0 * ((newS 16).length / 4))).take (cntN first.size)) (fun _ => 64) := by
      rw [List.take_of_length_le (by rw [wrs_length, bodiesT_len]; omega)]
    rw [e64, hf rfl] at hx
    have hG := goAll_good hmay (cntN first.size) (fun _ => 64) fun _ => Nat.le_refl _
    have hlen := goAll_len (newS 16) ((wrs (bodiesT 1 1 0 first) 1 (0 * ((newS 16).length / 4))).take (cntN first.size)) (fun _ => 64)
    have hsec := fun q (hq : q < (newS 16).length) => sec_saved hmay (fun _ => 64) (cntN first.size) (Nat.le_refl _) q hq
    refine ⟨_, _, hx, ?_, h, ?_⟩
    · generalize goAll (newS 16) ((wrs (bodiesT 1 1 0 first) 1 (0 * ((newS 16).length / 4))).take (cntN first.size)) (fun _ => 64) = S1 at *
      have hS : ∀ q, q < 16 → (q < 4 ∧ ∃ x, Sec (secAt S1 q) x x ∧ x ≤ 4) ∨ secAt S1 q = fillS 0 := by
        intro q hq
        rw [hsec q (by omega)]
        by_cases hh : 0 * ((newS 16).length / 4) ≤ q ∧ q < 0 * ((newS 16).length / 4) + cntN first.size
        · rw [if_pos hh, torn_64 (sheetB_size _ _ (by rw [body52 (by omega)]; omega)) (by rw [hz q hq]; exact fillS_size 0)]
          exact .inl ⟨by omega, _, Sec.sheet (by omega) (by rw [body52 (by omega)]; omega), by omega⟩
        · rw [if_neg hh, hz q hq]; exact .inr rfl
      refine ⟨hG, by omega, ?_, fun _ _ _ => rfl, [], by simp, by simp, by simp, by simp, by simp, ?_⟩
      · intro q hq
        rcases hS q hq with ⟨-, x, h1, h2⟩ | e
        · exact ⟨x, x, h1, h2⟩
        · exact ⟨0, 0, by rw [e]; exact Sec.zero, by omega⟩
      · intro i hi hw
        rcases hS (4 + i) (by omega) with ⟨h1, -⟩ | e
        · omega
        · rw [e] at hw
          have := Sec.zero.whole.1 hw
          omega
    · refine ⟨by omega, by omega, by omega, by omega, by omega, fun i hi => ?_⟩
      rw [hsec (0 + i) (by omega), if_pos (by omega), show 0 + i - 0 * ((newS 16).length / 4) = i by omega]
      exact torn_64 (sheetB_size _ _ (by rw [body52 hi]; omega)) (by rw [hz (0 + i) (by omega)]; exact fillS_size 0)
  · exact absurd rfl hne

end Go.Proofs.YtpeckeiaonjaaaaGreatDoor.Slt
