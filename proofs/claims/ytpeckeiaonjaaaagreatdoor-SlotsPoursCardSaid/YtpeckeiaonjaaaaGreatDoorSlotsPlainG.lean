/- Plain facts on slots: a save that nothing breaks off; and what a small disk shows. -/
import Derived.Test.YtpeckeiaonjaaaaGreatDoorSltP
namespace Go.Proofs.YtpeckeiaonjaaaaGreatDoor.Slt
open Go.RowKit Go.Proofs.YtpeckeiaonjaaaaGreatDoor.Dsk Go.Proofs.YtpeckeiaonjaaaaGreatDoor.Sht Go.Proofs.YtpeckeiaonjaaaaGreatDoor.Shf Go.Proofs.YtpeckeiaonjaaaaGreatDoor.Oct

/-- What a save that nothing breaks off makes of the sectors. -/
structure Saved (S : List ByteArray) (k g : Nat) (t : ByteArray) (S' : List ByteArray) : Prop where
  good : Good S'
  len : S'.length = S.length
  new_ : ∀ i, i < cntN t.size → secAt S' (k * (S.length / 4) + i) = sheetB (g + i) (bodyAt 1 g 0 (cntN t.size) (loadT t) i)
  old : ∀ q, q < S.length → ¬ (k * (S.length / 4) ≤ q ∧ q < k * (S.length / 4) + cntN t.size) → secAt S' q = secAt S q

theorem save_plain {S : List ByteArray} {k g : Nat} {t : ByteArray} (h : May S k g t) :
    ∃ S' p, saveR S [] (-1) k g g t = ⟨S', [], -1, p, (g : Int) + cntN t.size, 0⟩ ∧ Saved S k g t S' := by
  have hb := h.bound
  obtain ⟨j, f', hj, hf', hf, hx | ⟨hne, -, -⟩⟩ := save_form h (-1) (by omega)
  · have e64 : goAll S (wrs (bodiesT 1 g 0 t) g (k * (S.length / 4))) (fun _ => 64) = goAll S ((wrs (bodiesT 1 g 0 t) g (k * (S.length / 4))).take (cntN t.size)) (fun _ => 64) := by
      rw [List.take_of_length_le (by rw [wrs_length, bodiesT_len]; omega)]
    rw [e64, hf rfl] at hx
    have hG := goAll_good h (cntN t.size) (fun _ => 64) fun _ => Nat.le_refl _
    have hlen := goAll_len S ((wrs (bodiesT 1 g 0 t) g (k * (S.length / 4))).take (cntN t.size)) (fun _ => 64)
    have hsec := fun q (hq : q < S.length) => sec_saved h (fun _ => 64) (cntN t.size) (Nat.le_refl _) q hq
    refine ⟨_, _, hx, hG, hlen, fun i hi => ?_, fun q hq hn => ?_⟩
    · rw [hsec _ (by omega), if_pos (by omega), show k * (S.length / 4) + i - k * (S.length / 4) = i by omega]
      exact torn_64 (sheetB_size _ _ (by rw [body52 hi]; omega)) ((secOk_iff S).1 h.good.ok _ (h.good.sec_mem (by omega)))
    · rw [hsec q hq, if_neg hn]
  · exact absurd rfl hne

theorem good_new {n : Nat} (h1 : 16 ≤ n) (h2 : n ≤ 512) : Good (newS n) ∧ (newS n).length = n ∧ ∀ q, q < n → secAt (newS n) q = fillS 0 := by
  have hl : (newS n).length = n := by simp [newS]
  refine ⟨⟨by omega, by omega, ?_⟩, hl, fun q hq => ?_⟩
  · rw [secOk_iff]
    intro s hs
    unfold newS at hs
    rw [(List.mem_replicate.1 hs).2]
    exact fillS_size 0
  · rw [secAt_eq (by omega)]; simp only [newS, List.getElem_replicate]

theorem Saved.lies {S : List ByteArray} {k g : Nat} {t : ByteArray} {S' : List ByteArray} (h : Saved S k g t S') (hm : May S k g t) : Lies S' (k * (S'.length / 4)) g g t :=
  ⟨hm.g1, by have := hm.g2; omega, hm.g1, hm.g2, hm.sz, fun i hi => by rw [h.len]; exact h.new_ i hi⟩
/-- What lies in the other slot stays. -/
theorem Saved.keeps {S : List ByteArray} {k g : Nat} {t : ByteArray} {S' : List ByteArray} (h : Saved S k g t S') (hm : May S k g t) {k' g' : Nat} {t' : ByteArray} (hne : k' ≠ k) (hk : k' < 2) (hL : Lies S (k' * (S.length / 4)) g' g' t') (hc : cntN t'.size ≤ S.length / 4) :
    Lies S' (k' * (S'.length / 4)) g' g' t' := by
  have hf := hm.fits
  have hk2 := hm.k
  refine ⟨hL.g1, hL.g2, hL.s1, hL.s2, hL.sz, fun i hi => ?_⟩
  rw [h.len, h.old _ ?_ ?_]
  · exact hL.sec i hi
  · rcases (show k' = 0 ∨ k' = 1 by omega) with rfl | rfl <;> omega
  · rcases (show k' = 0 ∧ k = 1 ∨ k' = 1 ∧ k = 0 by omega) with ⟨rfl, rfl⟩ | ⟨rfl, rfl⟩ <;> omega

/-- The newer slot of two that are told. -/
theorem best_zero {S : List ByteArray} (hG : Good S) {g0 : Int} {t0 : ByteArray} (h0 : loadDE S [] (-1) 0 = 0 ∧ loadDG S [] (-1) 0 = g0 ∧ loadDT S [] (-1) 0 = t0) (hg : 0 < g0) (h1 : ¬ (loadDE S [] (-1) 1 = 0 ∧ g0 < loadDG S [] (-1) 1)) : bestR S [] (-1) = ⟨0, g0, t0, 0⟩ := by
  obtain ⟨z1, z2, z3⟩ := h0
  have e1 : bst S [] (-1) 1 = ⟨0, g0, t0, 0⟩ := by
    show bstep S [] (-1) ⟨0, 0, ⟨#[]⟩, 6⟩ ((0 : Nat) : Int) = _
    unfold bstep
    rw [show ((0 : Nat) : Int) = 0 from rfl, z1, z2, z3, if_pos ⟨rfl, hg⟩]
  unfold bestR
  rw [if_pos (hG.chk (by omega))]
  show bstep S [] (-1) (bst S [] (-1) 1) ((1 : Nat) : Int) = _
  rw [e1]
  unfold bstep
  exact if_neg h1
theorem best_one {S : List ByteArray} (hG : Good S) {g1 : Int} {t1 : ByteArray} (h1 : loadDE S [] (-1) 1 = 0 ∧ loadDG S [] (-1) 1 = g1 ∧ loadDT S [] (-1) 1 = t1) (hg : 0 < g1) (h0 : loadDE S [] (-1) 0 = 0 → loadDG S [] (-1) 0 < g1) : bestR S [] (-1) = ⟨1, g1, t1, 0⟩ := by
  obtain ⟨z1, z2, z3⟩ := h1
  unfold bestR
  rw [if_pos (hG.chk (by omega))]
  show bstep S [] (-1) (bst S [] (-1) 1) ((1 : Nat) : Int) = _
  have e : (bst S [] (-1) 1).g < g1 := by
    show (bstep S [] (-1) ⟨0, 0, ⟨#[]⟩, 6⟩ ((0 : Nat) : Int)).g < _
    unfold bstep
    rw [show ((0 : Nat) : Int) = 0 from rfl]
    by_cases h : loadDE S [] (-1) 0 = 0 ∧ (0 : Int) < loadDG S [] (-1) 0
    · rw [if_pos h]; exact h0 h.1
    · rw [if_neg h]; exact hg
  generalize bst S [] (-1) 1 = b at *
  unfold bstep
  rw [show ((1 : Nat) : Int) = 1 from rfl, z1, z2, z3, if_pos ⟨rfl, e⟩]

def hello : ByteArray := ⟨#[104, 101, 108, 108, 111]⟩
def atext : ByteArray := ⟨#[97, 32, 116, 101, 120, 116, 32, 116, 104, 97, 116, 32, 100, 111, 101, 115, 32, 110, 111, 116, 32, 102, 105, 116, 32, 105, 110, 116, 111, 32, 111, 110, 101, 32, 115, 104, 101, 101, 116, 32, 97, 108, 111, 110, 101]⟩
def long_ : ByteArray := ⟨(List.replicate 141 (0 : UInt8)).toArray⟩

theorem long_size : long_.size = 141 := by
  show (List.replicate 141 (0 : UInt8)).toArray.size = 141
  rw [List.size_toArray, List.length_replicate]

/-- What a small disk shows. -/
structure Shows (Sa Sb : List ByteArray) : Prop where
  one : ∃ p, saveR (newS 16) [] (-1) 1 5 5 hello = ⟨Sa, [], -1, p, 6, 0⟩
  two : ∃ p, saveR Sa [] (-1) 0 6 6 atext = ⟨Sb, [], -1, p, 8, 0⟩
  load : loadDE Sb [] (-1) 1 = 0 ∧ loadDG Sb [] (-1) 1 = 5 ∧ loadDT Sb [] (-1) 1 = hello
  best : bestR Sb [] (-1) = ⟨0, 6, atext, 0⟩
  none_ : loadDE (newS 16) [] (-1) 0 = 6
  full : (saveR Sb [] (-1) 0 7 8 long_).e = 7
  top : topD Sb [] (-1) = 7
  two_ : (drainD Sb [] (-1) 0 4).length = 2
  la : Sa.length = 16
  lb : Sb.length = 16

theorem shows_ : ∃ Sa Sb, Shows Sa Sb := by
  obtain ⟨hG, hl, hz⟩ := good_new (n := 16) (by omega) (by omega)
  have s1 : hello.size = 5 := rfl
  have s2 : atext.size = 45 := rfl
  have c1 : cntN hello.size = 1 := by decide
  have c2 : cntN atext.size = 2 := by decide
  have m1 : May (newS 16) 1 5 hello := ⟨hG, by omega, by omega, by omega, by omega, by omega⟩
  obtain ⟨Sa, pa, ha, hA⟩ := save_plain m1
  have la : Sa.length = 16 := by rw [hA.len, hl]
  have m2 : May Sa 0 6 atext := ⟨hA.good, by omega, by omega, by omega, by omega, by omega⟩
  obtain ⟨Sb, pb, hb, hB⟩ := save_plain m2
  have lb : Sb.length = 16 := by rw [hB.len, la]
  have L1 := hB.keeps m2 (k' := 1) (by omega) (by omega) (hA.lies m1) (by omega)
  have L0 := hB.lies m2
  have e1 := L1.load hB.good (k := 1) (by omega) (by omega)
  have e0 := L0.load hB.good (k := 0) (by omega) (by omega)
  -- each sector of the disk
  have hs0 : secAt Sb 0 = sheetB 6 (bodyAt 1 6 0 (cntN atext.size) (loadT atext) 0) := by have := hB.new_ 0 (by omega); rw [la] at this; exact this
  have hs1 : secAt Sb 1 = sheetB 7 (bodyAt 1 6 0 (cntN atext.size) (loadT atext) 1) := by have := hB.new_ 1 (by omega); rw [la] at this; exact this
  have hs4 : secAt Sb 4 = sheetB 5 (bodyAt 1 5 0 (cntN hello.size) (loadT hello) 0) := by
    rw [hB.old 4 (by omega) (by rw [la, c2]; omega)]
    have := hA.new_ 0 (by omega); rw [hl] at this; exact this
  have hsz : ∀ q, q < 16 → q ≠ 0 → q ≠ 1 → q ≠ 4 → secAt Sb q = fillS 0 := fun q hq h0 h1 h4 => by
    rw [hB.old q (by omega) (by rw [la, c2]; omega), hA.old q (by omega) (by rw [hl, c1]; omega)]
    exact hz q hq
  have S0 : Sec (secAt Sb 0) 6 6 := by rw [hs0]; exact Sec.sheet (by omega) (by rw [body52 (by omega)]; omega)
  have S1 : Sec (secAt Sb 1) 7 7 := by rw [hs1]; exact Sec.sheet (by omega) (by rw [body52 (by omega)]; omega)
  have S4 : Sec (secAt Sb 4) 5 5 := by rw [hs4]; exact Sec.sheet (by omega) (by rw [body52 (by omega)]; omega)
  refine ⟨Sa, Sb, ⟨pa, ?_⟩, ⟨pb, ?_⟩, e1, ?_, ?_, ?_, ?_, ?_, la, lb⟩
  · rw [c1] at ha; exact ha
  · rw [c2] at hb; exact hb
  · exact best_zero hB.good e0 (by decide) (fun x => by rw [show loadDG Sb [] (-1) 1 = ((5 : Nat) : Int) from e1.2.1] at x; omega)
  · refine (load_bad hG (k := 0) (by omega) ?_).1
    rw [Nat.zero_mul, hz 0 (by omega)]
    have := Sec.zero.whole
    cases hw : wholeB (fillS 0) with
    | false => rfl
    | true => have := this.1 hw; omega
  · have hls := long_size
    generalize long_ = lg at *
    have hn : ¬ ((layS 1 (7 : Int) (0 : Int) lg).length : Int) ≤ 4 := by
      have hH : Head 1 7 0 := ⟨by omega, by omega, by omega, by omega⟩
      have := (layS_eq (t := lg) hH (by omega)).2
      have e : layS 1 (7 : Int) (0 : Int) lg = bodiesT 1 7 0 lg := this
      rw [e, bodiesT_len]
      unfold cntN
      omega
    have hE : errL (7 : Int) (0 : Int) lg = 0 := (layS_eq (k := 1) (g := 7) (n := 0) (t := lg) ⟨by omega, by omega, by omega, by omega⟩ (by omega)).1
    unfold saveR
    rw [if_pos (by decide), hB.good.sz, lb]
    unfold pourR
    have hp : pourE Sb [] (-1) (0 * ((16 / 4 : Nat) : Int)) ((0 + 1) * ((16 / 4 : Nat) : Int)) 1 7 0 8 lg = 7 := by
      unfold pourE
      rw [if_pos (okS_of (hB.good.chk (by omega)) (by omega) (by omega) (by omega)), if_pos hE, if_neg (by omega)]
    rw [hp, if_neg (by decide)]
  · unfold topD
    rw [if_pos (hB.good.chk (by omega)), hB.good.secs]
    apply Int.le_antisymm
    · refine topL_le (by omega) fun s hs => ?_
      obtain ⟨q, hq, rfl⟩ := hB.good.mem hs
      by_cases h0 : q = 0
      · subst h0; rw [S0.top]; omega
      · by_cases h1 : q = 1
        · subst h1; rw [S1.top]; omega
        · by_cases h4 : q = 4
          · subst h4; rw [S4.top]; omega
          · rw [hsz q (by omega) h0 h1 h4, Sec.zero.top]; omega
    · have := topL_ge (hB.good.sec_mem (q := 1) (by omega))
      rw [S1.top] at this
      exact this
  · unfold drainD
    rw [if_pos (okS_of (hB.good.chk (by omega)) (by omega) (by omega) (by omega)), hB.good.secs]
    have e : part Sb (0 : Int).toNat (4 : Int).toNat = [secAt Sb 0, secAt Sb 1] ++ secAt Sb 2 :: [secAt Sb 3] := by
      apply List.ext_getElem?
      intro i
      by_cases hi : i < 4
      · rw [show (0 : Int).toNat = 0 from rfl, show (4 : Int).toNat = 4 from rfl, part_getD (by omega) (by omega)]
        match i, hi with
        | 0, _ => simp
        | 1, _ => simp
        | 2, _ => simp
        | 3, _ => simp
      · rw [List.getElem?_eq_none (by rw [part_length (by omega)]; simp; omega), List.getElem?_eq_none (by simp; omega)]
    rw [e, drainL_stop]
    · rfl
    · intro s hs
      rcases List.mem_cons.1 hs with rfl | hs
      · exact S0.whole.2 ⟨rfl, by omega⟩
      · rw [List.mem_singleton.1 hs]; exact S1.whole.2 ⟨rfl, by omega⟩
    · rw [hsz 2 (by omega) (by omega) (by omega) (by omega)]
      have := Sec.zero.whole
      cases hw : wholeB (fillS 0) with
      | false => rfl
      | true => have := this.1 hw; omega

end Go.Proofs.YtpeckeiaonjaaaaGreatDoor.Slt
