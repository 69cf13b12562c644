import Derived.Test.YtkglolnghihegaaGreatDoorJrnP
import Derived.Test.YtkglolnghihegaaGreatDoorOct
import Derived.Test.YtkglolnghihegaaGreatDoorSltP

/- Plain facts on stores: what is loaded depends on its own bodies alone; disks of which sectors are the same. -/
namespace Go.Proofs.YtkglolnghihegaaGreatDoor.Sto
open Go.RowKit Go.Proofs.YtkglolnghihegaaGreatDoor.Dsk Go.Proofs.YtkglolnghihegaaGreatDoor.Sht Go.Proofs.YtkglolnghihegaaGreatDoor.Shf Go.Proofs.YtkglolnghihegaaGreatDoor.Slt Go.Proofs.YtkglolnghihegaaGreatDoor.Oct Go.Proofs.YtkglolnghihegaaGreatDoor.Jrn

theorem scanG_congr {k : Nat} {g n : Int} {B B' : List ByteArray} {of : Int} : ∀ r i, (∀ j, i ≤ j → j < i + r → B'[j]? = B[j]?) → scanG k g n B' of r i = scanG k g n B of r i := by
  intro r
  induction r with
  | zero => intro i _; rfl
  | succ r ih =>
    intro i h
    have e : errG k g n B' of i = errG k g n B of i := by unfold errG; rw [h i (Nat.le_refl _) (by omega)]
    unfold scanG
    rw [e, ih (i + 1) fun j h1 h2 => h j (by omega) (by omega)]

theorem errJ_prefix {k : Nat} {g n : Int} {B B' : List ByteArray} (h : errJ k g n B = 0) (hp : ∀ j, j < (ofS B).toNat → B'[j]? = B[j]?) : errJ k g n B' = 0 ∧ ofS B' = ofS B ∧ loadS B' = loadS B := by
  obtain ⟨h1, -, -, -⟩ := errJ_some h
  have h0 : B'[0]? = B[0]? := hp 0 (by omega)
  have eo : ofS B' = ofS B := by unfold ofS; rw [h0]
  have eP : errP k g n B' 0 = errP k g n B 0 := by unfold errP; rw [h0]
  have eS : errS k g n B' = errS k g n B := by
    unfold errS
    rw [eP, eo, scanG_congr (B := B) (B' := B') _ 0 fun j _ h2 => hp j (by omega)]
  have eT : B'.take (ofS B).toNat = B.take (ofS B).toNat := by
    apply List.ext_getElem?
    intro i
    rw [List.getElem?_take, List.getElem?_take]
    by_cases hi : i < (ofS B).toNat
    · rw [if_pos hi, if_pos hi, hp i hi]
    · rw [if_neg hi, if_neg hi]
  have eL : loadS B' = loadS B := by unfold loadS; rw [eo, eT]
  refine ⟨?_, eo, eL⟩
  unfold errJ at h ⊢
  rw [eS, eL, eo]
  exact h

theorem loadE_gives {B : List ByteArray} (h : loadE B = 0) : ∃ s R, B = s :: R ∧ errR s = 0 ∧ kA s = 1 ∧ nA s = 0 ∧ errJ 1 (gA s) 0 B = 0 ∧ loadG B = gA s := by
  cases B with
  | nil => exact absurd h (by decide)
  | cons s R =>
    have h' := h
    unfold loadE at h
    dsimp only at h
    by_cases h1 : errR s = 0
    · rw [if_pos h1] at h
      by_cases h2 : kA s = 1 ∧ nA s = 0
      · rw [if_pos h2] at h
        exact ⟨s, R, rfl, h1, h2.1, h2.2, h, by unfold loadG; rw [if_pos h']⟩
      · rw [if_neg h2] at h; cases h
    · rw [if_neg h1] at h; exact absurd h h1
theorem load_prefix {B B' : List ByteArray} (h : loadE B = 0) (hp : ∀ j, j < (ofS B).toNat → B'[j]? = B[j]?) : loadE B' = 0 ∧ loadG B' = loadG B ∧ loadT' B' = loadT' B := by
  obtain ⟨s, R, rfl, h1, h2, h3, h4, h5⟩ := loadE_gives h
  obtain ⟨o1, -, -, -⟩ := errJ_some h4
  obtain ⟨j1, -, j3⟩ := errJ_prefix h4 hp
  have h0 := hp 0 (by omega)
  cases B' with
  | nil => simp at h0
  | cons s' R' =>
    obtain rfl : s' = s := by simpa using h0
    have e : loadE (s' :: R') = 0 := by rw [loadE_some h1 h2 h3]; exact j1
    refine ⟨e, ?_, ?_⟩
    · rw [h5]; unfold loadG; rw [if_pos e]
    · unfold loadT'; rw [if_pos e, if_pos h, j3]

theorem drain_get_of {L : List ByteArray} {j : Nat} (hj : ∀ i, i ≤ j → ∃ s, L[i]? = some s ∧ wholeB s = true) : ∃ s, L[j]? = some s ∧ (drainL L)[j]? = some (openR s).2.1 := by
  induction j generalizing L with
  | zero =>
    obtain ⟨s, hs, hw⟩ := hj 0 (Nat.le_refl _)
    cases L with
    | nil => simp at hs
    | cons a L =>
      obtain rfl : a = s := by simpa using hs
      exact ⟨a, rfl, by rw [drainL_cons hw]; rfl⟩
  | succ j ih =>
    cases L with
    | nil => obtain ⟨s, hs, -⟩ := hj 0 (by omega); simp at hs
    | cons a L =>
      obtain ⟨s0, hs0, hw0⟩ := hj 0 (by omega)
      obtain rfl : a = s0 := by simpa using hs0
      obtain ⟨s, h1, h2⟩ := ih (L := L) fun i hi => by
        obtain ⟨s, hs, hw⟩ := hj (i + 1) (by omega)
        exact ⟨s, by simpa using hs, hw⟩
      exact ⟨s, by simpa using h1, by rw [drainL_cons hw0]; simpa using h2⟩
/-- A body that is told: all sheets up to it are whole. -/
theorem drain_whole {L : List ByteArray} {j : Nat} {x : ByteArray} (h : (drainL L)[j]? = some x) : ∀ i, i ≤ j → ∃ s, L[i]? = some s ∧ wholeB s = true := by
  intro i hi
  have hl : i < (drainL L).length := by
    obtain ⟨h1, -⟩ := List.getElem?_eq_some_iff.1 h
    omega
  obtain ⟨hj, hw, -⟩ := drainL_get (List.getElem?_eq_getElem hl)
  exact ⟨L[i], List.getElem?_eq_getElem hj, hw⟩

theorem part_same {S S' : List ByteArray} {a b : Nat} (hb : b ≤ S.length) (hl : S'.length = S.length) (h : ∀ q, a ≤ q → q < b → secAt S' q = secAt S q) : Slt.part S' a b = Slt.part S a b := by
  apply List.ext_getElem?
  intro i
  by_cases hi : i < b - a
  · rw [part_getD hi (by omega), part_getD hi hb, h (a + i) (by omega) (by omega)]
  · rw [List.getElem?_eq_none (by rw [part_length (by omega)]; omega), List.getElem?_eq_none (by rw [part_length hb]; omega)]
theorem slot_same {S S' : List ByteArray} (hG : Slt.Good S) (hG' : Slt.Good S') (hl : S'.length = S.length) {k : Nat} (hk : k < 2) (h : ∀ q, k * (S.length / 4) ≤ q → q < (k + 1) * (S.length / 4) → secAt S' q = secAt S q) :
    loadDE S' [] (-1) k = loadDE S [] (-1) k ∧ loadDG S' [] (-1) k = loadDG S [] (-1) k ∧ loadDT S' [] (-1) k = loadDT S [] (-1) k := by
  have e3 : (k + 1) * (S.length / 4) ≤ S.length := by
    have : (k + 1) * (S.length / 4) ≤ 2 * (S.length / 4) := Nat.mul_le_mul_right _ (by omega)
    omega
  have e : slotB S' [] (-1) k = slotB S [] (-1) k := by rw [hG'.slotB hk, hG.slotB hk, hl, part_same e3 hl h]
  unfold loadDE loadDG loadDT
  rw [hG.mayL hk, hG'.mayL hk, e]
  exact ⟨rfl, rfl, rfl⟩
theorem scan_same {S S' : List ByteArray} (hG : Slt.Good S) (hG' : Slt.Good S') (hl : S'.length = S.length) (h : ∀ q, 2 * (S.length / 4) ≤ q → q < S.length → secAt S' q = secAt S q) (g : Int) :
    scanDL S' [] (-1) g = scanDL S [] (-1) g := by
  have hlo := hG.lo
  have e2 : 2 * sizR S.length = ((2 * (S.length / 4) : Nat) : Int) := by rw [hG.sz]; push_cast; rfl
  unfold scanDL drainD
  rw [if_pos (hG.chk (by omega)), if_pos (hG'.chk (by omega)), hl, e2, if_pos (okS_of (hG.chk (by omega)) (by omega) (by omega) (by omega)), if_pos (okS_of (hG'.chk (by omega)) (by omega) (by omega) (by omega)), hG.secs, hG'.secs, Int.toNat_natCast, Int.toNat_natCast, part_same (Nat.le_refl _) hl h]
/-- No whole sheet behind the slots is of the generation: nothing is scanned. -/
theorem scan_none {S : List ByteArray} (hG : Slt.Good S) {g : Int} (h : RestP S (2 * (S.length / 4)) g) : scanDL S [] (-1) g = [] := by
  have hlo := hG.lo
  have e2 : 2 * sizR S.length = ((2 * (S.length / 4) : Nat) : Int) := by rw [hG.sz]; push_cast; rfl
  unfold scanDL drainD
  rw [if_pos (hG.chk (by omega)), e2, if_pos (okS_of (hG.chk (by omega)) (by omega) (by omega) (by omega)), hG.secs, Int.toNat_natCast, Int.toNat_natCast]
  exact scanL_stop (h.join (by omega) 2 _)

/-- What is read does not hang on the fuse. -/
theorem fuse_chk {S : List ByteArray} (hG : Slt.Good S) {f : Int} (hf : -1 ≤ f) : chk S [] f = chk S [] (-1) := by rw [hG.chk hf, hG.chk (by omega)]
theorem fuse_ok {S : List ByteArray} (hG : Slt.Good S) {f : Int} (hf : -1 ≤ f) (p q : Int) : okS S [] f p q = okS S [] (-1) p q := by unfold okS; rw [fuse_chk hG hf]
theorem fuse_drain {S : List ByteArray} (hG : Slt.Good S) {f : Int} (hf : -1 ≤ f) (p q : Int) : drainD S [] f p q = drainD S [] (-1) p q := by unfold drainD; rw [fuse_ok hG hf]
theorem fuse_load {S : List ByteArray} (hG : Slt.Good S) {f : Int} (hf : -1 ≤ f) (z : Int) : loadDE S [] f z = loadDE S [] (-1) z ∧ loadDG S [] f z = loadDG S [] (-1) z ∧ loadDT S [] f z = loadDT S [] (-1) z := by
  unfold loadDE loadDG loadDT mayL slotB
  rw [fuse_chk hG hf, fuse_drain hG hf]
  exact ⟨rfl, rfl, rfl⟩
theorem fuse_best {S : List ByteArray} (hG : Slt.Good S) {f : Int} (hf : -1 ≤ f) : bestR S [] f = bestR S [] (-1) := by
  have h : ∀ z b, bstep S [] f b z = bstep S [] (-1) b z := fun z b => by
    obtain ⟨h1, h2, h3⟩ := fuse_load hG hf z
    unfold bstep
    rw [h1, h2, h3]
  have h2 : ∀ n, bst S [] f n = bst S [] (-1) n := fun n => by
    induction n with
    | zero => rfl
    | succ n ih => unfold bst; rw [ih, h]
  unfold bestR
  rw [fuse_chk hG hf, h2]
theorem fuse_top {S : List ByteArray} (hG : Slt.Good S) {f : Int} (hf : -1 ≤ f) : topD S [] f = topL S := by
  unfold topD; rw [if_pos (hG.chk hf), hG.secs]
theorem fuse_scan {S : List ByteArray} (hG : Slt.Good S) {f : Int} (hf : -1 ≤ f) (g : Int) : scanDL S [] f g = scanDL S [] (-1) g ∧ scanDA S [] f g = scanDA S [] (-1) g ∧ scanDE S [] f = scanDE S [] (-1) := by
  unfold scanDL scanDA scanDE
  rw [fuse_chk hG hf, fuse_drain hG hf]
  exact ⟨rfl, rfl, rfl⟩

end Go.Proofs.YtkglolnghihegaaGreatDoor.Sto

/- Plain facts on stores of 24 sectors: what holds of all sectors, and what a write that is broken off leaves of it. -/
namespace Go.Proofs.YtkglolnghihegaaGreatDoor.Sto
open Go.RowKit Go.Proofs.YtkglolnghihegaaGreatDoor.Dsk Go.Proofs.YtkglolnghihegaaGreatDoor.Sht Go.Proofs.YtkglolnghihegaaGreatDoor.Shf Go.Proofs.YtkglolnghihegaaGreatDoor.Slt Go.Proofs.YtkglolnghihegaaGreatDoor.Oct Go.Proofs.YtkglolnghihegaaGreatDoor.Jrn

/-- What holds of all sectors: small stamps, and no generation above them. -/
structure SI (S : List ByteArray) (st : Nat) : Prop where
  good : Slt.Good S
  len : S.length = 24
  sec : ∀ q, q < 24 → ∃ x y, Sec (secAt S q) x y ∧ x < st
  old : ∀ q, q < 24 → wholeB (secAt S q) = true → gA (openR (secAt S q)).2.1 ≤ topL S

section
variable {S : List ByteArray} {st : Nat}
theorem SI.pos (h : SI S st) : 1 ≤ st := by obtain ⟨x, y, -, hx⟩ := h.sec 0 (by omega); omega
theorem SI.mono (h : SI S st) {st' : Nat} (hs : st ≤ st') : SI S st' := ⟨h.good, h.len, fun q hq => by obtain ⟨x, y, a, b⟩ := h.sec q hq; exact ⟨x, y, a, by omega⟩, h.old⟩
theorem SI.top_lt (h : SI S st) : topL S < st := by
  have hp := h.pos
  have : topL S ≤ ((st - 1 : Nat) : Int) := topL_le (by omega) fun s hs => by
    obtain ⟨q, hq, rfl⟩ := h.good.mem hs
    obtain ⟨x, y, hx, hb⟩ := h.sec q (by have := h.len; omega)
    rw [hx.top]; omega
  omega
theorem SI.sec_top (h : SI S st) {q : Nat} (hq : q < 24) : ∃ x y, Sec (secAt S q) x y ∧ x < st ∧ (x : Int) ≤ topL S := by
  obtain ⟨x, y, hx, hb⟩ := h.sec q hq
  refine ⟨x, y, hx, hb, ?_⟩
  have := topL_ge (h.good.sec_mem (show q < S.length by have := h.len; omega))
  rwa [hx.top] at this
theorem si_new : SI (newS 24) 1 := by
  obtain ⟨a, b, c⟩ := good_newS (n := 24) (by omega) (by omega)
  refine ⟨a, b, fun q hq => ⟨0, 0, by rw [c q hq]; exact Sec.zero, by omega⟩, fun q hq hw => ?_⟩
  rw [c q hq, zero_whole] at hw
  exact absurd hw (by decide)
end

/-- Sheets of rising stamps that are put over a disk, and broken off. -/
structure Cut (S S' : List ByteArray) (p s0 j n : Nat) (B : Nat → ByteArray) (c : Nat → Nat) : Prop where
  good : Slt.Good S'
  len : S'.length = S.length
  c64 : ∀ i, c i ≤ 64
  jn : j ≤ n
  b52 : ∀ i, i < n → (B i).size = 52
  sec : ∀ q, q < S.length → secAt S' q = if p ≤ q ∧ q < p + j then torn (sheetB (s0 + (q - p)) (B (q - p))) (secAt S q) (c (q - p)) else secAt S q

section
variable {S S' : List ByteArray} {p s0 j n : Nat} {B : Nat → ByteArray} {c : Nat → Nat}
theorem Cut.out (h : Cut S S' p s0 j n B c) {q : Nat} (hq : q < S.length) (ho : ¬ (p ≤ q ∧ q < p + n)) : secAt S' q = secAt S q := by
  have := h.jn
  rw [h.sec q hq, if_neg (by omega)]
/-- A sector is as it was, the new sheet, or neither. -/
theorem Cut.cases (h : Cut S S' p s0 j n B c) {q : Nat} (hq : q < S.length) {x y : Nat} (hx : Sec (secAt S q) x y) (hxs : x < s0) (hs : s0 + n ≤ 256) :
    secAt S' q = secAt S q ∨ (p ≤ q ∧ q < p + j ∧ (secAt S' q = sheetB (s0 + (q - p)) (B (q - p)) ∨ (Sec (secAt S' q) (s0 + (q - p)) y ∧ y < s0))) := by
  have hj := h.jn
  rw [h.sec q hq]
  by_cases hh : p ≤ q ∧ q < p + j
  · have h2 := hx.ba
    rw [if_pos hh]
    rcases (torn_sec hx (show x < s0 + (q - p) by omega) (show s0 + (q - p) < 256 by omega) (show (B (q - p)).size ≤ 52 by rw [h.b52 _ (by omega)]; omega) (c (q - p)) (h.c64 _)).1 with e | e | e
    · exact .inl e
    · exact .inr ⟨hh.1, hh.2, .inl e⟩
    · exact .inr ⟨hh.1, hh.2, .inr ⟨e, by omega⟩⟩
  · rw [if_neg hh]; exact .inl rfl
theorem Cut.sheet (h : Cut S S' p s0 j n B c) {i : Nat} (hi : i < n) (hs : s0 + n ≤ 256) : Sec (sheetB (s0 + i) (B i)) (s0 + i) (s0 + i) := Sec.sheet (by omega) (by rw [h.b52 i hi]; omega)
theorem Cut.open_ (h : Cut S S' p s0 j n B c) {i : Nat} (hi : i < n) (h1 : 1 ≤ s0) (hs : s0 + n ≤ 256) : openR (sheetB (s0 + i) (B i)) = (((s0 + i : Nat) : Int), B i, 0) := open_body (by omega) (by omega) (h.b52 i hi)

/-- All sectors, behind a write that was broken off. -/
theorem SI.cut {st : Nat} (h : SI S st) (hc : Cut S S' p s0 j n B c) (hs : topL S < s0) (hs2 : s0 + n ≤ 256) (hB : ∀ i, i < n → gA (B i) ≤ s0 ∨ gA (B i) ≤ topL S) {st' : Nat} (h2 : s0 + n ≤ st') :
    SI S' st' ∧ topL S ≤ topL S' := by
  have hl := h.len
  have hl' := hc.len
  have hjn := hc.jn
  have h0 := topL_nonneg S
  have hcase := fun q (hq : q < 24) x y (hx : Sec (secAt S q) x y) (hxs : x < s0) => hc.cases (q := q) (by omega) hx hxs hs2
  have htop : topL S ≤ topL S' := topL_le (topL_nonneg _) fun s hs => by
    obtain ⟨q, hq, rfl⟩ := h.good.mem hs
    obtain ⟨x, y, hx, hxb, hxt⟩ := h.sec_top (q := q) (by omega)
    refine Int.le_trans ?_ (topL_ge (hc.good.sec_mem (q := q) (by omega)))
    rcases hcase q (by omega) x y hx (by omega) with e | ⟨a1, a2, e | ⟨e, -⟩⟩
    · rw [e]; exact Int.le_refl _
    · rw [e, hx.top, (hc.sheet (by omega) hs2).top]; omega
    · rw [hx.top, e.top]; omega
  refine ⟨⟨hc.good, by omega, fun q hq => ?_, fun q hq hw => ?_⟩, htop⟩
  · obtain ⟨x, y, hx, hxb, hxt⟩ := h.sec_top hq
    rcases hcase q hq x y hx (by omega) with e | ⟨a1, a2, e | ⟨e, -⟩⟩
    · exact ⟨x, y, by rw [e]; exact hx, by omega⟩
    · exact ⟨_, _, by rw [e]; exact hc.sheet (by omega) hs2, by omega⟩
    · exact ⟨_, _, e, by omega⟩
  · obtain ⟨x, y, hx, hxb, hxt⟩ := h.sec_top hq
    have hxy := hx.ba
    rcases hcase q hq x y hx (by omega) with e | ⟨a1, a2, e | ⟨e, hy⟩⟩
    · rw [e] at hw ⊢
      exact Int.le_trans (h.old q hq hw) htop
    · have ht' := (hc.sheet (i := q - p) (by omega) hs2).top
      rw [← e] at ht'
      have := topL_ge (hc.good.sec_mem (q := q) (by omega))
      rw [e, hc.open_ (by omega) (by omega) hs2]
      rcases hB (q - p) (by omega) with hb | hb
      · exact Int.le_trans hb (by omega)
      · exact Int.le_trans hb htop
    · have := e.whole.1 hw
      omega

/-- A whole sheet of a new generation is a new one. -/
theorem Cut.new_ (hc : Cut S S' p s0 j n B c) {st : Nat} (h : SI S st) (hs : topL S < s0) (hs2 : s0 + n ≤ 256) {g : Int} (hg : topL S < g) {q : Nat} (hq : q < 24) (hw : wholeB (secAt S' q) = true) (hgq : gA (openR (secAt S' q)).2.1 = g) :
    p ≤ q ∧ q < p + j ∧ secAt S' q = sheetB (s0 + (q - p)) (B (q - p)) := by
  have hl := h.len
  obtain ⟨x, y, hx, hxb, hxt⟩ := h.sec_top hq
  have hxy := hx.ba
  rcases hc.cases (by omega) hx (by omega) hs2 with e | ⟨a1, a2, e | ⟨e, hy⟩⟩
  · rw [e] at hw hgq
    have := h.old q hq hw
    omega
  · exact ⟨a1, a2, e⟩
  · have := e.whole.1 hw
    omega
/-- A whole sheet of an old generation, where all new ones are of another, is as it was. -/
theorem Cut.old_ (hc : Cut S S' p s0 j n B c) {st : Nat} (h : SI S st) (hs : topL S < s0) (hs2 : s0 + n ≤ 256) {g : Int} (hB : ∀ i, i < n → gA (B i) ≠ g) {q : Nat} (hq : q < 24) (hw : wholeB (secAt S' q) = true) (hgq : gA (openR (secAt S' q)).2.1 = g) :
    secAt S' q = secAt S q := by
  have hl := h.len
  have hjn := hc.jn
  have h0 := topL_nonneg S
  obtain ⟨x, y, hx, hxb, hxt⟩ := h.sec_top hq
  have hxy := hx.ba
  rcases hc.cases (by omega) hx (by omega) hs2 with e | ⟨a1, a2, e | ⟨e, hy⟩⟩
  · exact e
  · rw [e, hc.open_ (by omega) (by omega) hs2] at hgq
    exact absurd hgq (hB _ (by omega))
  · have := e.whole.1 hw
    omega
end

/-- What a save that is broken off leaves. -/
theorem cut_save {S : List ByteArray} {k g : Nat} {t : ByteArray} (h : May S k g t) (c : Nat → Nat) (hc : ∀ i, c i ≤ 64) (j : Nat) (hj : j ≤ cntN t.size) :
    Cut S (goAll S ((wrs (bodiesT 1 g 0 t) g (k * (S.length / 4))).take j) c) (k * (S.length / 4)) g j (cntN t.size) (bodyAt 1 g 0 (cntN t.size) (loadT t)) c :=
  ⟨goAll_good h j c hc, goAll_len _ _ _, hc, hj, fun _ hi => body52 hi, fun q hq => sec_saved h c j hj q hq⟩
/-- What a record that is broken off leaves. -/
theorem cut_put {S : List ByteArray} {p g n st : Nat} {t : ByteArray} (h : MayP S p g n st t) (c : Nat → Nat) (hc : ∀ i, c i ≤ 64) (j : Nat) (hj : j ≤ cntN t.size) :
    Cut S (goAll S ((wrs (bodiesT 2 g n t) st p).take j) c) p st j (cntN t.size) (bodyAt 2 g n (cntN t.size) (loadT t)) c :=
  ⟨goAll_goodP h j c hc, goAll_len _ _ _, hc, hj, fun _ hi => at52 hi, fun q hq => sec_put h c j hj q hq⟩
theorem at_gen {k g n : Nat} {t : ByteArray} (hg : g ≤ 1099511627776) (i : Nat) : gA (bodyAt k g n (cntN t.size) (loadT t) i) = g := by
  unfold bodyAt; exact body_g (by omega)

/-- The slot that is saved, behind a save that was broken off: the new text, or what was there, or nothing. -/
theorem save_slot {S S' : List ByteArray} {st k g j : Nat} {t : ByteArray} {c : Nat → Nat} (h : SI S st) (hm : May S k g t) (hg : topL S < g) (hg2 : g + 6 ≤ 256) (hc : Cut S S' (k * (S.length / 4)) g j (cntN t.size) (bodyAt 1 g 0 (cntN t.size) (loadT t)) c) (hE : loadDE S' [] (-1) k = 0) :
    Lies S' (k * (S.length / 4)) g g t ∨ (loadDE S [] (-1) k = 0 ∧ loadDG S' [] (-1) k = loadDG S [] (-1) k) := by
  have hl := h.len
  have hl' := hc.len
  have hk := hm.k
  have hfit := hm.fits
  have h0 := topL_nonneg S
  have hs2 : g + cntN t.size ≤ 256 := by omega
  have hk6 : k * (S.length / 4) + 6 ≤ 12 := by rw [hl]; omega
  have e6 : (k + 1) * (S.length / 4) = k * (S.length / 4) + 6 := by rw [Nat.succ_mul, hl]
  have eB : slotB S' [] (-1) k = drainL (Slt.part S' (k * (S.length / 4)) (k * (S.length / 4) + 6)) := by rw [hc.good.slotB hk, hl', e6]
  have eA : slotB S [] (-1) k = drainL (Slt.part S (k * (S.length / 4)) (k * (S.length / 4) + 6)) := by rw [hm.good.slotB hk, e6]
  have hE' : loadE (slotB S' [] (-1) k) = 0 := by unfold loadDE at hE; rwa [if_pos (hc.good.mayL hk)] at hE
  generalize k * (S.length / 4) = p at *
  obtain ⟨s, R, hsR, h1, h2, h3, h4, h5⟩ := loadE_gives hE'
  obtain ⟨o1, o2, o3, o4⟩ := errJ_some h4
  -- all its bodies are whole sheets of one generation
  have hall : ∀ i, i < (ofS (slotB S' [] (-1) k)).toNat → p + i < p + 6 ∧ wholeB (secAt S' (p + i)) = true ∧ gA (openR (secAt S' (p + i))).2.1 = gA s := fun i hi => by
    obtain ⟨x, hx, hgx⟩ := o4 i hi
    rw [eB] at hx
    obtain ⟨hj1, hw, rfl⟩ := drainL_get hx
    rw [part_length (by omega)] at hj1
    have e : (Slt.part S' p (p + 6))[i] = secAt S' (p + i) := by rw [part_get hj1 (by omega), secAt_eq]
    rw [e] at hw hgx
    exact ⟨by omega, hw, hgx⟩
  by_cases hgs : gA s = g
  · left
    have hnew : ∀ i, i < (ofS (slotB S' [] (-1) k)).toNat → i < j ∧ secAt S' (p + i) = sheetB (g + i) (bodyAt 1 g 0 (cntN t.size) (loadT t) i) := fun i hi => by
      obtain ⟨hi6, hw, hgi⟩ := hall i hi
      obtain ⟨a1, a2, a3⟩ := hc.new_ h hg hs2 (show topL S < (g : Int) from hg) (by omega) hw (by rw [hgi, hgs])
      rw [show p + i - p = i by omega] at a3
      exact ⟨by omega, a3⟩
    have hjn := hc.jn
    obtain ⟨hj0, e0⟩ := hnew 0 (by omega)
    obtain ⟨hi6, hw0, -⟩ := hall 0 (by omega)
    have hof : ofS (slotB S' [] (-1) k) = cntN t.size := by
      have hs0 : (slotB S' [] (-1) k)[0]? = some (bodyAt 1 g 0 (cntN t.size) (loadT t) 0) := by
        obtain ⟨s1, q1, q2⟩ := drain_get_of (L := Slt.part S' p (p + 6)) (j := 0) fun i hi => ⟨secAt S' (p + i), by rw [part_getD (by omega) (by omega)], (hall i (by omega)).2.1⟩
        rw [part_getD (by omega) (by omega)] at q1
        rw [eB, q2, ← Option.some.inj q1, e0, hc.open_ (by omega) (by omega) hs2]
      unfold ofS
      rw [hs0]
      unfold bodyAt
      exact at_oA (cnt_lt hm.sz) 0
    exact ⟨hm.g1, by omega, hm.g1, by omega, hm.sz, fun i hi => (hnew i (by rw [hof]; omega)).2⟩
  · right
    have hsame : ∀ i, i < (ofS (slotB S' [] (-1) k)).toNat → secAt S' (p + i) = secAt S (p + i) := fun i hi => by
      obtain ⟨hi6, hw, hgi⟩ := hall i hi
      exact hc.old_ h hg hs2 (g := gA s) (fun i _ => by rw [at_gen (by omega)]; exact fun e => hgs e.symm) (by omega) hw hgi
    have hpre : ∀ i, i < (ofS (slotB S' [] (-1) k)).toNat → (slotB S [] (-1) k)[i]? = (slotB S' [] (-1) k)[i]? := fun i hi => by
      obtain ⟨s1, q1, q2⟩ := drain_get_of (L := Slt.part S' p (p + 6)) (j := i) fun r hr => ⟨secAt S' (p + r), by rw [part_getD (by have := (hall r (by omega)).1; omega) (by omega)], (hall r (by omega)).2.1⟩
      obtain ⟨s2, q3, q4⟩ := drain_get_of (L := Slt.part S p (p + 6)) (j := i) fun r hr => ⟨secAt S (p + r), by rw [part_getD (by have := (hall r (by omega)).1; omega) (by omega)], by rw [← hsame r (by omega)]; exact (hall r (by omega)).2.1⟩
      have hi6 := (hall i hi).1
      rw [part_getD (by omega) (by omega)] at q1 q3
      rw [eB, eA, q2, q4, ← Option.some.inj q1, ← Option.some.inj q3, hsame i hi]
    obtain ⟨r1, r2, -⟩ := load_prefix hE' hpre
    unfold loadDE loadDG
    rw [if_pos (hm.good.mayL hk), if_pos (hm.good.mayL hk), if_pos (hc.good.mayL hk)]
    exact ⟨r1, r2.symm⟩

end Go.Proofs.YtkglolnghihegaaGreatDoor.Sto

/- Plain facts on stores of 24 sectors: the slot that tells, its records, saves and records that the power breaks off. -/
namespace Go.Proofs.YtkglolnghihegaaGreatDoor.Sto
open Go.RowKit Go.Proofs.YtkglolnghihegaaGreatDoor.Dsk Go.Proofs.YtkglolnghihegaaGreatDoor.Sht Go.Proofs.YtkglolnghihegaaGreatDoor.Shf Go.Proofs.YtkglolnghihegaaGreatDoor.Slt Go.Proofs.YtkglolnghihegaaGreatDoor.Oct Go.Proofs.YtkglolnghihegaaGreatDoor.Jrn

/-- The slot that tells: its text, whole; the other one has none, or an elder one. -/
structure Bs (S : List ByteArray) (k G : Nat) (T : ByteArray) : Prop where
  kk : k < 2
  lies : ∃ s, Lies S (k * (S.length / 4)) s G T
  cnt : cntN T.size ≤ S.length / 4
  top : (G : Int) ≤ topL S
  other : ∀ i, i < 2 → i ≠ k → loadDE S [] (-1) (i : Nat) = 0 → loadDG S [] (-1) (i : Nat) < G
/-- No slot tells. -/
def Ns (S : List ByteArray) : Prop := ∀ i, i < 2 → loadDE S [] (-1) (i : Nat) ≠ 0

theorem Bs.load {S : List ByteArray} {k G : Nat} {T : ByteArray} (h : Bs S k G T) (hG : Slt.Good S) : loadDE S [] (-1) k = 0 ∧ loadDG S [] (-1) k = G ∧ loadDT S [] (-1) k = T := by
  obtain ⟨s, hL⟩ := h.lies
  exact hL.load hG h.kk h.cnt
theorem Bs.g1 {S : List ByteArray} {k G : Nat} {T : ByteArray} (h : Bs S k G T) : 1 ≤ G := by obtain ⟨s, hL⟩ := h.lies; exact hL.g1
theorem Bs.best {S : List ByteArray} {k G : Nat} {T : ByteArray} (h : Bs S k G T) (hG : Slt.Good S) : bestR S [] (-1) = ⟨k, G, T, 0⟩ := by
  obtain ⟨l1, l2, l3⟩ := h.load hG
  have hg := h.g1
  unfold bestR
  rw [if_pos (hG.chk (by omega))]
  show bstep S [] (-1) (bstep S [] (-1) ⟨0, 0, ⟨#[]⟩, 6⟩ ((0 : Nat) : Int)) ((1 : Nat) : Int) = _
  have hk := h.kk
  obtain rfl | rfl : k = 0 ∨ k = 1 := by omega
  · have e : bstep S [] (-1) ⟨0, 0, ⟨#[]⟩, 6⟩ ((0 : Nat) : Int) = ⟨((0 : Nat) : Int), G, T, 0⟩ := by
      unfold bstep; rw [l1, l2, l3, if_pos ⟨rfl, by show (0 : Int) < _; omega⟩]
    rw [e]
    unfold bstep
    rw [if_neg fun x => by have := h.other 1 (by omega) (by omega) x.1; have := x.2; dsimp only at this; omega]
  · unfold bstep
    rw [l1, l2, l3, if_pos]
    refine ⟨rfl, ?_⟩
    by_cases hc : loadDE S [] (-1) ((0 : Nat) : Int) = 0 ∧ (⟨0, 0, ⟨#[]⟩, 6⟩ : Bst).g < loadDG S [] (-1) ((0 : Nat) : Int)
    · rw [if_pos hc]
      exact h.other 0 (by omega) (by omega) hc.1
    · rw [if_neg hc]
      show (0 : Int) < _
      omega
theorem Ns.best {S : List ByteArray} (h : Ns S) (hG : Slt.Good S) : bestR S [] (-1) = ⟨0, 0, ⟨#[]⟩, 6⟩ := by
  unfold bestR
  rw [if_pos (hG.chk (by omega))]
  show bstep S [] (-1) (bstep S [] (-1) ⟨0, 0, ⟨#[]⟩, 6⟩ ((0 : Nat) : Int)) ((1 : Nat) : Int) = _
  have e : bstep S [] (-1) ⟨0, 0, ⟨#[]⟩, 6⟩ ((0 : Nat) : Int) = ⟨0, 0, ⟨#[]⟩, 6⟩ := by unfold bstep; rw [if_neg fun x => h 0 (by omega) x.1]
  rw [e]
  unfold bstep
  rw [if_neg fun x => h 1 (by omega) x.1]
theorem ns_new : Ns (newS 24) := fun i hi => by
  obtain ⟨a, b, c⟩ := good_newS (n := 24) (by omega) (by omega)
  rw [(load_bad a hi (by rw [c _ (by rw [b]; omega)]; exact zero_whole)).1]
  decide

/-- Where the slots' sectors are the same, so is what they tell. -/
theorem Bs.same {S S' : List ByteArray} {k G : Nat} {T : ByteArray} (h : Bs S k G T) (hG : Slt.Good S) (hG' : Slt.Good S') (hl : S'.length = S.length) (ht : topL S ≤ topL S') (hs : ∀ q, q < 2 * (S.length / 4) → secAt S' q = secAt S q) : Bs S' k G T := by
  have hk := h.kk
  obtain ⟨s, hL⟩ := h.lies
  have hb : ∀ i, i < 2 → (i + 1) * (S.length / 4) ≤ 2 * (S.length / 4) := fun i hi => Nat.mul_le_mul_right _ (by omega)
  refine ⟨hk, ⟨s, hL.g1, hL.g2, hL.s1, hL.s2, hL.sz, fun i hi => ?_⟩, by rw [hl]; exact h.cnt, Int.le_trans h.top ht, fun i hi hne => ?_⟩
  · rw [hl, hs _ (by have h1 := hb k hk; have h2 := h.cnt; rw [Nat.succ_mul] at h1; omega)]
    exact hL.sec i hi
  · obtain ⟨e1, e2, -⟩ := slot_same hG hG' hl hi fun q h1 h2 => hs q (Nat.lt_of_lt_of_le h2 (hb i hi))
    rw [e1, e2]
    exact h.other i hi hne

theorem len_tot (M : List ByteArray) : M.length ≤ tot M := by
  induction M with
  | nil => exact Nat.le_refl _
  | cons t M ih => have := cnt_pos t; rw [List.length_cons, tot]; omega

/-- A store that is not live: what is opened. -/
def NL (un : ByteArray → List ByteArray) (S : List ByteArray) (st : Nat) (F : List ByteArray) : Prop :=
  SI S st ∧ ((Ns S ∧ un ⟨#[]⟩ = F) ∨ ∃ k G T M, Bs S k G T ∧ scanDL S [] (-1) G = M ∧ un T ++ M = F)
theorem nl_new (un : ByteArray → List ByteArray) : NL un (newS 24) 1 (un ⟨#[]⟩) := ⟨si_new, .inl ⟨ns_new, rfl⟩⟩

/-- A live one. -/
structure LV (S : List ByteArray) (st k G : Nat) (T : ByteArray) (M : List ByteArray) : Prop where
  si : SI S st
  bs : Bs S k G T
  g2 : G ≤ 256
  laid : LaidP S 12 G M
  rest : RestP S (12 + tot M) G
  sz : ∀ t ∈ M, (t.size : Int) ≤ 16000
  fit : 12 + tot M ≤ 24

section
variable {un : ByteArray → List ByteArray} {S : List ByteArray} {st k G : Nat} {T : ByteArray} {M : List ByteArray}
theorem LV.scan_ (h : LV S st k G T M) {S' : List ByteArray} (hG' : Slt.Good S') (hl : S'.length = S.length) (hlaid : LaidP S' 12 G M) (hR : ¬ errJ 2 G (M.length : Nat) (drainL (Slt.part S' (12 + tot M) S'.length)) = 0) : scanDL S' [] (-1) G = M := by
  have hl2 := h.si.len
  have hfit := h.fit
  have hg2 := h.g2
  have := len_tot M
  exact (scan_laid hG' (b := 12) (by rw [hl, hl2]) h.bs.g1 (by omega) hlaid h.sz (by omega) (by omega) hR).1
theorem LV.nl (h : LV S st k G T M) : NL un S st (un T ++ M) := by
  have hl2 := h.si.len
  have hfit := h.fit
  exact ⟨h.si, .inr ⟨k, G, T, M, h.bs, h.scan_ h.si.good rfl h.laid (h.rest.join (by omega) 2 _), rfl⟩⟩

/-- A save into the other slot. -/
structure Sv (un : ByteArray → List ByteArray) (S : List ByteArray) (st k : Nat) (F : List ByteArray) : Prop where
  si : SI S st
  kk : k < 2
  base : (Ns S ∧ k = 0 ∧ un ⟨#[]⟩ = F) ∨ ∃ k0 G T M, Bs S k0 G T ∧ scanDL S [] (-1) G = M ∧ un T ++ M = F ∧ k + k0 = 1
theorem Sv.nl {F : List ByteArray} (h : Sv un S st k F) : NL un S st F := by
  rcases h.base with ⟨a, -, b⟩ | ⟨k0, G, T, M, a, b, c, -⟩
  · exact ⟨h.si, .inl ⟨a, b⟩⟩
  · exact ⟨h.si, .inr ⟨k0, G, T, M, a, b, c⟩⟩

theorem Sv.may {F : List ByteArray} (h : Sv un S st k F) {g : Nat} {t : ByteArray} (hg : topL S < g) (hs : g + 6 ≤ 256) (ht : cntN t.size ≤ 6) : May S k g t := by
  have := topL_nonneg S
  have hl := h.si.len
  exact ⟨h.si.good, h.kk, by omega, by omega, by unfold cntN at ht; omega, by omega⟩

/-- What is left of it. -/
theorem Sv.cut {F : List ByteArray} (h : Sv un S st k F) {g : Nat} {t : ByteArray} (hg : topL S < g) (hs : g + 6 ≤ 256) (ht : cntN t.size ≤ 6) (hF : un t = F) {S' : List ByteArray} {j : Nat} {c : Nat → Nat}
    (hc : Cut S S' (k * (S.length / 4)) g j (cntN t.size) (bodyAt 1 g 0 (cntN t.size) (loadT t)) c) :
    NL un S' (g + cntN t.size) F ∧ (Lies S' (k * (S.length / 4)) g g t → LV S' (g + cntN t.size) k g t []) := by
  have hm := h.may hg hs ht
  have hl := h.si.len
  have hl' := hc.len
  have hk := h.kk
  have h0 := topL_nonneg S
  have hcp := cnt_pos t
  have hk6 : k * (S.length / 4) + 6 ≤ 12 := by rw [hl]; omega
  have e24 : S.length / 4 = 6 := by rw [hl]
  obtain ⟨hSI, htop⟩ := h.si.cut hc hg (by omega) (fun i _ => .inl (by rw [at_gen (by omega)]; exact Int.le_refl _)) (st' := g + cntN t.size) (Nat.le_refl _)
  have hother : ∀ i, i < 2 → i ≠ k → loadDE S' [] (-1) (i : Nat) = loadDE S [] (-1) (i : Nat) ∧ loadDG S' [] (-1) (i : Nat) = loadDG S [] (-1) (i : Nat) ∧ loadDT S' [] (-1) (i : Nat) = loadDT S [] (-1) (i : Nat) := fun i hi hne =>
    slot_same h.si.good hc.good hl' hi fun q h1 h2 => hc.out (by rw [Nat.succ_mul] at h2; rw [e24] at h1 h2; omega) (by rw [Nat.succ_mul] at h2; rw [e24] at h1 h2 ⊢; omega)
  have hjour : ∀ q, 12 ≤ q → q < 24 → secAt S' q = secAt S q := fun q h1 h2 => hc.out (by omega) (by omega)
  have hnew : Lies S' (k * (S.length / 4)) g g t → LV S' (g + cntN t.size) k g t [] := fun hL => by
    have htg : (g : Int) ≤ topL S' := by
      have := topL_ge (hc.good.sec_mem (q := k * (S.length / 4) + 0) (by omega))
      rw [hL.sec 0 (by omega), (hc.sheet (i := 0) (by omega) (by omega)).top] at this
      exact this
    refine ⟨hSI, ⟨hk, ⟨g, by rw [hl']; exact hL⟩, by rw [hl']; exact hm.fits, htg, fun i hi hne hE => ?_⟩, by omega, ⟨fun i hi => by simp [recs] at hi⟩, fun q h1 h2 hw => ?_, by simp, by simp [tot]⟩
    · obtain ⟨e1, e2, -⟩ := hother i hi hne
      rw [e1] at hE
      rw [e2]
      rcases h.base with ⟨a, -, -⟩ | ⟨k0, G, T, M, a, -, -, d⟩
      · exact absurd hE (a i hi)
      · obtain rfl : i = k0 := by omega
        have := (a.load h.si.good).2.1
        have := a.top
        omega
    · have h3 : 12 ≤ q := by omega
      rw [hjour q h3 (by omega)] at hw ⊢
      have := h.si.old q (by omega) hw
      omega
  refine ⟨?_, hnew⟩
  have hscan : ∀ g', scanDL S' [] (-1) g' = scanDL S [] (-1) g' := fun g' => scan_same h.si.good hc.good hl' (fun q h1 h2 => hjour q (by omega) (by omega)) g'
  by_cases hE : loadDE S' [] (-1) k = 0
  · rcases save_slot h.si hm hg hs hc hE with hL | ⟨d1, d2⟩
    · have hLV := hnew hL
      have := hLV.nl (un := un)
      rw [List.append_nil, hF] at this
      exact this
    · rcases h.base with ⟨a, -, -⟩ | ⟨k0, G, T, M, a, b, e, d⟩
      · exact absurd d1 (a k hk)
      · obtain ⟨s, hLs⟩ := a.lies
        have hk0 := a.kk
        refine ⟨hSI, .inr ⟨k0, G, T, M, ⟨hk0, ⟨s, hLs.g1, hLs.g2, hLs.s1, hLs.s2, hLs.sz, fun i hi => ?_⟩, by rw [hl']; exact a.cnt, Int.le_trans a.top htop, fun i hi hne hEi => ?_⟩, by rw [hscan]; exact b, e⟩⟩
        · have := a.cnt
          rw [hl', hc.out (by rw [e24] at this ⊢; omega) (by rw [e24] at this ⊢; omega)]
          exact hLs.sec i hi
        · obtain rfl : i = k := by omega
          rw [d2]
          exact a.other i hi hne d1
  · rcases h.base with ⟨a, b, e⟩ | ⟨k0, G, T, M, a, b, e, d⟩
    · refine ⟨hSI, .inl ⟨fun i hi => ?_, e⟩⟩
      by_cases hik : i = k
      · rw [hik]; exact hE
      · rw [(hother i hi hik).1]; exact a i hi
    · obtain ⟨s, hLs⟩ := a.lies
      have hk0 := a.kk
      refine ⟨hSI, .inr ⟨k0, G, T, M, ⟨hk0, ⟨s, hLs.g1, hLs.g2, hLs.s1, hLs.s2, hLs.sz, fun i hi => ?_⟩, by rw [hl']; exact a.cnt, Int.le_trans a.top htop, fun i hi hne hEi => ?_⟩, by rw [hscan]; exact b, e⟩⟩
      · have := a.cnt
        rw [hl', hc.out (by rw [e24] at this ⊢; omega) (by rw [e24] at this ⊢; omega)]
        exact hLs.sec i hi
      · obtain rfl : i = k := by omega
        exact absurd hEi hE

/-- What a save answers, and what is left. -/
theorem Sv.save {F : List ByteArray} (h : Sv un S st k F) {g : Nat} {t : ByteArray} (hg : topL S < g) (hs : g + 6 ≤ 256) (ht : cntN t.size ≤ 6) (hF : un t = F) (f : Int) (hf : -1 ≤ f) (zs : List Int) :
    ∃ S2 W2 f2 p2 st2 e2, saveR S [] f k g g t = ⟨S2, W2, f2, p2, st2, e2⟩ ∧ chk S2 W2 f2 = 0 ∧ -1 ≤ f2 ∧
      ((e2 = 0 ∧ W2 = [] ∧ st2 = ((g + cntN t.size : Nat) : Int) ∧ LV S2 (g + cntN t.size) k g t []) ∨ (e2 = 21 ∧ NL un (goAll S2 W2 (cutAt zs)) (g + cntN t.size) F)) := by
  have hm := h.may hg hs ht
  obtain ⟨j, f', hj, hf', -, hx | ⟨-, hck, hx⟩⟩ := save_form hm f hf
  · have hwt : (wrs (bodiesT 1 g 0 t) g (k * (S.length / 4))).take (cntN t.size) = wrs (bodiesT 1 g 0 t) g (k * (S.length / 4)) := List.take_of_length_le (by rw [wrs_length, bodiesT_len]; omega)
    have hc := cut_save hm (fun _ => 64) (fun _ => Nat.le_refl _) (cntN t.size) (Nat.le_refl _)
    rw [hwt] at hc
    have hbd := hm.bound
    refine ⟨_, _, _, _, _, _, hx, hc.good.chk hf', hf', .inl ⟨rfl, rfl, by push_cast; rfl, (h.cut hg hs ht hF hc).2 ?_⟩⟩
    refine ⟨hm.g1, by omega, hm.g1, hm.g2, hm.sz, fun i hi => ?_⟩
    rw [hc.sec _ (by omega), if_pos (by omega), show k * (S.length / 4) + i - k * (S.length / 4) = i by omega]
    exact torn_64 (sheetB_size _ _ (by rw [body52 hi]; omega)) ((secOk_iff S).1 h.si.good.ok _ (h.si.good.sec_mem (by omega)))
  · exact ⟨_, _, _, _, _, _, hx, hck, hf', .inr ⟨rfl, (h.cut hg hs ht hF (cut_save hm (cutAt zs) (fun i => cutAt_le zs i) j hj)).1⟩⟩

/-- A record more. -/
theorem LV.more (h : LV S st k G T M) {t : ByteArray} (ht : (t.size : Int) ≤ 16000) (hf : 12 + tot M + cntN t.size ≤ 24) (hs : st + 12 ≤ 256) {S' : List ByteArray} {j : Nat} {c : Nat → Nat}
    (hc : Cut S S' (12 + tot M) st j (cntN t.size) (bodyAt 2 G M.length (cntN t.size) (loadT t)) c) :
    SI S' (st + cntN t.size) ∧ Bs S' k G T ∧ LaidP S' 12 G M ∧ ((∀ i, i < cntN t.size → secAt S' (12 + tot M + i) = sheetB (st + i) (bodyAt 2 G M.length (cntN t.size) (loadT t) i)) → LV S' (st + cntN t.size) k G T (M ++ [t])) := by
  have hl := h.si.len
  have hl' := hc.len
  have hg2 := h.g2
  have hsp := h.si.pos
  have htl := h.si.top_lt
  have hts := tot_snoc M t
  have hrl := recs_len G M 0
  obtain ⟨hSI, htop⟩ := h.si.cut hc htl (by omega) (fun i _ => .inr (by rw [at_gen (by omega)]; exact h.bs.top)) (st' := st + cntN t.size) (Nat.le_refl _)
  have hbs := h.bs.same h.si.good hc.good hl' htop fun q hq => hc.out (by rw [hl] at hq ⊢; omega) (by rw [hl] at hq; omega)
  refine ⟨hSI, hbs, ⟨fun i hi => ?_⟩, fun hall => ?_⟩
  · obtain ⟨s, a1, a2, a3⟩ := h.laid.sec i hi
    exact ⟨s, a1, a2, by rw [hc.out (by omega) (by omega), a3]⟩
  · have hP : PutP S (12 + tot M) G M.length st t S' := ⟨hc.good, hl', hall, fun q hq hn => hc.out hq hn⟩
    refine ⟨hSI, hbs, hg2, hP.laid h.laid (by omega) (by omega) (by omega), ?_, fun x hx => ?_, by omega⟩
    · have := hP.rest h.rest
      rwa [hts, ← Nat.add_assoc]
    · rcases List.mem_append.1 hx with hx | hx
      · exact h.sz x hx
      · rw [List.mem_singleton.1 hx]; exact ht

/-- What a record answers, and what is left. -/
theorem LV.put (h : LV S st k G T M) {t : ByteArray} (ht : (t.size : Int) ≤ 16000) (hs : st + 12 ≤ 256) (f : Int) (hf : -1 ≤ f) (zs : List Int) :
    ∃ S2 W2 f2 p2 st2 e2, Jrn.putR S [] f ((12 + tot M : Nat) : Int) G (M.length : Nat) (st : Nat) t = ⟨S2, W2, f2, p2, st2, e2⟩ ∧ chk S2 W2 f2 = 0 ∧ -1 ≤ f2 ∧
      ((e2 = 0 ∧ W2 = [] ∧ p2 = ((12 + tot (M ++ [t]) : Nat) : Int) ∧ st2 = ((st + cntN t.size : Nat) : Int) ∧ LV S2 (st + cntN t.size) k G T (M ++ [t])) ∨
       (e2 = 21 ∧ (NL un (goAll S2 W2 (cutAt zs)) (st + cntN t.size) (un T ++ M) ∨ NL un (goAll S2 W2 (cutAt zs)) (st + cntN t.size) (un T ++ (M ++ [t])))) ∨
       (e2 = 7 ∧ S2 = S ∧ W2 = [] ∧ f2 = f ∧ p2 = ((12 + tot M : Nat) : Int) ∧ st2 = st)) := by
  have hl := h.si.len
  have hg1 := h.bs.g1
  have hg2 := h.g2
  have hfit := h.fit
  have hsp := h.si.pos
  have hlt := len_tot M
  have hts := tot_snoc M t
  have hin : Jrn.putR S [] f ((12 + tot M : Nat) : Int) G (M.length : Nat) (st : Nat) t = pourR S [] f ((12 + tot M : Nat) : Int) S.length 2 G (M.length : Nat) (st : Nat) t := by
    unfold Jrn.putR
    rw [if_pos (by rw [h.si.good.sz, hl]; omega)]
  rw [hin]
  by_cases hfi : 12 + tot M + cntN t.size ≤ 24
  · have hm : MayP S (12 + tot M) G M.length st t := ⟨h.si.good, hg1, by omega, by omega, hsp, by omega, ht, by rw [hl]; exact hfi⟩
    obtain ⟨j, f', hj, hf', -, hx | ⟨-, hck, hx⟩⟩ := pour_form hm f hf
    · have hc := cut_put hm (fun _ => 64) (fun _ => Nat.le_refl _) (cntN t.size) (Nat.le_refl _)
      obtain ⟨-, -, -, hall⟩ := h.more ht hfi hs hc
      refine ⟨_, _, _, _, _, _, hx, hc.good.chk hf', hf', .inl ⟨rfl, rfl, by rw [hts]; push_cast; rw [Int.add_assoc], by push_cast; rfl, hall fun i hi => ?_⟩⟩
      exact (put_goes hm).new_ i hi
    · refine ⟨_, _, _, _, _, _, hx, hck, hf', .inr (.inl ⟨rfl, ?_⟩)⟩
      have hc := cut_put hm (cutAt zs) (fun i => cutAt_le zs i) j hj
      generalize goAll S ((wrs (bodiesT 2 G M.length t) st (12 + tot M)).take j) (cutAt zs) = S' at *
      have hl' := hc.len
      have htl := h.si.top_lt
      obtain ⟨hSI, hbs, hlaid, hmore⟩ := h.more ht hfi hs hc
      by_cases hall : ∀ i, i < cntN t.size → secAt S' (12 + tot M + i) = sheetB (st + i) (bodyAt 2 G M.length (cntN t.size) (loadT t) i)
      · exact .inr (hmore hall).nl
      · left
        refine ⟨hSI, .inr ⟨k, G, T, M, hbs, h.scan_ hc.good hl' hlaid fun he => ?_, rfl⟩⟩
        obtain ⟨o1, o2, o3, o4⟩ := errJ_some he
        have hnew : ∀ i, i < (ofS (drainL (Slt.part S' (12 + tot M) S'.length))).toNat → 12 + tot M + i < 24 ∧ i < cntN t.size ∧ secAt S' (12 + tot M + i) = sheetB (st + i) (bodyAt 2 G M.length (cntN t.size) (loadT t) i) ∧ (drainL (Slt.part S' (12 + tot M) S'.length))[i]? = some (openR (secAt S' (12 + tot M + i))).2.1 := fun i hi => by
          obtain ⟨s, hs1, hgs⟩ := o4 i hi
          have hs2 := hs1
          obtain ⟨hj1, hw, rfl⟩ := drainL_get hs1
          rw [part_length (Nat.le_refl _)] at hj1
          have e : (Slt.part S' (12 + tot M) S'.length)[i] = secAt S' (12 + tot M + i) := by rw [part_get hj1 (Nat.le_refl _), secAt_eq]
          rw [e] at hw hgs hs2
          obtain ⟨x, y, hx1, hxb, -⟩ := h.si.sec_top (q := 12 + tot M + i) (by omega)
          rcases hc.cases (q := 12 + tot M + i) (by omega) hx1 hxb (by omega) with e1 | ⟨a1, a2, e1 | ⟨e1, hy⟩⟩
          · rw [e1] at hw hgs
            exact absurd hgs (h.rest _ (by omega) (by omega) hw)
          · rw [show 12 + tot M + i - (12 + tot M) = i by omega] at e1
            exact ⟨by omega, by omega, e1, hs2⟩
          · have := e1.whole.1 hw
            omega
        obtain ⟨h24, hk0, e0, hs0⟩ := hnew 0 (by omega)
        have hof : ofS (drainL (Slt.part S' (12 + tot M) S'.length)) = cntN t.size := by
          unfold ofS
          rw [hs0, e0, open_body (by omega) (by omega) (at52 hk0)]
          exact at_oA (cnt_lt ht) 0
        exact hall fun i hi => (hnew i (by rw [hof]; omega)).2.2.1
  · have hx := pour_full (p := 12 + tot M) (g := G) (n := M.length) h.si.good ⟨by omega, hg1, by omega, by omega⟩ ht (by omega) (by omega) f hf (st : Nat)
    exact ⟨_, _, _, _, _, _, hx, h.si.good.chk hf, hf, .inr (.inr ⟨rfl, rfl, rfl, rfl, rfl, rfl⟩)⟩
end

end Go.Proofs.YtkglolnghihegaaGreatDoor.Sto

/- Plain facts on stores: texts that are packed as one, and unpacked; what is saved next. -/
namespace Go.Proofs.YtkglolnghihegaaGreatDoor.Sto
open Go.RowKit Go.Proofs.YtkglolnghihegaaGreatDoor.Dsk Go.Proofs.YtkglolnghihegaaGreatDoor.Sht Go.Proofs.YtkglolnghihegaaGreatDoor.Shf Go.Proofs.YtkglolnghihegaaGreatDoor.Slt Go.Proofs.YtkglolnghihegaaGreatDoor.Oct Go.Proofs.YtkglolnghihegaaGreatDoor.Jrn

/-- Texts packed: bytes, and as a text. -/
def encT : List ByteArray → List UInt8
  | [] => []
  | t :: ts => beB 2 t.size ++ (t.data.toList ++ encT ts)
def pk (F : List ByteArray) : ByteArray := ⟨(encT F).toArray⟩
/-- What is unpacked: at most r texts, from a cursor on. -/
def unL (s : ByteArray) : Nat → Int → Int → List ByteArray
  | 0, _, _ => []
  | r + 1, p, e => if 0 < leftR s p e then (takeR s p e).2.2 :: unL s r (takeR s p e).1 (takeR s p e).2.1 else []
def un (s : ByteArray) : List ByteArray := unL s 1000 0 0

theorem encT_snoc (ts : List ByteArray) (t : ByteArray) : encT (ts ++ [t]) = encT ts ++ (beB 2 t.size ++ t.data.toList) := by
  induction ts with
  | nil => simp [encT]
  | cons a ts ih => simp [encT, ih, List.append_assoc]
theorem encT_take (F : List ByteArray) {i : Nat} (hi : i < F.length) : encT (F.take (i + 1)) = encT (F.take i) ++ (beB 2 F[i].size ++ F[i].data.toList) := by
  rw [List.take_succ_eq_append_getElem hi, encT_snoc]
theorem pk_size (F : List ByteArray) : (pk F).size = (encT F).length := by
  show (encT F).toArray.size = _
  rw [List.size_toArray]
theorem pk_nil : pk [] = ⟨#[]⟩ := rfl
theorem encT_mono (F G : List ByteArray) : (encT F).length ≤ (encT (F ++ G)).length := by
  induction F with
  | nil => simp [encT]
  | cons a F ih => simp only [encT, List.cons_append, List.length_append] at ih ⊢; omega

theorem numAt_beB_ (s : ByteArray) (p k x : Nat) (r : List UInt8) (hx : x < 256 ^ k) (h : s.data.toList.drop p = beB k x ++ r) : numAt s p k = x := by
  unfold numAt
  rw [Int.toNat_natCast, h, List.take_append_of_le_length (by rw [beB_length]; omega), List.take_of_length_le (by rw [beB_length]; omega), Sht.natBE_beB, Nat.mod_eq_of_lt hx]
theorem size_of_drop_ {s : ByteArray} {p : Nat} {l : List UInt8} (hp : p ≤ s.size) (h : s.data.toList.drop p = l) : s.size = p + l.length := by
  have : l.length = s.size - p := by rw [← h, List.length_drop]; rfl
  omega

theorem unL_enc (s : ByteArray) : ∀ (ts : List ByteArray) (p r : Nat), p ≤ s.size → (∀ t ∈ ts, t.size ≤ 60000) → s.data.toList.drop p = encT ts → ts.length ≤ r → unL s r p 0 = ts := by
  intro ts
  induction ts with
  | nil =>
    intro p r hp _ h _
    have hs := size_of_drop_ hp h
    have h0 : leftR s p 0 = 0 := by unfold leftR; rw [if_pos (by omega)]; simp [encT] at hs; omega
    cases r with
    | zero => rfl
    | succ r => unfold unL; rw [if_neg (by omega)]
  | cons t ts ih =>
    intro p r hp ht h hr
    rw [List.length_cons] at hr
    obtain ⟨r, rfl⟩ : ∃ r', r = r' + 1 := ⟨r - 1, by omega⟩
    have h60 := ht t (by simp)
    have hsz := size_of_drop_ hp h
    have h3 : t.data.toList.length = t.size := rfl
    simp only [encT, List.length_append, beB_length, h3] at hsz
    have hl : 0 < leftR s p 0 := by unfold leftR; rw [if_pos (by omega)]; omega
    have hnum : numAt s p 2 = t.size := numAt_beB_ s p 2 t.size _ (by omega) h
    have hN : numR s p 0 2 = ((p : Int) + 2, 0, (t.size : Int)) := by
      unfold numR
      rw [if_pos rfl, if_pos (by omega), if_neg (by omega), show (2 : Int).toNat = 2 from rfl, hnum]
    have hT : takeR s p 0 = ((p : Int) + 2 + t.size, 0, t) := by
      unfold takeR
      rw [hN]
      dsimp only
      rw [if_pos rfl, if_neg (by omega)]
      congr 2
      rw [show ((p : Int) + 2).toNat = p + 2 from by omega, show ((p : Int) + 2 + t.size).toNat = p + 2 + t.size from by omega]
      apply ByteArray.ext
      apply Array.toList_inj.1
      rw [ByteArray.data_extract, Array.toList_extract]
      have : s.data.toList.drop (p + 2) = t.data.toList ++ encT ts := by
        rw [← List.drop_drop, h, encT, List.drop_append_of_le_length (by rw [beB_length]; omega), List.drop_of_length_le (by rw [beB_length]; omega)]; rfl
      rw [List.extract_eq_take_drop, this, show p + 2 + t.size - (p + 2) = t.data.toList.length from by rw [h3]; omega, List.take_left]
    have hdrop : s.data.toList.drop (p + 2 + t.size) = encT ts := by
      rw [show p + 2 + t.size = p + (2 + t.size) from by omega, ← List.drop_drop, h, encT, ← List.append_assoc, List.drop_append_of_le_length (by simp [beB_length, h3]), List.drop_of_length_le (by simp [beB_length, h3])]; rfl
    unfold unL
    rw [if_pos hl, hT]
    dsimp only
    have := ih (p + 2 + t.size) r (by omega) (fun u hu => ht u (by simp [hu])) hdrop (by omega)
    rw [show ((p : Int) + 2 + (t.size : Int)) = ((p + 2 + t.size : Nat) : Int) by push_cast; rfl, this]
/-- What is packed is unpacked. -/
theorem un_pk {F : List ByteArray} (h : ∀ t ∈ F, t.size ≤ 60000) (hl : F.length ≤ 1000) : un (pk F) = F := by
  have := unL_enc (pk F) F 0 1000 (Nat.zero_le _) h (by rw [List.drop_zero]; rfl) hl
  exact this
theorem un_nil : un ⟨#[]⟩ = [] := un_pk (F := []) (by simp) (by simp)

/-- What is saved next: into slot 0, if there is none, and else into the other one. -/
theorem NL.sv {f : ByteArray → List ByteArray} {S : List ByteArray} {st : Nat} {F : List ByteArray} (h : NL f S st F) :
    (bestR S [] (-1) = ⟨0, 0, ⟨#[]⟩, 6⟩ ∧ f ⟨#[]⟩ = F ∧ Sv f S st 0 F) ∨ ∃ k G T, k < 2 ∧ bestR S [] (-1) = ⟨(k : Nat), (G : Nat), T, 0⟩ ∧ (1 ≤ G ∧ (T.size : Int) ≤ 16000) ∧ f T ++ scanDL S [] (-1) G = F ∧ Sv f S st (1 - k) F := by
  obtain ⟨hS, ⟨a, b⟩ | ⟨k, G, T, M, a, b, c⟩⟩ := h
  · exact .inl ⟨a.best hS.good, b, hS, by omega, .inl ⟨a, rfl, b⟩⟩
  · have hk := a.kk
    obtain ⟨s, hLs⟩ := a.lies
    exact .inr ⟨k, G, T, hk, a.best hS.good, ⟨a.g1, hLs.sz⟩, by rw [b]; exact c, hS, by omega, .inr ⟨k, G, T, M, a, b, c, by omega⟩⟩
theorem LV.sv {f : ByteArray → List ByteArray} {S : List ByteArray} {st k G : Nat} {T : ByteArray} {M : List ByteArray} (h : LV S st k G T M) : Sv f S st (1 - k) (f T ++ M) := by
  have hk := h.bs.kk
  obtain ⟨hS, hN⟩ := h.nl (un := f)
  refine ⟨hS, by omega, .inr ⟨k, G, T, M, h.bs, ?_, rfl, by omega⟩⟩
  exact h.scan_ h.si.good rfl h.laid (h.rest.join (by have := h.fit; have := h.si.len; omega) 2 _)

end Go.Proofs.YtkglolnghihegaaGreatDoor.Sto

/- What Open, Save and Log of a store answer, as plain functions; and what they come to where the power goes. -/
namespace Go.Proofs.YtkglolnghihegaaGreatDoor.Sto
open Go.RowKit Go.Proofs.YtkglolnghihegaaGreatDoor.Dsk Go.Proofs.YtkglolnghihegaaGreatDoor.Sht Go.Proofs.YtkglolnghihegaaGreatDoor.Shf Go.Proofs.YtkglolnghihegaaGreatDoor.Slt Go.Proofs.YtkglolnghihegaaGreatDoor.Oct Go.Proofs.YtkglolnghihegaaGreatDoor.Jrn

/-- The numbers of a state, but for its disk. -/
structure Nm where
  slot : Int
  gen : Int
  stamp : Int
  at_ : Int
  no : Int
  live : Bool
/-- A state, and an error. -/
structure Std where
  S : List ByteArray
  V : List Wr
  f : Int
  x : Nm
  e : Int

/-- What Open tells. -/
def opnE (S : List ByteArray) (V : List Wr) (f : Int) : Int := if chk S V f = 0 then (if 1099511627776 ≤ topD S V f then 13 else 0) else 2
def opnX (S : List ByteArray) (V : List Wr) (f : Int) : Nm :=
  if (bestR S V f).e = 0 then ⟨(bestR S V f).z, (bestR S V f).g, topD S V f + 1, scanDA S V f (bestR S V f).g, (scanDL S V f (bestR S V f).g).length, false⟩
  else ⟨1, 0, topD S V f + 1, 2 * sizR S.length, 0, false⟩
def opnT (S : List ByteArray) (V : List Wr) (f : Int) : ByteArray := if (bestR S V f).e = 0 then (bestR S V f).t else ⟨#[]⟩
def opnL (S : List ByteArray) (V : List Wr) (f : Int) : List ByteArray := if (bestR S V f).e = 0 then scanDL S V f (bestR S V f).g else []
/-- What Save leaves. -/
def savX (S : List ByteArray) (V : List Wr) (f : Int) (x : Nm) (t : ByteArray) : Std :=
  if x.slot = 0 ∨ x.slot = 1 then
    (if (saveR S V f (1 - x.slot) x.stamp x.stamp t).e = 0 then ⟨(saveR S V f (1 - x.slot) x.stamp x.stamp t).S, (saveR S V f (1 - x.slot) x.stamp x.stamp t).W, (saveR S V f (1 - x.slot) x.stamp x.stamp t).f, ⟨1 - x.slot, x.stamp, (saveR S V f (1 - x.slot) x.stamp x.stamp t).st, 2 * sizR (saveR S V f (1 - x.slot) x.stamp x.stamp t).S.length, 0, true⟩, 0⟩
     else ⟨(saveR S V f (1 - x.slot) x.stamp x.stamp t).S, (saveR S V f (1 - x.slot) x.stamp x.stamp t).W, (saveR S V f (1 - x.slot) x.stamp x.stamp t).f, x, (saveR S V f (1 - x.slot) x.stamp x.stamp t).e⟩)
  else ⟨S, V, f, x, 2⟩
/-- What Log leaves. -/
def logX (S : List ByteArray) (V : List Wr) (f : Int) (x : Nm) (t : ByteArray) : Std :=
  if x.live = true then
    (if (Jrn.putR S V f x.at_ x.gen x.no x.stamp t).e = 0 then ⟨(Jrn.putR S V f x.at_ x.gen x.no x.stamp t).S, (Jrn.putR S V f x.at_ x.gen x.no x.stamp t).W, (Jrn.putR S V f x.at_ x.gen x.no x.stamp t).f, ⟨x.slot, x.gen, (Jrn.putR S V f x.at_ x.gen x.no x.stamp t).st, (Jrn.putR S V f x.at_ x.gen x.no x.stamp t).p, x.no + 1, true⟩, 0⟩
     else ⟨(Jrn.putR S V f x.at_ x.gen x.no x.stamp t).S, (Jrn.putR S V f x.at_ x.gen x.no x.stamp t).W, (Jrn.putR S V f x.at_ x.gen x.no x.stamp t).f, x, (Jrn.putR S V f x.at_ x.gen x.no x.stamp t).e⟩)
  else ⟨S, V, f, x, 9⟩

/-- Texts that may be: short ones, no more than these, and they fit into a slot. -/
structure Ok (F : List ByteArray) (i : Nat) : Prop where
  sz : ∀ t ∈ F, t.size ≤ 60
  len : F.length ≤ i
  fit : cntN (pk F).size ≤ 6
theorem Ok.nil (i : Nat) : Ok [] i := ⟨by simp, Nat.zero_le _, by decide⟩
theorem Ok.more {F : List ByteArray} {i j : Nat} (h : Ok F i) (hij : i ≤ j) : Ok F j := ⟨h.sz, Nat.le_trans h.len hij, h.fit⟩
theorem Ok.un {F : List ByteArray} {i : Nat} (h : Ok F i) (hi : i ≤ 1000) : un (pk F) = F := un_pk (fun t ht => by have := h.sz t ht; omega) (Nat.le_trans h.len hi)

/-- What holds ahead of each step: the disk, the numbers, what was answered, and what was not yet. -/
def WI (i : Nat) (S : List ByteArray) (x : Nm) (H M : List ByteArray) : Prop :=
  Ok H i ∧ Ok M i ∧ ∃ st, st ≤ 1 + 6 * i ∧
    ((x.live = false ∧ (NL un S st H ∨ NL un S st M)) ∨
     (x.live = true ∧ M = H ∧ ∃ k G T R, x = ⟨(k : Nat), (G : Nat), (st : Nat), ((12 + tot R : Nat) : Int), (R.length : Nat), true⟩ ∧ LV S st k G T R ∧ un T ++ R = H))
theorem WI.good {i : Nat} {S : List ByteArray} {x : Nm} {H M : List ByteArray} (h : WI i S x H M) : Slt.Good S := by
  obtain ⟨-, -, st, -, ⟨-, h | h⟩ | ⟨-, -, k, G, T, R, -, h, -⟩⟩ := h
  · exact h.1.good
  · exact h.1.good
  · exact h.si.good
theorem wi_new (x : Nm) (hx : x.live = false) : WI 0 (newS 24) x [] [] :=
  ⟨Ok.nil 0, Ok.nil 0, 1, by omega, .inl ⟨hx, .inl (by have := nl_new un; rwa [un_nil] at this)⟩⟩

/-- Behind an act: it was answered; or the power went; or there was no room. -/
theorem sv_act {i st k : Nat} {S F : List ByteArray} (h : Sv un S st k F) (hF : Ok F i) (hi : i ≤ 24) (hst : st ≤ 1 + 6 * i) {g : Nat} (hg : topL S < g) (hg2 : g ≤ st) (x : Nm) (hxs : x.slot = 1 - (k : Nat)) (hxt : x.stamp = (g : Nat)) (f : Int) (hf : -1 ≤ f) (zs : List Int) :
    ∃ S2 W2 f2 x2 e2, savX S [] f x (pk F) = ⟨S2, W2, f2, x2, e2⟩ ∧ chk S2 W2 f2 = 0 ∧ -1 ≤ f2 ∧
      ((e2 = 0 ∧ W2 = [] ∧ WI (i + 1) S2 x2 F F) ∨ (e2 = 21 ∧ ∀ x3 : Nm, x3.live = false → WI (i + 1) (goAll S2 W2 (cutAt zs)) x3 F F)) := by
  have hk := h.kk
  obtain ⟨S2, W2, f2, p2, st2, e2, hs, hck, hf2, hcase⟩ := h.save hg (by omega) hF.fit (hF.un (by omega)) f hf zs
  have hfit := hF.fit
  have ek : 1 - x.slot = (k : Nat) := by omega
  unfold savX
  rw [if_pos (by omega), ek, hxt, hs]
  dsimp only
  rcases hcase with ⟨rfl, rfl, rfl, hL⟩ | ⟨rfl, hN⟩
  · rw [if_pos rfl]
    have hl := hL.si.len
    refine ⟨_, _, _, _, _, rfl, hck, hf2, .inl ⟨rfl, rfl, hF.more (by omega), hF.more (by omega), g + cntN (pk F).size, by omega, .inr ⟨rfl, rfl, k, g, pk F, [], ?_, hL, by rw [List.append_nil, hF.un (by omega)]⟩⟩⟩
    rw [hL.si.good.sz, hl]
    rfl
  · rw [if_neg (by decide)]
    exact ⟨_, _, _, _, _, rfl, hck, hf2, .inr ⟨rfl, fun x3 h3 => ⟨hF.more (by omega), hF.more (by omega), g + cntN (pk F).size, by omega, .inl ⟨h3, .inl hN⟩⟩⟩⟩

/-- What is opened, where it is not live: what was answered, or what was not; and it is saved. -/
theorem WI.open_ {i : Nat} {S : List ByteArray} {x : Nm} {H M : List ByteArray} (h : WI i S x H M) (hi : i ≤ 23) (hx : x.live = false) (f : Int) (hf : -1 ≤ f) (zs : List Int) :
    opnE S [] f = 0 ∧ ((opnT S [] f).size : Int) ≤ 16000 ∧ ∃ F, un (opnT S [] f) ++ opnL S [] f = F ∧ (F = H ∨ F = M) ∧ Ok F i ∧
      ∃ S2 W2 f2 x2 e2, savX S [] f (opnX S [] f) (pk F) = ⟨S2, W2, f2, x2, e2⟩ ∧ chk S2 W2 f2 = 0 ∧ -1 ≤ f2 ∧
        ((e2 = 0 ∧ W2 = [] ∧ WI (i + 1) S2 x2 F F) ∨ (e2 = 21 ∧ ∀ x3 : Nm, x3.live = false → WI (i + 1) (goAll S2 W2 (cutAt zs)) x3 F F)) := by
  obtain ⟨hH, hM, st, hst, ⟨-, hN⟩ | ⟨h1, -⟩⟩ := h
  · obtain ⟨F, hF, hFo, hNF⟩ : ∃ F, (F = H ∨ F = M) ∧ Ok F i ∧ NL un S st F := by
      rcases hN with hN | hN
      · exact ⟨H, .inl rfl, hH, hN⟩
      · exact ⟨M, .inr rfl, hM, hN⟩
    have hSI := hNF.1
    have hG := hSI.good
    have htl := hSI.top_lt
    have h0 := topL_nonneg S
    have hl := hSI.len
    obtain ⟨g, hg⟩ : ∃ g : Nat, (g : Int) = topL S + 1 := ⟨(topL S + 1).toNat, by omega⟩
    have etop : topD S [] f + 1 = (g : Nat) := by rw [fuse_top hG hf, hg]
    refine ⟨by unfold opnE; rw [if_pos (hG.chk hf), fuse_top hG hf, if_neg (by omega)], ?_⟩
    rcases hNF.sv with ⟨b1, b2, b3⟩ | ⟨k, G, T, hk, b1, ⟨-, b2⟩, b3, b4⟩
    · refine ⟨by unfold opnT; rw [fuse_best hG hf, b1, if_neg (by decide)]; decide, F, ?_, hF, hFo, sv_act b3 hFo (by omega) hst (g := g) (by omega) (by omega) _ ?_ ?_ f hf zs⟩
      · unfold opnT opnL
        rw [fuse_best hG hf, b1, if_neg (by decide), if_neg (by decide), List.append_nil]
        exact b2
      · unfold opnX
        rw [fuse_best hG hf, b1, if_neg (by decide)]
        rfl
      · unfold opnX
        rw [fuse_best hG hf, b1, if_neg (by decide)]
        exact etop
    · refine ⟨by unfold opnT; rw [fuse_best hG hf, b1, if_pos rfl]; exact b2, F, ?_, hF, hFo, sv_act b4 hFo (by omega) hst (g := g) (by omega) (by omega) _ ?_ ?_ f hf zs⟩
      · unfold opnT opnL
        rw [fuse_best hG hf, b1, if_pos rfl, if_pos rfl, (fuse_scan hG hf _).1]
        exact b3
      · unfold opnX
        rw [fuse_best hG hf, b1, if_pos rfl]
        show (k : Int) = 1 - ((1 - k : Nat) : Int)
        omega
      · unfold opnX
        rw [fuse_best hG hf, b1, if_pos rfl]
        exact etop
  · rw [hx] at h1; exact absurd h1 (by decide)

/-- All saved anew. -/
theorem WI.save_ {i : Nat} {S : List ByteArray} {x : Nm} {H M : List ByteArray} (h : WI i S x H M) (hi : i ≤ 23) (hx : x.live = true) (f : Int) (hf : -1 ≤ f) (zs : List Int) :
    M = H ∧ Ok H i ∧ ∃ S2 W2 f2 x2 e2, savX S [] f x (pk H) = ⟨S2, W2, f2, x2, e2⟩ ∧ chk S2 W2 f2 = 0 ∧ -1 ≤ f2 ∧
        ((e2 = 0 ∧ W2 = [] ∧ WI (i + 1) S2 x2 H H) ∨ (e2 = 21 ∧ ∀ x3 : Nm, x3.live = false → WI (i + 1) (goAll S2 W2 (cutAt zs)) x3 H H)) := by
  obtain ⟨hH, hM, st, hst, ⟨h1, -⟩ | ⟨-, rfl, k, G, T, R, rfl, hL, hU⟩⟩ := h
  · rw [hx] at h1; exact absurd h1 (by decide)
  · have hk := hL.bs.kk
    have hsv := hL.sv (f := un)
    rw [hU] at hsv
    exact ⟨rfl, hH, sv_act hsv hH (by omega) hst (g := st) hL.si.top_lt (Nat.le_refl _) _ (by show (k : Int) = 1 - ((1 - k : Nat) : Int); omega) rfl f hf zs⟩

/-- A record that is logged. -/
theorem WI.log_ {i : Nat} {S : List ByteArray} {x : Nm} {H M : List ByteArray} (h : WI i S x H M) (hi : i ≤ 23) (hx : x.live = true) {t : ByteArray} (ht : t.size ≤ 60) (hfit : cntN (pk (H ++ [t])).size ≤ 6) (f : Int) (hf : -1 ≤ f) (zs : List Int) :
    ∃ S2 W2 f2 x2 e2, logX S [] f x t = ⟨S2, W2, f2, x2, e2⟩ ∧ chk S2 W2 f2 = 0 ∧ -1 ≤ f2 ∧
        ((e2 = 0 ∧ W2 = [] ∧ WI (i + 1) S2 x2 (H ++ [t]) (H ++ [t])) ∨ (e2 = 21 ∧ ∀ x3 : Nm, x3.live = false → WI (i + 1) (goAll S2 W2 (cutAt zs)) x3 H (H ++ [t])) ∨ (e2 = 7 ∧ W2 = [] ∧ WI (i + 1) S2 x2 H H)) := by
  obtain ⟨hH, hM, st, hst, ⟨h1, -⟩ | ⟨-, rfl, k, G, T, R, rfl, hL, hU⟩⟩ := h
  · rw [hx] at h1; exact absurd h1 (by decide)
  · have hc2 : cntN t.size ≤ 2 := by unfold cntN; omega
    have hH2 : Ok (M ++ [t]) (i + 1) := ⟨fun y hy => by
      rcases List.mem_append.1 hy with hy | hy
      · exact hH.sz y hy
      · rw [List.mem_singleton.1 hy]; exact ht, by rw [List.length_append, List.length_singleton]; have := hH.len; omega, hfit⟩
    obtain ⟨S2, W2, f2, p2, st2, e2, hs, hck, hf2, hcase⟩ := hL.put (un := un) (t := t) (by omega) (by omega) f hf zs
    unfold logX
    dsimp only
    rw [if_pos rfl, hs]
    dsimp only
    rcases hcase with ⟨rfl, rfl, rfl, rfl, hL2⟩ | ⟨rfl, hN⟩ | ⟨rfl, rfl, rfl, rfl, -, -⟩
    · rw [if_pos rfl]
      refine ⟨_, _, _, _, _, rfl, hck, hf2, .inl ⟨rfl, rfl, hH2, hH2, st + cntN t.size, by omega, .inr ⟨rfl, rfl, k, G, T, R ++ [t], ?_, hL2, by rw [← List.append_assoc, hU]⟩⟩⟩
      rw [List.length_append, List.length_singleton]
      push_cast
      rfl
    · rw [if_neg (by decide)]
      rw [← List.append_assoc, hU] at hN
      exact ⟨_, _, _, _, _, rfl, hck, hf2, .inr (.inl ⟨rfl, fun x3 h3 => ⟨hH.more (by omega), hH2, st + cntN t.size, by omega, .inl ⟨h3, hN⟩⟩⟩)⟩
    · rw [if_neg (by decide)]
      exact ⟨_, _, _, _, _, rfl, hck, hf2, .inr (.inr ⟨rfl, rfl, hH.more (by omega), hH.more (by omega), st, by omega, .inr ⟨rfl, rfl, k, G, T, R, rfl, hL, hU⟩⟩)⟩

/-- What is opened at the end, behind a crash at which nothing waits. -/
theorem WI.last {i : Nat} {S : List ByteArray} {x : Nm} {H M : List ByteArray} (h : WI i S x H M) (hi : i ≤ 24) :
    opnE S [] (-1) = 0 ∧ ((opnT S [] (-1)).size : Int) ≤ 16000 ∧ ∃ F, un (opnT S [] (-1)) ++ opnL S [] (-1) = F ∧ (F = H ∨ F = M) ∧ Ok F i := by
  obtain ⟨F, st, hst, hF, hNF, hFo⟩ : ∃ F st, st ≤ 1 + 6 * i ∧ (F = H ∨ F = M) ∧ NL un S st F ∧ Ok F i := by
    obtain ⟨hH, hM, st, hst, ⟨-, hN | hN⟩ | ⟨-, rfl, k, G, T, R, rfl, hL, hU⟩⟩ := h
    · exact ⟨H, st, hst, .inl rfl, hN, hH⟩
    · exact ⟨M, st, hst, .inr rfl, hN, hM⟩
    · exact ⟨M, st, hst, .inl rfl, by have := hL.nl (un := un); rwa [hU] at this, hM⟩
  have hSI := hNF.1
  have hG := hSI.good
  have htl := hSI.top_lt
  refine ⟨by unfold opnE; rw [if_pos (hG.chk (by omega)), fuse_top hG (by omega), if_neg (by omega)], ?_⟩
  rcases hNF.sv with ⟨b1, b2, -⟩ | ⟨k, G, T, -, b1, ⟨-, b2⟩, b3, -⟩
  · refine ⟨by unfold opnT; rw [b1, if_neg (by decide)]; decide, F, ?_, hF, hFo⟩
    unfold opnT opnL
    rw [b1, if_neg (by decide), if_neg (by decide), List.append_nil]
    exact b2
  · refine ⟨by unfold opnT; rw [b1, if_pos rfl]; exact b2, F, ?_, hF, hFo⟩
    unfold opnT opnL
    rw [b1, if_pos rfl, if_pos rfl]
    exact b3

end Go.Proofs.YtkglolnghihegaaGreatDoor.Sto

/- Plain facts on stores: records that are logged as long as they fit, and all saved anew, on a disk whose power stays. -/
namespace Go.Proofs.YtkglolnghihegaaGreatDoor.Sto
open Go.RowKit Go.Proofs.YtkglolnghihegaaGreatDoor.Dsk Go.Proofs.YtkglolnghihegaaGreatDoor.Sht Go.Proofs.YtkglolnghihegaaGreatDoor.Shf Go.Proofs.YtkglolnghihegaaGreatDoor.Slt Go.Proofs.YtkglolnghihegaaGreatDoor.Oct Go.Proofs.YtkglolnghihegaaGreatDoor.Jrn

theorem save_plain {S : List ByteArray} {k g : Nat} {t : ByteArray} (h : May S k g t) :
    ∃ S', saveR S [] (-1) k g g t = ⟨S', [], -1, ((k * (S.length / 4) : Nat) : Int) + cntN t.size, (g : Int) + cntN t.size, 0⟩ ∧ Slt.Good S' ∧ S'.length = S.length := by
  obtain ⟨j, f', hj, hf', hf, hx | ⟨hne, -, -⟩⟩ := save_form h (-1) (by omega)
  · have hwt : (wrs (bodiesT 1 g 0 t) g (k * (S.length / 4))).take (cntN t.size) = wrs (bodiesT 1 g 0 t) g (k * (S.length / 4)) := List.take_of_length_le (by rw [wrs_length, bodiesT_len]; omega)
    have hc := cut_save h (fun _ => 64) (fun _ => Nat.le_refl _) (cntN t.size) (Nat.le_refl _)
    rw [hwt] at hc
    rw [hf rfl] at hx
    exact ⟨_, hx, hc.good, hc.len⟩
  · exact absurd rfl hne

/-- A live state on a disk of N sectors. -/
structure FI (S : List ByteArray) (N i : Nat) (x : Nm) : Prop where
  good : Slt.Good S
  len : S.length = N
  n47 : N ≤ 47
  num : ∃ k G st p n : Nat, x = ⟨(k : Nat), (G : Nat), (st : Nat), (p : Nat), (n : Nat), true⟩ ∧ k < 2 ∧ 1 ≤ G ∧ G ≤ 1000 ∧ 1 ≤ st ∧ st ≤ 2 + 8 * i ∧ 2 * (N / 4) ≤ p ∧ p ≤ N ∧ n ≤ i

section
variable {S : List ByteArray} {N i : Nat} {x : Nm}
theorem FI.log (h : FI S N i x) (hi : i ≤ 20) {t : ByteArray} (ht : t.size ≤ 200) :
    (∃ S2 x2, logX S [] (-1) x t = ⟨S2, [], -1, x2, 0⟩ ∧ FI S2 N (i + 1) x2 ∧ fitsR N x.at_ t.size = true) ∨ (logX S [] (-1) x t = ⟨S, [], -1, x, 7⟩ ∧ fitsR N x.at_ t.size = false) := by
  obtain ⟨k, G, st, p, n, rfl, hk, hG1, hG2, hs1, hs2, hp1, hp2, hn⟩ := h.num
  have hl := h.len
  have h47 := h.n47
  have hlo := h.good.lo
  have hc1 := cnt_pos t
  have hc2 : cntN t.size ≤ 6 := by unfold cntN; omega
  have e4 := sizR_of (n := N) (by omega) (by omega)
  have e5 := cntR_of (t := t) (by omega)
  unfold logX
  dsimp only
  rw [if_pos rfl]
  by_cases hf : p + cntN t.size ≤ N
  · left
    have hm : MayP S p G n st t := ⟨h.good, hG1, by omega, by omega, hs1, by omega, by omega, by omega⟩
    obtain ⟨S', e, hP⟩ := put_plain hm (by omega)
    rw [e]
    dsimp only
    rw [if_pos rfl]
    refine ⟨_, _, rfl, ⟨hP.good, by rw [hP.len, hl], h47, k, G, st + cntN t.size, p + cntN t.size, n + 1, by push_cast; rfl, hk, hG1, hG2, by omega, by omega, by omega, by omega, by omega⟩, ?_⟩
    unfold fitsR
    rw [e4, e5]
    exact decide_eq_true (by omega)
  · right
    have hx : Jrn.putR S [] (-1) (p : Nat) (G : Nat) (n : Nat) (st : Nat) t = ⟨S, [], -1, (p : Nat), (st : Nat), 7⟩ := by
      unfold Jrn.putR
      rw [if_pos (by rw [h.good.sz, hl]; omega)]
      exact pour_full (p := p) (g := G) (n := n) h.good ⟨by omega, hG1, by omega, by omega⟩ (by omega) (by omega) (by omega) (-1) (by omega) (st : Nat)
    rw [hx]
    dsimp only
    rw [if_neg (by decide)]
    refine ⟨rfl, ?_⟩
    unfold fitsR
    rw [e4, e5]
    exact decide_eq_false (by omega)

/-- All saved anew: the empty text. -/
theorem save_empty {S : List ByteArray} (hG : Slt.Good S) (h47 : S.length ≤ 47) (x : Nm) {k g : Nat} (hk : k < 2) (hxs : x.slot = 1 - (k : Nat)) (hxt : x.stamp = (g : Nat)) (hg : 1 ≤ g) {i : Nat} (hi : i ≤ 21) (hgi : g + 1 ≤ 2 + 8 * i) :
    ∃ S2 x2, savX S [] (-1) x ⟨#[]⟩ = ⟨S2, [], -1, x2, 0⟩ ∧ FI S2 S.length i x2 ∧ x2.slot = 1 - x.slot ∧ x2.gen = x.stamp ∧ fitsR S.length x2.at_ (37 * (S.length - 2 * (S.length / 4) : Nat) - 8) = true := by
  have hlo := hG.lo
  have c0 : cntN (⟨#[]⟩ : ByteArray).size = 1 := by decide
  have hm : May S k g ⟨#[]⟩ := ⟨hG, hk, hg, by rw [c0]; omega, by decide, by rw [c0]; omega⟩
  obtain ⟨S', e, hG', hl'⟩ := save_plain hm
  have ek : 1 - x.slot = (k : Nat) := by omega
  have e4 := sizR_of (n := S.length) (by omega) (by omega)
  unfold savX
  rw [if_pos (by omega), ek, hxt, e]
  dsimp only
  rw [if_pos rfl, hl', c0, e4]
  refine ⟨_, _, rfl, ⟨hG', hl', h47, k, g, g + 1, 2 * (S.length / 4), 0, by push_cast; rfl, hk, hg, by omega, by omega, by omega, Nat.le_refl _, by omega, by omega⟩, rfl, rfl, ?_⟩
  show fitsR S.length (2 * ((S.length / 4 : Nat) : Int)) _ = true
  unfold fitsR cntR
  rw [e4]
  refine decide_eq_true ?_
  rw [if_pos (by omega)]
  omega
theorem FI.save (h : FI S N i x) (hi : i ≤ 20) :
    ∃ S2 x2, savX S [] (-1) x ⟨#[]⟩ = ⟨S2, [], -1, x2, 0⟩ ∧ FI S2 N (i + 1) x2 ∧ x2.slot = 1 - x.slot ∧ x2.gen = x.stamp ∧ fitsR N x2.at_ (37 * (N - 2 * (N / 4) : Nat) - 8) = true := by
  obtain ⟨k, G, st, p, n, rfl, hk, hG1, hG2, hs1, hs2, hp1, hp2, hn⟩ := h.num
  have hl := h.len
  have h47 := h.n47
  subst hl
  exact save_empty h.good h47 _ (k := 1 - k) (g := st) (by omega) (by show (k : Int) = 1 - ((1 - k : Nat) : Int); omega) rfl hs1 (by omega) (by omega)
theorem FI.live (h : FI S N i x) : x.live = true := by obtain ⟨k, G, st, p, n, rfl, -⟩ := h.num; rfl
end

/-- A new disk, opened. -/
theorem open_new {N : Nat} (h1 : 16 ≤ N) (h2 : N ≤ 512) : opnE (newS N) [] (-1) = 0 ∧ opnX (newS N) [] (-1) = ⟨1, 0, 1, 2 * sizR N, 0, false⟩ ∧ opnT (newS N) [] (-1) = ⟨#[]⟩ ∧ opnL (newS N) [] (-1) = [] := by
  obtain ⟨hG, hl, hq⟩ := good_newS h1 h2
  have hns : Ns (newS N) := fun i hi => by
    rw [(load_bad hG hi (by rw [hq _ (by rw [hl]; have : i * (N / 4) ≤ 1 * (N / 4) := Nat.mul_le_mul_right _ (by omega); omega)]; exact zero_whole)).1]
    decide
  have hb := hns.best hG
  have ht : topL (newS N) = 0 := by
    have := topL_nonneg (newS N)
    have : topL (newS N) ≤ 0 := topL_le (Int.le_refl _) fun s hs => by
      obtain ⟨q, hq1, rfl⟩ := hG.mem hs
      rw [hq q (by omega), Sec.zero.top]
      exact Int.le_refl _
    omega
  unfold opnE opnX opnT opnL
  rw [hb, if_pos (hG.chk (by omega)), fuse_top hG (by omega), ht, if_neg (by decide), if_neg (by decide), if_neg (by decide), if_neg (by decide), hl]
  exact ⟨rfl, rfl, rfl, rfl⟩
/-- .. and saved. -/
theorem fi_new {N : Nat} (h1 : 16 ≤ N) (h2 : N ≤ 47) : ∃ S2 x2, savX (newS N) [] (-1) (opnX (newS N) [] (-1)) ⟨#[]⟩ = ⟨S2, [], -1, x2, 0⟩ ∧ FI S2 N 0 x2 := by
  obtain ⟨hG, hl, -⟩ := good_newS h1 (show N ≤ 512 by omega)
  obtain ⟨-, hx, -⟩ := open_new h1 (show N ≤ 512 by omega)
  rw [hx]
  obtain ⟨S2, x2, a, b, -⟩ := save_empty hG (by omega) ⟨1, 0, 1, 2 * sizR N, 0, false⟩ (k := 0) (g := 1) (by omega) rfl rfl (by omega) (i := 0) (by omega) (by omega)
  rw [hl] at b
  exact ⟨S2, x2, a, b⟩

end Go.Proofs.YtkglolnghihegaaGreatDoor.Sto

/- Plain facts on stores: a scan of the generation 0; and what every right program does with a text and a record. -/
namespace Go.Proofs.YtkglolnghihegaaGreatDoor.Sto
open Go.RowKit Go.Proofs.YtkglolnghihegaaGreatDoor.Dsk Go.Proofs.YtkglolnghihegaaGreatDoor.Sht Go.Proofs.YtkglolnghihegaaGreatDoor.Shf Go.Proofs.YtkglolnghihegaaGreatDoor.Slt Go.Proofs.YtkglolnghihegaaGreatDoor.Oct Go.Proofs.YtkglolnghihegaaGreatDoor.Jrn

/-- No body is of the generation 0. -/
theorem errB_zero (k : Nat) (n : Int) (s : ByteArray) (i : Int) : ¬ errB k 0 n s i = 0 := by
  unfold errB
  by_cases hr : errR s = 0
  · rw [if_pos hr]
    by_cases hk : kA s = k ∧ gA s = 0 ∧ nA s = n
    · exfalso
      unfold errR at hr
      split at hr
      · split at hr
        · rename_i h2
          obtain ⟨hf, -⟩ := h2
          unfold fineH at hf
          simp at hf
          omega
        · omega
      · omega
    · rw [if_neg hk]; decide
  · rw [if_neg hr]; exact hr
theorem errJ_zero (k : Nat) (n : Int) (B : List ByteArray) : ¬ errJ k 0 n B = 0 := by
  have hP : ¬ errP k 0 n B 0 = 0 := by
    unfold errP
    split
    · exact errB_zero _ _ _ _
    · decide
  have hS : ¬ errS k 0 n B = 0 := by unfold errS; rw [if_neg hP]; exact hP
  unfold errJ
  rw [if_neg hS]
  exact hS
/-- So nothing is scanned of it. -/
theorem scan_zero (S : List ByteArray) (V : List Wr) (f : Int) : scanDL S V f 0 = [] ∧ (chk S V f = 0 → scanDA S V f 0 = 2 * sizR S.length) := by
  unfold scanDL scanDA
  refine ⟨?_, fun h => ?_⟩
  · split
    · exact scanL_stop (errJ_zero _ _ _)
    · rfl
  · rw [if_pos h, scanN_stop (errJ_zero _ _ _)]
    simp

def xT : ByteArray := ⟨#[120]⟩
def allT : ByteArray := ⟨#[97, 108, 108]⟩

/-- What every right program does with a text and a record. -/
structure AwS (Sa Sb : List ByteArray) : Prop where
  oe : opnE (newS 16) [] (-1) = 0
  ox : opnX (newS 16) [] (-1) = ⟨1, 0, 1, 8, 0, false⟩
  ot : opnT (newS 16) [] (-1) = ⟨#[]⟩
  ol : opnL (newS 16) [] (-1) = []
  dead : logX (newS 16) [] (-1) ⟨1, 0, 1, 8, 0, false⟩ xT = ⟨newS 16, [], -1, ⟨1, 0, 1, 8, 0, false⟩, 9⟩
  sav : savX (newS 16) [] (-1) ⟨1, 0, 1, 8, 0, false⟩ allT = ⟨Sa, [], -1, ⟨0, 1, 2, 8, 0, true⟩, 0⟩
  log : logX Sa [] (-1) ⟨0, 1, 2, 8, 0, true⟩ oneT = ⟨Sb, [], -1, ⟨0, 1, 3, 9, 1, true⟩, 0⟩
  pe : opnE Sb [] (-1) = 0
  px : opnX Sb [] (-1) = ⟨0, 1, 3, 9, 1, false⟩
  pt : opnT Sb [] (-1) = allT
  pl : opnL Sb [] (-1) = [oneT]
  la : Sa.length = 16
  lb : Sb.length = 16

theorem aws : ∃ Sa Sb, AwS Sa Sb := by
  obtain ⟨hG, hl, hz⟩ := good_newS (n := 16) (by omega) (by omega)
  have s1 : allT.size = 3 := rfl
  have s2 : oneT.size = 3 := rfl
  have c1 : cntN allT.size = 1 := by decide
  have c2 : cntN oneT.size = 1 := by decide
  obtain ⟨o1, o2, o3, o4⟩ := open_new (N := 16) (by omega) (by omega)
  have e8 : 2 * sizR ((16 : Nat) : Int) = 8 := by decide
  rw [e8] at o2
  have m1 : May (newS 16) 0 1 allT := ⟨hG, by omega, by omega, by omega, by omega, by omega⟩
  obtain ⟨Sa, pa, ha, hA⟩ := Slt.save_plain m1
  have la : Sa.length = 16 := by rw [hA.len, hl]
  have m2 : MayP Sa 8 1 0 2 oneT := ⟨hA.good, by omega, by omega, by omega, by omega, by omega, by omega, by omega⟩
  obtain ⟨Sb, hb, hB⟩ := Jrn.put_plain m2 (by omega)
  have lb : Sb.length = 16 := by rw [hB.len, la]
  have LA := hA.lies m1
  rw [Nat.zero_mul] at LA
  have LB : Lies Sb (0 * (Sb.length / 4)) 1 1 allT := ⟨LA.g1, LA.g2, LA.s1, LA.s2, LA.sz, fun i hi => by
    rw [Nat.zero_mul]
    rw [hB.old _ (by omega) (by omega)]
    exact LA.sec i hi⟩
  have e0 := LB.load hB.good (k := 0) (by omega) (by omega)
  -- each sector of the disk
  have hs0 : secAt Sb 0 = sheetB 1 (bodyAt 1 1 0 (cntN allT.size) (loadT allT) 0) := by
    rw [hB.old 0 (by omega) (by omega)]
    have := hA.new_ 0 (by omega)
    rw [Nat.zero_mul] at this; exact this
  have hs8 : secAt Sb 8 = sheetB 2 (bodyAt 2 1 0 (cntN oneT.size) (loadT oneT) 0) := hB.new_ 0 (by omega)
  have hsz : ∀ q, q < 16 → q ≠ 0 → q ≠ 8 → secAt Sb q = fillS 0 := fun q hq h0 h8 => by
    rw [hB.old q (by omega) (by rw [c2]; omega), hA.old q (by omega) (by rw [hl, c1]; omega)]
    exact hz q hq
  have S0 : Sec (secAt Sb 0) 1 1 := by rw [hs0]; exact Sec.sheet (by omega) (by rw [body52 (by omega)]; omega)
  have S8 : Sec (secAt Sb 8) 2 2 := by rw [hs8]; exact Sec.sheet (by omega) (by rw [at52 (by omega)]; omega)
  have e1 := (load_bad hB.good (k := 1) (by omega) (by rw [lb, hsz _ (by omega) (by omega) (by omega)]; exact zero_whole)).1
  have hbest : bestR Sb [] (-1) = ⟨0, 1, allT, 0⟩ := best_zero hB.good e0 (by decide) (fun x => by rw [show loadDE Sb [] (-1) 1 = 6 from e1] at x; exact absurd x.1 (by decide))
  have htop : topD Sb [] (-1) = 2 := by
    rw [fuse_top hB.good (by omega)]
    apply Int.le_antisymm
    · refine topL_le (by omega) fun s hs => ?_
      obtain ⟨q, hq, rfl⟩ := hB.good.mem hs
      by_cases h0 : q = 0
      · subst h0; rw [S0.top]; omega
      · by_cases h8 : q = 8
        · subst h8; rw [S8.top]; omega
        · rw [hsz q (by omega) h0 h8, Sec.zero.top]; omega
    · have := topL_ge (hB.good.sec_mem (q := 8) (by omega))
      rw [S8.top] at this
      exact this
  have hlaid : LaidP Sb 8 1 ([] ++ [oneT]) := PutP.laid (M := []) hB ⟨fun i hi => by simp [recs] at hi⟩ (by omega) (by omega) (by simp only [tot]; omega)
  have hrest : RestP Sb (8 + tot [oneT]) 1 := fun q h1 h2 hw => by
    simp only [tot] at h1
    rw [hsz q (by omega) (by omega) (by omega), zero_whole] at hw
    exact absurd hw (by decide)
  have ht1 : tot [oneT] = 1 := by simp only [tot]; omega
  obtain ⟨k1, k2, k3⟩ := scan_laid hB.good (b := 8) (M := [oneT]) (by omega) (by omega) (by omega) hlaid (by simp; omega) (by simp) (by omega) (hrest.join (by omega) 2 _)
  refine ⟨Sa, Sb, o1, o2, o3, o4, rfl, ?_, ?_, ?_, ?_, ?_, ?_, la, lb⟩
  · unfold savX
    dsimp only
    have ha' : saveR (newS 16) [] (-1) (1 - 1) 1 1 allT = ⟨Sa, [], -1, pa, 2, 0⟩ := by rw [c1] at ha; exact ha
    rw [if_pos (.inr rfl), ha']
    dsimp only
    rw [if_pos rfl, la, e8]
    rfl
  · unfold logX
    dsimp only
    have hb' : Jrn.putR Sa [] (-1) 8 1 0 2 oneT = ⟨Sb, [], -1, 9, 3, 0⟩ := by rw [c2] at hb; exact hb
    rw [if_pos rfl, hb']
    rfl
  · unfold opnE
    rw [if_pos (hB.good.chk (by omega)), htop, if_neg (by decide)]
  · unfold opnX
    rw [hbest, htop]
    dsimp only
    rw [if_pos rfl, show scanDA Sb [] (-1) 1 = _ from k2, show scanDL Sb [] (-1) 1 = _ from k1, ht1]
    rfl
  · unfold opnT
    rw [hbest]
    rfl
  · unfold opnL
    rw [hbest]
    dsimp only
    rw [if_pos rfl]
    exact k1

end Go.Proofs.YtkglolnghihegaaGreatDoor.Sto
