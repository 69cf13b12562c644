import Derived.Test.YtmgpngfgmfdldaaGreatDoorSlotsDrain
import Derived.Test.YtmgpngfgmfdldaaGreatDoorSheafJoin
import Derived.Test.YtmgpngfgmfdldaaGreatDoorDskB
import Derived.Deep.RegionWith
import Derived.Test.YtmgpngfgmfdldaaGreatDoorSlotsSave
import Derived.Test.YtmgpngfgmfdldaaGreatDoorShtP
import Derived.Test.YtmgpngfgmfdldaaGreatDoorSheafBackP
import Derived.Test.YtmgpngfgmfdldaaGreatDoorDiskPlain

/- Contract of Load of package slots. -/
namespace Go.Proofs.YtmgpngfgmfdldaaGreatDoor.Slt
open Go.RowKit Go.Proofs.YtmgpngfgmfdldaaGreatDoor.Dsk Go.Proofs.YtmgpngfgmfdldaaGreatDoor.Sht Go.Proofs.YtmgpngfgmfdldaaGreatDoor.Shf
open Go.Proofs.YtmgpngfgmfdldaaGreatDoor.Crc (Tab)

/-- What stands against bodies. -/
def loadE (B : List ByteArray) : Int :=
  match B with
  | [] => 6
  | s :: B' => if errR s = 0 then (if kA s = 1 ∧ nA s = 0 then errJ 1 (gA s) 0 (s :: B') else 11) else errR s
/-- The generation and the text of bodies. -/
def loadG (B : List ByteArray) : Int := if loadE B = 0 then (match B with | [] => 0 | s :: _ => gA s) else 0
def loadT' (B : List ByteArray) : ByteArray := if loadE B = 0 then textU (loadS B) else ⟨#[]⟩
/-- What is answered: a snapshot, and an error. -/
abbrev SNV (g : Int) (t : ByteArray) : Value := .agg #[.int .i64 g, .string t]
def RetN (w : World) (g : Int) (t : ByteArray) (e : Int) (r : Ending) (w' : World) : Prop := r = .returned (.tuple #[SNV g t, .int .i64 e]) ∧ Below w.heap.size w w'

/-- The bodies of a slot. -/
def slotB (S : List ByteArray) (W : List Wr) (f z : Int) : List ByteArray := drainD S W f (z * sizR S.length) ((z + 1) * sizR S.length)
def mayL (S : List ByteArray) (W : List Wr) (f z : Int) : Bool := decide (chk S W f = 0) && isS z
def loadDE (S : List ByteArray) (W : List Wr) (f z : Int) : Int := if mayL S W f z = true then loadE (slotB S W f z) else 2
def loadDG (S : List ByteArray) (W : List Wr) (f z : Int) : Int := if mayL S W f z = true then loadG (slotB S W f z) else 0
def loadDT (S : List ByteArray) (W : List Wr) (f z : Int) : ByteArray := if mayL S W f z = true then loadT' (slotB S W f z) else ⟨#[]⟩

/-- A block of two cells. -/
structure Bx2 (w : World) (b : Nat) (x y : Value) : Prop where
  c0 : w.cell? ⟨b, 0, none⟩ = some x
  c1 : w.cell? ⟨b, 1, none⟩ = some y
  f0 : w.frozen? ⟨b, 0, none⟩ = false
  f1 : w.frozen? ⟨b, 1, none⟩ = false
theorem Bx2.below {w w' : World} {B b : Nat} {x y : Value} (h : Bx2 w b x y) (hb : Below B w w') (hl : b < B) : Bx2 w' b x y :=
  ⟨(hb.cell (p := ⟨b, 0, none⟩) hl).trans h.c0, (hb.cell (p := ⟨b, 1, none⟩) hl).trans h.c1, (hb.frozen (p := ⟨b, 0, none⟩) hl).trans h.f0, (hb.frozen (p := ⟨b, 1, none⟩) hl).trans h.f1⟩
theorem Bx2.new (w : World) (x y : Value) (t : TypeId) : Bx2 (w.alloc (.cells #[x, y] t)) w.heap.size x y := by constructor <;> simp [go_sem]
theorem Bx2.lt {w : World} {b : Nat} {x y : Value} (h : Bx2 w b x y) : b < w.heap.size := cell_lt h.c0
theorem Bx2.alloc {w : World} {b : Nat} {x y : Value} (h : Bx2 w b x y) (o : Obj) : Bx2 (w.alloc o) b x y := h.below (new1 w o) h.lt
theorem Bx2.call {w w' : World} {b : Nat} {x y : Value} (h : Bx2 w b x y) (hb : Below w.heap.size w w') : Bx2 w' b x y := h.below hb h.lt
theorem Bx2.set2 {w : World} {b : Nat} {x y : Value} (h : Bx2 w b x y) (x' y' : Value) : Bx2 ((w.setCell ⟨b, 0, none⟩ x').setCell ⟨b, 1, none⟩ y') b x' y' := by
  obtain ⟨c0, c1, f0, f1⟩ := h
  constructor <;> simp [go_sem, *]
theorem set2_below {B g : Nat} {a w : World} (h : Below B a w) (hg : B ≤ g) (x0 x1 : Value) : Below B a ((w.setCell ⟨g, 0, none⟩ x0).setCell ⟨g, 1, none⟩ x1) := (h.setCell hg _).setCell hg _

section
variable (A : Option Addr) (n c : Nat) (A' : Option Addr) (m c' : Nat) (f : Int) (S : List ByteArray) (V : List Wr) (z : Int) (w : World) (hD : Dev w A n c A' m c' f S V) (hT : Tab w) (h : mayL S V f z = true)
include hD hT h

end

end Go.Proofs.YtmgpngfgmfdldaaGreatDoor.Slt

/- Contract of Best of package slots. -/
namespace Go.Proofs.YtmgpngfgmfdldaaGreatDoor.Slt
open Go.RowKit Go.Proofs.YtmgpngfgmfdldaaGreatDoor.Dsk Go.Proofs.YtmgpngfgmfdldaaGreatDoor.Sht Go.Proofs.YtmgpngfgmfdldaaGreatDoor.Shf
open Go.Proofs.YtmgpngfgmfdldaaGreatDoor.Crc (Tab)

/-- The newer slot so far: its number, its generation and text, the error. -/
structure Bst where
  z : Int
  g : Int
  t : ByteArray
  e : Int
def bstep (S : List ByteArray) (W : List Wr) (f : Int) (b : Bst) (z : Int) : Bst := if loadDE S W f z = 0 ∧ b.g < loadDG S W f z then ⟨z, loadDG S W f z, loadDT S W f z, 0⟩ else b
def bst (S : List ByteArray) (W : List Wr) (f : Int) : Nat → Bst
  | 0 => ⟨0, 0, ⟨#[]⟩, 6⟩
  | j + 1 => bstep S W f (bst S W f j) j
def bestR (S : List ByteArray) (W : List Wr) (f : Int) : Bst := if chk S W f = 0 then bst S W f 2 else ⟨0, 0, ⟨#[]⟩, 2⟩
def RetB (w : World) (b : Bst) (r : Ending) (w' : World) : Prop := r = .returned (.tuple #[.int .i64 b.z, SNV b.g b.t, .int .i64 b.e]) ∧ Below w.heap.size w w'

/-- What is kept in the loop. -/
structure BInv (w wr : World) (nb : Nat) (A : Option Addr) (n c : Nat) (A' : Option Addr) (m c' : Nat) (f g : Int) (t : ByteArray) : Prop where
  bel : Below w.heap.size w wr
  box : St wr w.heap.size A n c A' m c' f
  res : Bx2 wr (w.heap.size + 1) (.int .i64 0) (.string ⟨#[]⟩)
  new_ : Bx2 wr nb (.int .i64 g) (.string t)
  lt : w.heap.size + 1 < nb
theorem BInv.call {w wr w' : World} {nb : Nat} {A : Option Addr} {n c : Nat} {A' : Option Addr} {m c' : Nat} {f g : Int} {t : ByteArray} (h : BInv w wr nb A n c A' m c' f g t) (hb : Below wr.heap.size wr w') : BInv w w' nb A n c A' m c' f g t :=
  ⟨h.bel.call hb, h.box.call hb, h.res.call hb, h.new_.call hb, h.lt⟩

theorem blk_set2 (w : World) (b k : Nat) (x y : Value) (hk : k ≠ b) : ((w.setCell ⟨b, 0, none⟩ x).setCell ⟨b, 1, none⟩ y).heap[k]? = w.heap[k]? :=
  (Below.heap_setCell _ _ _ _ (by simpa using hk)).trans (Below.heap_setCell _ _ _ _ (by simpa using hk))
theorem Bx2.of_block {w w' : World} {b : Nat} {x y : Value} (h : Bx2 w b x y) (e : w'.heap[b]? = w.heap[b]?) : Bx2 w' b x y :=
  ⟨(World.cell?_of_block (a := ⟨b, 0, none⟩) e).trans h.c0, (World.cell?_of_block (a := ⟨b, 1, none⟩) e).trans h.c1, (World.frozen?_of_block (a := ⟨b, 0, none⟩) e).trans h.f0, (World.frozen?_of_block (a := ⟨b, 1, none⟩) e).trans h.f1⟩
theorem BInv.set {w wr : World} {nb : Nat} {A : Option Addr} {n c : Nat} {A' : Option Addr} {m c' : Nat} {f g : Int} {t : ByteArray} (h : BInv w wr nb A n c A' m c' f g t) (g' : Int) (t' : ByteArray) :
    BInv w ((wr.setCell ⟨nb, 0, none⟩ (.int .i64 g')).setCell ⟨nb, 1, none⟩ (.string t')) nb A n c A' m c' f g' t' :=
  ⟨set2_below h.bel (by have := h.lt; omega) _ _, h.box.of_block (blk_set2 _ _ _ _ _ (by have := h.lt; omega)), h.res.of_block (blk_set2 _ _ _ _ _ (by have := h.lt; omega)), h.new_.set2 _ _, h.lt⟩
theorem BInv.drew {w wr : World} {nb : Nat} {A : Option Addr} {n c : Nat} {A' : Option Addr} {m c' : Nat} {f g : Int} {t : ByteArray} (h : BInv w wr nb A n c A' m c' f g t) : BInv w wr.drew nb A n c A' m c' f g t :=
  ⟨h.bel.drew, h.box.drew, ⟨h.res.c0, h.res.c1, h.res.f0, h.res.f1⟩, ⟨h.new_.c0, h.new_.c1, h.new_.f0, h.new_.f1⟩, h.lt⟩
end Go.Proofs.YtmgpngfgmfdldaaGreatDoor.Slt

/- Plain facts on saves: what is put, how far it comes, and what each sector has then. -/
namespace Go.Proofs.YtmgpngfgmfdldaaGreatDoor.Slt
open Go.RowKit Go.Proofs.YtmgpngfgmfdldaaGreatDoor.Dsk Go.Proofs.YtmgpngfgmfdldaaGreatDoor.Sht Go.Proofs.YtmgpngfgmfdldaaGreatDoor.Shf Go.Proofs.YtmgpngfgmfdldaaGreatDoor.Oct

/-- The writes of bodies, one behind the other. -/
def wrs : List ByteArray → Nat → Nat → List Wr
  | [], _, _ => []
  | b :: bs, st, p => ((p : Int), sheetB st b) :: wrs bs (st + 1) (p + 1)
theorem wrs_length (bs : List ByteArray) : ∀ st p, (wrs bs st p).length = bs.length := by
  induction bs with
  | nil => intro _ _; rfl
  | cons b bs ih => intro st p; show (wrs bs (st + 1) (p + 1)).length + 1 = _; rw [ih]; rfl
theorem wrs_get (bs : List ByteArray) : ∀ st p k, (h : k < bs.length) → (wrs bs st p)[k]'(by rw [wrs_length]; exact h) = (((p + k : Nat) : Int), sheetB (st + k) bs[k]) := by
  induction bs with
  | nil => intro _ _ k h; simp at h
  | cons b bs ih =>
    intro st p k h
    cases k with
    | zero => rfl
    | succ k =>
      have := ih (st + 1) (p + 1) k (by simpa using h)
      show (wrs bs (st + 1) (p + 1))[k]'_ = _
      rw [this]
      simp only [List.getElem_cons_succ]
      rw [show p + 1 + k = p + (k + 1) by omega, show st + 1 + k = st + (k + 1) by omega]
theorem wrs_take (bs : List ByteArray) : ∀ st p k, wrs (bs.take k) st p = (wrs bs st p).take k := by
  induction bs with
  | nil => intro _ _ k; simp [wrs]
  | cons b bs ih =>
    intro st p k
    cases k with
    | zero => rfl
    | succ k => show _ :: wrs (bs.take k) (st + 1) (p + 1) = _ :: (wrs bs (st + 1) (p + 1)).take k; rw [ih]

theorem seal_sheet {n : Nat} {b : ByteArray} (h1 : 1 ≤ n) (h2 : n ≤ 1099511627776) (h : b.size ≤ 52) : (sealR n b).1 = sheetB n b := by
  unfold sealR
  rw [if_pos (by omega), if_pos h]
  rfl

theorem chk_more {S : List ByteArray} {W : List Wr} {f : Int} (h : chk S W f = 0) {p : Nat} (hp : p < S.length) {s : ByteArray} (hs : s.size = 64) (hw : W.length < 1024) : chk S (W ++ [((p : Int), s)]) (burnt f) = 0 := by
  obtain ⟨⟨h1, h2, h3⟩, h4, h5, h6⟩ := chk_ok h
  refine chk0 ⟨h1, h2, burnt_ge h3⟩ h4 (by simp; omega) ?_
  rw [List.all_append, h6]
  simp only [List.all_cons, List.all_nil, Bool.and_true, Bool.true_and]
  rw [wrOk_iff]
  exact ⟨by omega, by omega, hs⟩
theorem putE_in {S : List ByteArray} {W : List Wr} {f : Int} (h : chk S W f = 0) {p : Nat} (hp : p < S.length) {s : ByteArray} (hs : s.size = 64) (hw : W.length < 1024) : putE S W f p s = if f = 0 then 21 else 0 := by
  unfold putE
  rw [if_pos h, if_pos (by omega), if_pos hs]
  split
  · rfl
  · rw [if_neg (by omega)]

/-- How far bodies come. -/
theorem lays_form (S : List ByteArray) : ∀ (bs : List ByteArray) (st p : Nat) (W : List Wr) (f : Int), chk S W f = 0 → p + bs.length ≤ S.length → W.length + bs.length ≤ 1024 → 1 ≤ st → st + bs.length ≤ 1099511627777 → (∀ b ∈ bs, b.size ≤ 52) →
    ∃ k f' e, k ≤ bs.length ∧ lays S bs st p W f = (W ++ wrs (bs.take k) st p, f', e) ∧ chk S (W ++ wrs (bs.take k) st p) f' = 0 ∧ (e = 0 ∧ k = bs.length ∨ e = 21) ∧ (f = -1 → e = 0 ∧ f' = -1) := by
  intro bs
  induction bs with
  | nil =>
    intro st p W f hc _ _ _ _ _
    exact ⟨0, f, 0, Nat.le_refl _, by simp [lays, wrs], by simpa [wrs] using hc, .inl ⟨rfl, rfl⟩, fun h => ⟨rfl, h⟩⟩
  | cons b bs ih =>
    intro st p W f hc hp hw h1 h2 hb
    simp only [List.length_cons] at hp hw h2
    have hbs : b.size ≤ 52 := hb b (by simp)
    have hs : (sheetB st b).size = 64 := sheetB_size st b hbs
    have hpe := putE_in (s := sheetB st b) hc (show p < S.length by omega) hs (show W.length < 1024 by omega)
    unfold lays
    rw [seal_sheet h1 (by omega) hbs, hpe]
    by_cases hf : f = 0
    · rw [if_pos hf, if_neg (by decide)]
      exact ⟨0, f, 21, Nat.zero_le _, by simp [wrs], by simpa [wrs] using hc, .inr rfl, fun h => by omega⟩
    · rw [if_neg hf, if_pos rfl]
      obtain ⟨k, f', e, hk, he, hc', h4, h5⟩ := ih (st + 1) (p + 1) (W ++ [((p : Int), sheetB st b)]) (burnt f) (chk_more hc (by omega) hs (by omega)) (by omega) (by simp; omega) (by omega) (by omega) (fun x hx => hb x (by simp [hx]))
      have ew : W ++ wrs ((b :: bs).take (k + 1)) st p = W ++ [((p : Int), sheetB st b)] ++ wrs (bs.take k) (st + 1) (p + 1) := by
        simp [wrs]
      refine ⟨k + 1, f', e, by simp; omega, ?_, by rw [ew]; exact hc', ?_, ?_⟩
      · rw [ew, ← he]; push_cast; rfl
      · rcases h4 with ⟨h4, h6⟩ | h4
        · exact .inl ⟨h4, by simp [h6]⟩
        · exact .inr h4
      · intro h
        subst h
        exact h5 (by unfold burnt; rfl)

set_option linter.unusedVariables false in
/-- One sector, behind writes that go. -/
theorem sec_after {S : List ByteArray} (hS : secOk S = true) {bs : List ByteArray} {st p : Nat} (hp : p + bs.length ≤ S.length) (c : Nat → Nat) (q : Nat) (hq : q < S.length) :
    ∀ k, k ≤ bs.length → secAt (goAll S ((wrs bs st p).take k) c) q = if h : p ≤ q ∧ q < p + k then torn (sheetB (st + (q - p)) (bs.getD (q - p) ⟨#[]⟩)) (secAt S q) (c (q - p)) else secAt S q := by
  intro k
  induction k with
  | zero => intro _; rw [dif_neg (by omega)]; rfl
  | succ k ih =>
    intro hk
    have hl : k < (wrs bs st p).length := by rw [wrs_length]; omega
    have hlen : (goAll S ((wrs bs st p).take k) c).length = S.length := by
      have : ∀ (V : List Wr), (goAll S V c).length = S.length := by
        intro V
        unfold goAll
        suffices H : ∀ (L : List (Wr × Nat)) (T : List ByteArray), (L.foldl (fun S p => goOne S p.1 (c p.2)) T).length = T.length from H _ _
        intro L
        induction L with
        | nil => intro T; rfl
        | cons x L ih => intro T; rw [List.foldl_cons, ih, goOne_length]
      exact this _
    rw [goAll_take S _ k hl, goOne_at _ _ _ _ (by rw [wrs_get bs st p k (by omega)]; simp only; omega) (by omega), wrs_get bs st p k (by omega), ih (by omega)]
    dsimp only
    by_cases hqk : q = p + k
    · subst hqk
      rw [if_pos rfl, dif_neg (by omega), dif_pos (by omega)]
      unfold torn
      have e : p + k - p = k := by omega
      rw [e]
      congr 2
      simp only [List.getD, List.getElem?_eq_getElem (show k < bs.length by omega)]
      rfl
    · rw [if_neg (by omega)]
      by_cases h2 : p ≤ q ∧ q < p + k
      · rw [dif_pos h2, dif_pos (by omega)]
      · rw [dif_neg h2, dif_neg (by omega)]

end Go.Proofs.YtmgpngfgmfdldaaGreatDoor.Slt

/- Plain facts on sectors with small stamps: whole ones, and ones that were broken off, again and again. -/
namespace Go.Proofs.YtmgpngfgmfdldaaGreatDoor.Slt
open Go.RowKit Go.Proofs.YtmgpngfgmfdldaaGreatDoor.Dsk Go.Proofs.YtmgpngfgmfdldaaGreatDoor.Sht Go.Proofs.YtmgpngfgmfdldaaGreatDoor.Shf Go.Proofs.YtmgpngfgmfdldaaGreatDoor.Oct

/-- A small stamp. -/
def st6 (a : Nat) : List UInt8 := [0, 0, 0, 0, 0, UInt8.ofNat a]
theorem beB_small {a : Nat} (h : a < 256) : beB 6 a = st6 a := by
  have e : ∀ k, 0 < k → a / 256 ^ k = 0 := fun k hk => Nat.div_eq_of_lt (Nat.lt_of_lt_of_le h (by
    calc 256 = 256 ^ 1 := by rfl
    _ ≤ 256 ^ k := Nat.pow_le_pow_right (by omega) hk))
  unfold st6
  simp only [beB, e 5 (by omega), e 4 (by omega), e 3 (by omega), e 2 (by omega), e 1 (by omega), Nat.pow_zero, Nat.div_one, Nat.mod_eq_of_lt h]
  rfl
theorem natBE_small {a : Nat} (h : a < 256) : natBE (st6 a) = a := by rw [← beB_small h, Sht.natBE_beB, Nat.mod_eq_of_lt (by omega)]
theorem st6_inj {a b : Nat} (ha : a < 256) (hb : b < 256) (h : st6 a = st6 b) : a = b := by rw [← natBE_small ha, ← natBE_small hb, h]
theorem st6_take (a b m : Nat) (h : m ≤ 5) : (st6 a).take m = (st6 b).take m := by
  unfold st6
  match m, h with
  | 0, _ | 1, _ | 2, _ | 3, _ | 4, _ | 5, _ => rfl
theorem st6_mix (a b j : Nat) (h : j ≤ 5) : (st6 a).take j ++ (st6 b).drop j = st6 b := by rw [st6_take a b j h, List.take_append_drop]

/-- A sector that begins with the stamp a, and ends with the stamp b, that is not greater. -/
structure Sec (s : ByteArray) (a b : Nat) : Prop where
  size : s.size = 64
  fst : s.data.toList.take 6 = st6 a
  lst : s.data.toList.drop 58 = st6 b
  ba : b ≤ a
  lt : a < 256

theorem Sec.top {s : ByteArray} {a b : Nat} (h : Sec s a b) : topR s = a := by
  have hb := h.ba; have ha := h.lt
  rw [topR, if_pos h.size, drop_take6 h.size, h.fst, h.lst, natBE_small ha, natBE_small (by omega), if_neg (by omega)]
theorem Sec.whole {s : ByteArray} {a b : Nat} (h : Sec s a b) : wholeB s = true ↔ (a = b ∧ 1 ≤ a) := by
  have hb := h.ba; have ha := h.lt
  unfold wholeB openR
  rw [if_pos h.size, drop_take6 h.size, h.fst, h.lst]
  by_cases e : a = b
  · subst e
    rw [if_pos rfl, natBE_small ha]
    by_cases h1 : 1 ≤ a
    · rw [if_pos (by omega)]; simp [h1]
    · rw [if_neg (by omega)]; simp [h1]
  · rw [if_neg (fun x => e (st6_inj ha (by omega) x))]
    simp [e]
theorem Sec.sheet {t : Nat} {bd : ByteArray} (ht : t < 256) (h : bd.size ≤ 52) : Sec (sheetB t bd) t t := by
  have e := Ends.sheet t bd h
  exact ⟨e.size, by rw [e.first, beB_small ht], by rw [e.last, beB_small ht], Nat.le_refl _, ht⟩
theorem Sec.zero : Sec (fillS 0) 0 0 := ⟨fillS_size 0, by decide +kernel, by decide +kernel, Nat.le_refl _, by omega⟩

theorem torn_sec {O : ByteArray} {a b t : Nat} {bd : ByteArray} (hO : Sec O a b) (hat : a < t) (ht : t < 256) (hbd : bd.size ≤ 52) (m : Nat) (hm : m ≤ 64) :
    (torn (sheetB t bd) O m = O ∨ torn (sheetB t bd) O m = sheetB t bd ∨ Sec (torn (sheetB t bd) O m) t b) ∧ (m = 64 → torn (sheetB t bd) O m = sheetB t bd) := by
  have hT := Sec.sheet ht hbd
  have hba := hO.ba
  generalize sheetB t bd = T at *
  have lo : O.data.toList.length = 64 := hO.size
  have lt : T.data.toList.length = 64 := hT.size
  have hl := torn_list T O m
  have h64 : m = 64 → torn T O m = T := fun h => by
    apply list_ext
    rw [hl, h, List.take_of_length_le (by omega), List.drop_of_length_le (by omega), List.append_nil]
  refine ⟨?_, h64⟩
  have hs : (torn T O m).size = 64 := by
    rw [← size_list, hl, List.length_append, List.length_take, List.length_drop]; omega
  by_cases h1 : m < 6
  · left
    apply list_ext
    rw [hl]
    have e3 : T.data.toList.take m = O.data.toList.take m := by
      have e1 : T.data.toList.take m = (T.data.toList.take 6).take m := by rw [List.take_take, Nat.min_eq_left (by omega)]
      have e2 : O.data.toList.take m = (O.data.toList.take 6).take m := by rw [List.take_take, Nat.min_eq_left (by omega)]
      rw [e1, e2, hT.fst, hO.fst]
      exact st6_take _ _ _ (by omega)
    rw [e3, List.take_append_drop]
  · by_cases h3 : m = 64
    · exact .inr (.inl (h64 h3))
    · right; right
      refine ⟨hs, ?_, ?_, by omega, ht⟩
      · rw [hl, List.take_append_of_le_length (by rw [List.length_take]; omega), List.take_take, Nat.min_eq_left (by omega), hT.fst]
      · rw [hl]
        by_cases h2 : m ≤ 58
        · rw [List.drop_append, List.drop_of_length_le (by rw [List.length_take]; omega), List.nil_append, List.length_take, List.drop_drop, ← hO.lst]
          congr 1; omega
        · rw [List.drop_append_of_le_length (by rw [List.length_take]; omega), List.drop_take]
          have e2 : O.data.toList.drop m = (O.data.toList.drop 58).drop (m - 58) := by rw [List.drop_drop]; congr 1; omega
          rw [e2, hT.lst, hO.lst]
          exact st6_mix _ _ _ (by omega)

/-- What bodies a list of sheets has. -/
theorem drainL_app {A R : List ByteArray} (h : ∀ s ∈ A, wholeB s = true) : drainL (A ++ R) = (A.map fun s => (openR s).2.1) ++ drainL R := by
  induction A with
  | nil => rfl
  | cons a A ih =>
    have := ih fun s hs => h s (by simp [hs])
    unfold drainL at this ⊢
    rw [List.cons_append, List.takeWhile_cons_of_pos (h a (by simp)), List.map_cons, this]
    rfl
theorem drainL_get {L : List ByteArray} {j : Nat} {x : ByteArray} (h : (drainL L)[j]? = some x) : ∃ (hj : j < L.length), wholeB L[j] = true ∧ x = (openR L[j]).2.1 := by
  induction L generalizing j with
  | nil => simp [drainL] at h
  | cons a L ih =>
    by_cases ha : wholeB a = true
    · have e : drainL (a :: L) = (openR a).2.1 :: drainL L := by unfold drainL; rw [List.takeWhile_cons_of_pos ha]; rfl
      rw [e] at h
      cases j with
      | zero => simp at h; exact ⟨by simp, ha, h.symm⟩
      | succ j =>
        obtain ⟨hj, h1, h2⟩ := ih (by simpa using h)
        exact ⟨by simp; omega, by simpa using h1, by simpa using h2⟩
    · have e : drainL (a :: L) = [] := by unfold drainL; rw [List.takeWhile_cons_of_neg ha]; rfl
      rw [e] at h
      simp at h
theorem drainL_no {L : List ByteArray} (h : ∀ s, L[0]? = some s → wholeB s = false) : drainL L = [] := by
  cases L with
  | nil => rfl
  | cons a L =>
    unfold drainL
    rw [List.takeWhile_cons_of_neg (by rw [h a rfl]; decide)]
    rfl

theorem bodyB_self {b : ByteArray} (h : b.size = 52) : Sht.bodyB b = b := by
  unfold Sht.bodyB
  rw [h]
  simp
theorem open_body {n : Nat} {b : ByteArray} (h1 : 1 ≤ n) (h2 : n ≤ 1099511627776) (h : b.size = 52) : openR (sheetB n b) = ((n : Int), b, 0) := by
  rw [open_sheet n b h1 h2 (by omega), bodyB_self h]

theorem topL_ge {L : List ByteArray} {s : ByteArray} (h : s ∈ L) : topR s ≤ topL L := by
  unfold topL
  suffices H : ∀ (L : List ByteArray) (z : Int), z ≤ L.foldl (fun t s => max t (topR s)) z ∧ ∀ s ∈ L, topR s ≤ L.foldl (fun t s => max t (topR s)) z from (H L 0).2 s h
  intro L
  induction L with
  | nil => intro z; exact ⟨Int.le_refl _, fun s h => by simp at h⟩
  | cons a L ih =>
    intro z
    rw [List.foldl_cons]
    obtain ⟨h1, h2⟩ := ih (max z (topR a))
    refine ⟨by omega, fun s hs => ?_⟩
    rcases List.mem_cons.1 hs with rfl | hs
    · omega
    · exact h2 s hs
theorem topL_le {L : List ByteArray} {m : Int} (h0 : 0 ≤ m) (h : ∀ s ∈ L, topR s ≤ m) : topL L ≤ m := by
  unfold topL
  suffices H : ∀ (L : List ByteArray) (z : Int), z ≤ m → (∀ s ∈ L, topR s ≤ m) → L.foldl (fun t s => max t (topR s)) z ≤ m from H L 0 h0 h
  intro L
  induction L with
  | nil => intro z hz _; exact hz
  | cons a L ih =>
    intro z hz h
    rw [List.foldl_cons]
    have := h a (by simp)
    exact ih _ (by omega) fun s hs => h s (by simp [hs])
theorem topL_nonneg (L : List ByteArray) : 0 ≤ topL L := by
  unfold topL
  suffices H : ∀ (L : List ByteArray) (z : Int), z ≤ L.foldl (fun t s => max t (topR s)) z from H L 0
  intro L
  induction L with
  | nil => intro z; exact Int.le_refl _
  | cons a L ih => intro z; rw [List.foldl_cons]; have := ih (max z (topR a)); omega

end Go.Proofs.YtmgpngfgmfdldaaGreatDoor.Slt

/- Plain facts on slots: what is saved is loaded. -/
namespace Go.Proofs.YtmgpngfgmfdldaaGreatDoor.Slt
open Go.RowKit Go.Proofs.YtmgpngfgmfdldaaGreatDoor.Dsk Go.Proofs.YtmgpngfgmfdldaaGreatDoor.Sht Go.Proofs.YtmgpngfgmfdldaaGreatDoor.Shf Go.Proofs.YtmgpngfgmfdldaaGreatDoor.Oct

/-- A disk that may be, on which nothing waits. -/
structure Good (S : List ByteArray) : Prop where
  lo : 16 ≤ S.length
  hi : S.length ≤ 512
  ok : secOk S = true
theorem Good.chk {S : List ByteArray} (h : Good S) {f : Int} (hf : -1 ≤ f) : chk S [] f = 0 := chk0 ⟨h.lo, h.hi, hf⟩ h.ok (by simp) (by simp)
theorem Good.sz {S : List ByteArray} (h : Good S) : sizR S.length = ((S.length / 4 : Nat) : Int) := by have := h.lo; have := h.hi; rw [sizR_of (by omega) (by omega)]; omega
theorem Good.secs {S : List ByteArray} (_ : Good S) : secsD S [] = S := secsD_nil S
theorem Good.mem {S : List ByteArray} (_ : Good S) {s : ByteArray} (hs : s ∈ S) : ∃ q, q < S.length ∧ secAt S q = s := by
  obtain ⟨q, hq, e⟩ := List.getElem_of_mem hs
  exact ⟨q, hq, by rw [secAt_eq hq, e]⟩
theorem Good.sec_mem {S : List ByteArray} (_ : Good S) {q : Nat} (hq : q < S.length) : secAt S q ∈ S := by rw [secAt_eq hq]; exact List.getElem_mem hq

theorem isS_nat {k : Nat} (hk : k < 2) : isS (k : Int) = true := by unfold isS; simp; omega
theorem Good.mayL {S : List ByteArray} (h : Good S) {k : Nat} (hk : k < 2) : mayL S [] (-1) k = true := by
  unfold Slt.mayL
  rw [h.chk (by omega), isS_nat hk]
  rfl
theorem Good.slotB {S : List ByteArray} (h : Good S) {k : Nat} (hk : k < 2) : slotB S [] (-1) k = drainL (part S (k * (S.length / 4)) ((k + 1) * (S.length / 4))) := by
  have e1 : ((k : Int) * ((S.length / 4 : Nat) : Int)) = ((k * (S.length / 4) : Nat) : Int) := by push_cast; rfl
  have e2 : (((k : Int) + 1) * ((S.length / 4 : Nat) : Int)) = (((k + 1) * (S.length / 4) : Nat) : Int) := by push_cast; rfl
  have e3 : (k + 1) * (S.length / 4) ≤ S.length := by
    have : (k + 1) * (S.length / 4) ≤ 2 * (S.length / 4) := Nat.mul_le_mul_right _ (by omega)
    omega
  have e4 : k * (S.length / 4) ≤ (k + 1) * (S.length / 4) := Nat.mul_le_mul_right _ (by omega)
  unfold Slt.slotB drainD
  rw [h.sz, e1, e2, if_pos (okS_of (h.chk (by omega)) (by omega) (by omega) (by omega)), Int.toNat_natCast, Int.toNat_natCast, h.secs]

theorem part_getD {S : List ByteArray} {a b i : Nat} (hi : i < b - a) (hb : b ≤ S.length) : (part S a b)[i]? = some (secAt S (a + i)) := by
  rw [List.getElem?_eq_getElem (by rw [part_length hb]; exact hi), part_get hi hb, secAt_eq]

theorem loadE_some {s : ByteArray} {B : List ByteArray} (h1 : errR s = 0) (h2 : kA s = 1) (h3 : nA s = 0) : loadE (s :: B) = errJ 1 (gA s) 0 (s :: B) := by
  unfold loadE
  dsimp only
  rw [if_pos h1, if_pos ⟨h2, h3⟩]

/-- A text that lies in a slot. -/
structure Lies (S : List ByteArray) (a st g : Nat) (t : ByteArray) : Prop where
  g1 : 1 ≤ g
  g2 : g ≤ 1099511627776
  s1 : 1 ≤ st
  s2 : st + cntN t.size ≤ 1099511627776
  sz : (t.size : Int) ≤ 16000
  sec : ∀ i, i < cntN t.size → secAt S (a + i) = sheetB (st + i) (bodyAt 1 g 0 (cntN t.size) (loadT t) i)

theorem body52 {g : Nat} {t : ByteArray} {i : Nat} (hi : i < cntN t.size) : (bodyAt 1 g 0 (cntN t.size) (loadT t) i).size = 52 := by
  unfold bodyAt
  exact body_size (part_len (loadT_size t) hi)

theorem Lies.drain {S : List ByteArray} {a b st g : Nat} {t : ByteArray} (h : Lies S a st g t) (hb : b ≤ S.length) (hc : a + cntN t.size ≤ b) :
    ∃ R, drainL (part S a b) = bodiesT 1 g 0 t ++ R := by
  have hs1 := h.s1; have hs2 := h.s2
  have e : (part S a b).take (cntN t.size) = (List.range (cntN t.size)).map fun i => sheetB (st + i) (bodyAt 1 g 0 (cntN t.size) (loadT t) i) := by
    apply List.ext_getElem?
    intro i
    rw [List.getElem?_take]
    by_cases hi : i < cntN t.size
    · rw [if_pos hi, part_getD (by omega) hb, h.sec i hi]
      simp [hi]
    · rw [if_neg hi]; simp [hi]
  rw [← List.take_append_drop (cntN t.size) (part S a b), e, drainL_app]
  · refine ⟨_, congrArg (· ++ _) ?_⟩
    unfold bodiesT
    rw [List.map_map]
    apply List.map_congr_left
    intro i hi
    have hi := List.mem_range.1 hi
    show (openR (sheetB (st + i) _)).2.1 = _
    rw [open_body (by omega) (by omega) (body52 hi)]
  · intro s hs
    obtain ⟨i, hi, rfl⟩ := List.mem_map.1 hs
    have hi := List.mem_range.1 hi
    unfold wholeB
    rw [open_body (by omega) (by omega) (body52 hi)]
    rfl

theorem loads_of {g : Nat} {t : ByteArray} (hg1 : 1 ≤ g) (hg2 : g ≤ 1099511627776) (ht : (t.size : Int) ≤ 16000) (R : List ByteArray) :
    loadE (bodiesT 1 g 0 t ++ R) = 0 ∧ loadG (bodiesT 1 g 0 t ++ R) = g ∧ loadT' (bodiesT 1 g 0 t ++ R) = t := by
  have hH : Head 1 g 0 := ⟨by omega, hg1, hg2, by omega⟩
  have hp := cnt_pos t
  have h0 : (bodiesT 1 g 0 t ++ R)[0]? = some (bodyAt 1 g 0 (cntN t.size) (loadT t) 0) := by
    rw [List.getElem?_append_left (by rw [bodiesT_len]; exact hp)]
    exact bodiesT_at 0 hp
  obtain ⟨j1, j2, -⟩ := join_back hH ht (begins_append (k := 1) (g := g) (n := 0) (t := t) R)
  have hd := part_len (loadT_size t) hp
  have e1 : errR (bodyAt 1 g 0 (cntN t.size) (loadT t) 0) = 0 := at_errR hH (loadT_size t) (cnt_lt ht) hp
  have e2 : kA (bodyAt 1 g 0 (cntN t.size) (loadT t) 0) = 1 := by unfold bodyAt; exact body_k (by omega)
  have e3 : nA (bodyAt 1 g 0 (cntN t.size) (loadT t) 0) = 0 := by unfold bodyAt; exact body_n (by omega)
  have e4 : gA (bodyAt 1 g 0 (cntN t.size) (loadT t) 0) = g := by unfold bodyAt; exact body_g (by omega)
  cases hB : bodiesT 1 g 0 t ++ R with
  | nil => rw [hB] at h0; simp at h0
  | cons s B =>
    rw [hB] at h0 j1 j2
    obtain rfl : s = bodyAt 1 g 0 (cntN t.size) (loadT t) 0 := by simpa using h0
    have eE : loadE (bodyAt 1 g 0 (cntN t.size) (loadT t) 0 :: B) = 0 := by rw [loadE_some e1 e2 e3, e4]; exact j1
    refine ⟨eE, ?_, ?_⟩
    · unfold loadG; rw [if_pos eE]; exact e4
    · unfold loadT'; rw [if_pos eE]; exact j2

theorem Lies.load {S : List ByteArray} (hG : Good S) {k : Nat} (hk : k < 2) {st g : Nat} {t : ByteArray} (h : Lies S (k * (S.length / 4)) st g t) (hc : cntN t.size ≤ S.length / 4) :
    loadDE S [] (-1) k = 0 ∧ loadDG S [] (-1) k = g ∧ loadDT S [] (-1) k = t := by
  have e3 : (k + 1) * (S.length / 4) ≤ S.length := by
    have : (k + 1) * (S.length / 4) ≤ 2 * (S.length / 4) := Nat.mul_le_mul_right _ (by omega)
    omega
  obtain ⟨R, hR⟩ := h.drain e3 (by rw [Nat.succ_mul]; omega)
  unfold loadDE loadDG loadDT
  rw [if_pos (hG.mayL hk), if_pos (hG.mayL hk), if_pos (hG.mayL hk), hG.slotB hk, hR]
  exact loads_of h.g1 h.g2 h.sz R

theorem load_bad {S : List ByteArray} (hG : Good S) {k : Nat} (hk : k < 2) (h : wholeB (secAt S (k * (S.length / 4))) = false) : loadDE S [] (-1) k = 6 ∧ loadDG S [] (-1) k = 0 ∧ loadDT S [] (-1) k = ⟨#[]⟩ := by
  have hl := hG.lo
  have e3 : (k + 1) * (S.length / 4) ≤ S.length := by
    have : (k + 1) * (S.length / 4) ≤ 2 * (S.length / 4) := Nat.mul_le_mul_right _ (by omega)
    omega
  have e : drainL (part S (k * (S.length / 4)) ((k + 1) * (S.length / 4))) = [] := drainL_no fun s hs => by
    rw [part_getD (by rw [Nat.succ_mul]; omega) e3] at hs
    rw [← Option.some.inj hs]
    exact h
  unfold loadDE loadDG loadDT
  rw [if_pos (hG.mayL hk), if_pos (hG.mayL hk), if_pos (hG.mayL hk), hG.slotB hk, e]
  exact ⟨rfl, rfl, rfl⟩

end Go.Proofs.YtmgpngfgmfdldaaGreatDoor.Slt

/- Plain facts on slots: what a save, and a crash behind it, leave. -/
namespace Go.Proofs.YtmgpngfgmfdldaaGreatDoor.Slt
open Go.RowKit Go.Proofs.YtmgpngfgmfdldaaGreatDoor.Dsk Go.Proofs.YtmgpngfgmfdldaaGreatDoor.Sht Go.Proofs.YtmgpngfgmfdldaaGreatDoor.Shf Go.Proofs.YtmgpngfgmfdldaaGreatDoor.Oct

theorem goAll_len (S : List ByteArray) (V : List Wr) (c : Nat → Nat) : (goAll S V c).length = S.length := by
  unfold goAll
  suffices H : ∀ (L : List (Wr × Nat)) (T : List ByteArray), (L.foldl (fun S p => goOne S p.1 (c p.2)) T).length = T.length from H _ _
  intro L
  induction L with
  | nil => intro T; rfl
  | cons x L ih => intro T; rw [List.foldl_cons, ih, goOne_length]

/-- What may be saved, and where. -/
structure May (S : List ByteArray) (k g : Nat) (t : ByteArray) : Prop where
  good : Good S
  k : k < 2
  g1 : 1 ≤ g
  g2 : g + cntN t.size ≤ 1099511627776
  sz : (t.size : Int) ≤ 16000
  fits : cntN t.size ≤ S.length / 4

theorem bodies_small {g : Nat} {t : ByteArray} : ∀ b ∈ bodiesT 1 g 0 t, b.size = 52 := by
  intro b hb
  obtain ⟨i, hi⟩ := List.mem_iff_getElem?.1 hb
  obtain ⟨h1, -⟩ := List.getElem?_eq_some_iff.1 hi
  rw [bodiesT_len] at h1
  rw [bodiesT_at i h1] at hi
  rw [← Option.some.inj hi]
  exact body52 h1
theorem bodies_getD {g : Nat} {t : ByteArray} {i : Nat} (hi : i < cntN t.size) : (bodiesT 1 g 0 t).getD i ⟨#[]⟩ = bodyAt 1 g 0 (cntN t.size) (loadT t) i := by
  simp only [List.getD, bodiesT_at i hi, Option.getD_some]

section
variable {S : List ByteArray} {k g : Nat} {t : ByteArray}

theorem May.bound (h : May S k g t) : k * (S.length / 4) + cntN t.size ≤ S.length := by
  have := h.fits
  have : (k + 1) * (S.length / 4) ≤ 2 * (S.length / 4) := Nat.mul_le_mul_right _ (by have := h.k; omega)
  rw [Nat.succ_mul] at this
  omega

/-- What Save leaves. -/
theorem save_form (h : May S k g t) (f : Int) (hf : -1 ≤ f) :
    ∃ j f', j ≤ cntN t.size ∧ -1 ≤ f' ∧ (f = -1 → f' = -1) ∧
      ((saveR S [] f k g g t = ⟨goAll S (wrs (bodiesT 1 g 0 t) g (k * (S.length / 4))) (fun _ => 64), [], f', ((k * (S.length / 4) : Nat) : Int) + cntN t.size, (g : Int) + cntN t.size, 0⟩) ∨
       (f ≠ -1 ∧ chk S ((wrs (bodiesT 1 g 0 t) g (k * (S.length / 4))).take j) f' = 0 ∧ saveR S [] f k g g t = ⟨S, (wrs (bodiesT 1 g 0 t) g (k * (S.length / 4))).take j, f', ((k * (S.length / 4) : Nat) : Int), g, 21⟩)) := by
  have hg1 := h.g1; have hg2 := h.g2; have hlo := h.good.lo; have hhi := h.good.hi; have hfit := h.fits
  have hH : Head 1 g 0 := ⟨by omega, hg1, by omega, by omega⟩
  obtain ⟨hE, hL⟩ := layS_eq hH h.sz
  have hbound := h.bound
  have hcp := cnt_pos t
  have e1 : ((k : Int) * ((S.length / 4 : Nat) : Int)) = ((k * (S.length / 4) : Nat) : Int) := by push_cast; rfl
  have e2 : (((k : Int) + 1) * ((S.length / 4 : Nat) : Int)) = (((k + 1) * (S.length / 4) : Nat) : Int) := by push_cast; rfl
  have e3 : (k + 1) * (S.length / 4) ≤ S.length := by
    have := h.k
    have : (k + 1) * (S.length / 4) ≤ 2 * (S.length / 4) := Nat.mul_le_mul_right _ (by omega)
    omega
  have e4 : (k + 1) * (S.length / 4) = k * (S.length / 4) + S.length / 4 := Nat.succ_mul _ _
  have hlen : (layS 1 (g : Int) (0 : Int) t).length = cntN t.size := by
    have : layS 1 (g : Int) (0 : Int) t = bodiesT 1 g 0 t := hL
    rw [this, bodiesT_len]
  have hlay : layS 1 (g : Int) (0 : Int) t = bodiesT 1 g 0 t := hL
  have hE' : errL (g : Int) (0 : Int) t = 0 := hE
  have hpour : pourE S [] f ((k * (S.length / 4) : Nat) : Int) (((k + 1) * (S.length / 4) : Nat) : Int) 1 g 0 g t = 0 := by
    unfold pourE
    rw [if_pos (okS_of (h.good.chk hf) (by omega) (by omega) (by omega)), if_pos hE', hlen, if_pos (by omega), if_pos (by omega)]
  obtain ⟨j, f', e, hj, hl, hc, he, hm⟩ := lays_form S (bodiesT 1 g 0 t) g (k * (S.length / 4)) [] f (h.good.chk hf) (by rw [bodiesT_len]; omega) (by rw [bodiesT_len]; simp; omega) hg1 (by rw [bodiesT_len]; omega) (fun b hb => by rw [bodies_small b hb]; omega)
  rw [bodiesT_len] at hj he
  rw [List.nil_append] at hl hc
  rw [wrs_take] at hl hc
  have hf' : -1 ≤ f' := (chk_ok hc).1.2.2
  unfold saveR
  rw [if_pos (isS_nat h.k), h.good.sz, e1, e2]
  unfold pourR
  rw [if_pos hpour, hlay, hl, bodiesT_len]
  rcases he with ⟨rfl, rfl⟩ | rfl
  · have hwt : (wrs (bodiesT 1 g 0 t) g (k * (S.length / 4))).take (cntN t.size) = wrs (bodiesT 1 g 0 t) g (k * (S.length / 4)) := List.take_of_length_le (by rw [wrs_length, bodiesT_len]; omega)
    rw [hwt] at hc ⊢
    by_cases h0 : f' = 0
    · have hfl : flushR S (wrs (bodiesT 1 g 0 t) g (k * (S.length / 4)), f', 0) = (S, wrs (bodiesT 1 g 0 t) g (k * (S.length / 4)), f', 21) := by
        unfold flushR flushE; dsimp only; rw [if_pos rfl, if_pos hc, if_pos h0]; rfl
      rw [hfl]
      dsimp only
      rw [if_neg (by decide)]
      refine ⟨cntN t.size, f', Nat.le_refl _, hf', fun x => (hm x).2, .inr ⟨fun x => ?_, by rw [hwt]; exact hc, by rw [hwt]⟩⟩
      have := (hm x).2
      omega
    · have hfl : flushR S (wrs (bodiesT 1 g 0 t) g (k * (S.length / 4)), f', 0) = (goAll S (wrs (bodiesT 1 g 0 t) g (k * (S.length / 4))) (fun _ => 64), [], burnt f', 0) := by
        unfold flushR flushE; dsimp only; rw [if_pos rfl, if_pos hc, if_neg h0]; rfl
      rw [hfl]
      dsimp only
      rw [if_pos rfl]
      exact ⟨cntN t.size, burnt f', Nat.le_refl _, burnt_ge hf', fun x => by rw [(hm x).2]; rfl, .inl rfl⟩
  · have hfl : flushR S ((wrs (bodiesT 1 g 0 t) g (k * (S.length / 4))).take j, f', 21) = (S, (wrs (bodiesT 1 g 0 t) g (k * (S.length / 4))).take j, f', 21) := rfl
    rw [hfl]
    dsimp only
    rw [if_neg (by decide)]
    exact ⟨j, f', hj, hf', fun x => (hm x).2, .inr ⟨fun x => by have := (hm x).1; omega, hc, rfl⟩⟩

theorem goAll_good (h : May S k g t) (j : Nat) (c : Nat → Nat) (hc : ∀ i, c i ≤ 64) : Good (goAll S ((wrs (bodiesT 1 g 0 t) g (k * (S.length / 4))).take j) c) := by
  have hb := h.bound
  have hw : (wrs (bodiesT 1 g 0 t) g (k * (S.length / 4))).all (wrOk S.length) = true := by
    rw [List.all_eq_true]
    intro x hx
    obtain ⟨i, hi, rfl⟩ := List.getElem_of_mem hx
    rw [wrs_length, bodiesT_len] at hi
    rw [wrs_get _ _ _ _ (by rw [bodiesT_len]; exact hi), wrOk_iff]
    refine ⟨by simp only; omega, by simp only; omega, sheetB_size _ _ ?_⟩
    rw [bodies_small _ (List.getElem_mem _)]; omega
  obtain ⟨h1, h2⟩ := goAll_ok h.good.ok hw hc j
  exact ⟨by rw [h2]; exact h.good.lo, by rw [h2]; exact h.good.hi, h1⟩

/-- What each sector has, behind a save that was broken off. -/
theorem sec_saved (h : May S k g t) (c : Nat → Nat) (j : Nat) (hj : j ≤ cntN t.size) (q : Nat) (hq : q < S.length) :
    secAt (goAll S ((wrs (bodiesT 1 g 0 t) g (k * (S.length / 4))).take j) c) q =
      if k * (S.length / 4) ≤ q ∧ q < k * (S.length / 4) + j then torn (sheetB (g + (q - k * (S.length / 4))) (bodyAt 1 g 0 (cntN t.size) (loadT t) (q - k * (S.length / 4)))) (secAt S q) (c (q - k * (S.length / 4))) else secAt S q := by
  have hb := h.bound
  rw [sec_after h.good.ok (by rw [bodiesT_len]; omega) c q hq j (by rw [bodiesT_len]; exact hj)]
  by_cases hh : k * (S.length / 4) ≤ q ∧ q < k * (S.length / 4) + j
  · rw [dif_pos hh, if_pos hh, bodies_getD (by omega)]
  · rw [dif_neg hh, if_neg hh]
end

theorem torn_64 {T O : ByteArray} (hT : T.size = 64) (hO : O.size = 64) : torn T O 64 = T := by
  apply list_ext
  rw [torn_list, List.take_of_length_le (by rw [size_list]; omega), List.drop_of_length_le (by rw [size_list]; omega), List.append_nil]

end Go.Proofs.YtmgpngfgmfdldaaGreatDoor.Slt
