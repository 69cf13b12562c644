/- Plain facts on acts: what they make of a device, what is read of it. -/
import Derived.Test.YtkglolnghihegaaGreatDoorDskA
namespace Go.Proofs.YtkglolnghihegaaGreatDoor.Dsk

/-- An act: a place, a byte, a flush. -/
structure Act where
  a : Nat
  b : UInt8
  fl : Bool

def dS (S : List ByteArray) (W : List Wr) (x : Act) : List ByteArray := if x.fl = true then goAll S W (fun _ => 64) else S
def dW (W : List Wr) (x : Act) : List Wr := if x.fl = true then [] else W ++ [(((x.a % 16 : Nat) : Int), fillS x.b)]

/-- A device of 16 sectors that may be, with at most k writes that wait. -/
structure Fine (S : List ByteArray) (W : List Wr) (f : Int) (k : Nat) : Prop where
  ok : chk S W f = 0
  len : S.length = 16
  few : W.length ≤ k

theorem chk_of {S : List ByteArray} {W : List Wr} {f : Int} (h1 : 16 ≤ S.length) (h2 : S.length ≤ 512) (h3 : -1 ≤ f) (h4 : secOk S = true) (h5 : W.length ≤ 1024) (h6 : W.all (wrOk S.length) = true) : chk S W f = 0 := chk0 ⟨h1, h2, h3⟩ h4 h5 h6
theorem burnt_ge {f : Int} (h : -1 ≤ f) : -1 ≤ burnt f := by unfold burnt; split <;> omega

theorem Fine.act {S : List ByteArray} {W : List Wr} {f : Int} {k : Nat} (h : Fine S W f k) (hk : k < 1024) (x : Act) : Fine (dS S W x) (dW W x) (burnt f) (k + 1) := by
  obtain ⟨⟨h1, h2, h3⟩, h4, h5, h6⟩ := chk_ok h.ok
  have hl := h.len
  have hf := h.few
  unfold dS dW
  by_cases hx : x.fl = true
  · rw [if_pos hx, if_pos hx]
    obtain ⟨g1, g2⟩ := goAll_all (c := fun _ => 64) h4 h6 (fun _ => Nat.le_refl _)
    exact ⟨chk_of (by omega) (by omega) (burnt_ge h3) g1 (by simp) (by simp), by omega, by simp⟩
  · rw [if_neg hx, if_neg hx]
    refine ⟨chk_of h1 h2 (burnt_ge h3) h4 (by simp; omega) ?_, hl, by simp; omega⟩
    rw [List.all_append, h6]
    simp only [List.all_cons, List.all_nil, Bool.and_true, Bool.true_and]
    rw [wrOk_iff, hl]
    exact ⟨by omega, by omega, fillS_size _⟩

theorem Fine.putE {S : List ByteArray} {W : List Wr} {f : Int} {k : Nat} (h : Fine S W f k) (hk : k < 1024) (p : Nat) (hp : p < 16) (s : ByteArray) (hs : s.size = 64) : putE S W f p s = if f = 0 then 21 else 0 := by
  have hl := h.len
  have hf := h.few
  unfold Dsk.putE
  rw [if_pos h.ok, if_pos (by omega), if_pos hs]
  split
  · rfl
  · rw [if_neg (by omega)]
theorem Fine.flushE {S : List ByteArray} {W : List Wr} {f : Int} {k : Nat} (h : Fine S W f k) : flushE S W f = if f = 0 then 21 else 0 := by
  unfold Dsk.flushE
  rw [if_pos h.ok]

theorem fine_new : Fine (newS 16) [] (-1) 0 := ⟨by decide +kernel, by decide +kernel, by simp⟩
theorem Fine.fuse {S : List ByteArray} {W : List Wr} {f : Int} {k : Nat} (h : Fine S W f k) (g : Int) (hg : -1 ≤ g) : Fine S W g k := by
  obtain ⟨⟨h1, h2, h3⟩, h4, h5, h6⟩ := chk_ok h.ok
  exact ⟨chk_of h1 h2 hg h4 h5 h6, h.len, h.few⟩
theorem Fine.more {S : List ByteArray} {W : List Wr} {f : Int} {k l : Nat} (h : Fine S W f k) (hl : k ≤ l) : Fine S W f l := ⟨h.ok, h.len, by have := h.few; omega⟩

/-- One write that goes, sector by sector. -/
theorem goOne_at (S : List ByteArray) (x : Wr) (n p : Nat) (hx : 0 ≤ x.1) (hp : p < S.length) : secAt (goOne S x n) p = if x.1 = p then x.2.extract 0 n ++ (secAt S p).extract n (secAt S p).size else secAt S p := by
  have hl : p < (goOne S x n).length := by rw [goOne_length]; exact hp
  have hset : (goOne S x n)[p] = if x.1.toNat = p then x.2.extract 0 n ++ (secAt S x.1.toNat).extract n (secAt S x.1.toNat).size else S[p] := by
    simp only [goOne, List.getElem_set]
  rw [secAt_eq hl, hset]
  by_cases h : x.1 = p
  · have e : x.1.toNat = p := by omega
    rw [if_pos e, if_pos h, e]
  · have e : ¬ x.1.toNat = p := by omega
    rw [if_neg e, if_neg h, secAt_eq hp]

theorem ext_nil (s : ByteArray) : s.extract s.size s.size = ByteArray.empty := by
  apply ByteArray.ext
  simp
theorem app_nil (s : ByteArray) : s ++ ByteArray.empty = s := by
  apply ByteArray.ext
  simp
theorem ext_all (s : ByteArray) (n : Nat) (h : s.size ≤ n) : s.extract 0 n = s := by
  apply ByteArray.ext
  rw [ByteArray.data_extract]
  simp
  exact .inr h

theorem sec_size {S : List ByteArray} (h : secOk S = true) {p : Nat} (hp : p < S.length) : (secAt S p).size = 64 := by
  rw [secAt_eq hp]; exact (secOk_iff S).1 h _ (List.getElem_mem hp)

/-- Where all writes go whole, a sector is what was read of it. -/
theorem goAll_last {S : List ByteArray} {W : List Wr} (hs : secOk S = true) (hw : W.all (wrOk S.length) = true) (p : Nat) (hp : p < S.length) (k : Nat) :
    secAt (goAll S (W.take k) fun _ => 64) p = lastW (W.take k) p (secAt S p) := by
  induction k with
  | zero => rfl
  | succ k ih =>
    by_cases hk : k < W.length
    · obtain ⟨g1, g2⟩ := goAll_ok (c := fun _ => 64) hs hw (fun _ => Nat.le_refl _) k
      have hx := (wrOk_iff _ _).1 (List.all_eq_true.1 hw _ (List.getElem_mem hk))
      rw [goAll_take S W k hk, goOne_at _ _ _ _ hx.1 (by omega), List.take_succ_eq_append_getElem hk, lastW_snoc, ih]
      split
      · rw [ext_all _ _ (by omega)]
        have e : (lastW (W.take k) p (secAt S p)).size = 64 := by rw [← ih]; exact sec_size g1 (by omega)
        have e2 : (lastW (W.take k) p (secAt S p)).extract 64 (lastW (W.take k) p (secAt S p)).size = ByteArray.empty := by
          have := ext_nil (lastW (W.take k) p (secAt S p))
          rwa [e] at this ⊢
        rw [e2, app_nil]
      · rfl
    · rw [List.take_of_length_le (by omega)] at ih ⊢
      exact ih
theorem goAll_read {S : List ByteArray} {W : List Wr} (hs : secOk S = true) (hw : W.all (wrOk S.length) = true) (p : Nat) (hp : p < S.length) :
    secAt (goAll S W fun _ => 64) p = lastW W p (secAt S p) := by
  have := goAll_last hs hw p hp W.length
  rwa [List.take_of_length_le (Nat.le_refl _)] at this

theorem Fine.rd {S : List ByteArray} {W : List Wr} {f : Int} {k : Nat} (h : Fine S W f k) (p : Nat) (hp : p < 16) : rdS S W f p = lastW W p (secAt S p) ∧ rdE S W f p = 0 := by
  have hl := h.len
  unfold rdS rdE
  rw [if_pos ⟨h.ok, by omega, by omega⟩, if_pos h.ok, if_pos (by omega)]
  exact ⟨rfl, rfl⟩

end Go.Proofs.YtkglolnghihegaaGreatDoor.Dsk
namespace Go.Proofs.YtkglolnghihegaaGreatDoor.Dsk
/-- Each sector is read as it was put last. -/
def View (S : List ByteArray) (W : List Wr) (L : List UInt8) : Prop := ∀ p : Nat, p < 16 → lastW W p (secAt S p) = fillS (L.getD p 0)
/-- The bytes that were put last, behind an act. -/
def dL (L : List UInt8) (x : Act) : List UInt8 := if x.fl = true then L else L.set (x.a % 16) x.b
theorem dL_length (L : List UInt8) (x : Act) : (dL L x).length = L.length := by unfold dL; split <;> simp
theorem view_new : View (newS 16) [] (List.replicate 16 0) := by
  intro p hp
  have hl : p < (newS 16).length := by simp [newS]; exact hp
  have h1 : secAt (newS 16) p = fillS 0 := by rw [secAt_eq hl]; simp only [newS, List.getElem_replicate]
  have h2 : (List.replicate 16 (0 : UInt8)).getD p 0 = 0 := by simp only [List.getD, List.getElem?_replicate]; rw [if_pos hp]; rfl
  rw [h2]; exact h1
theorem View.act {S : List ByteArray} {W : List Wr} {L : List UInt8} (h : View S W L) {f : Int} {k : Nat} (hF : Fine S W f k) (hL : L.length = 16) (x : Act) : View (dS S W x) (dW W x) (dL L x) := by
  intro p hp
  have hl := hF.len
  obtain ⟨-, h4, -, h6⟩ := chk_ok hF.ok
  unfold dS dW dL
  by_cases hx : x.fl = true
  · rw [if_pos hx, if_pos hx, if_pos hx]
    show secAt (goAll S W fun _ => 64) p = _
    rw [goAll_read h4 h6 p (by omega)]
    exact h p hp
  · rw [if_neg hx, if_neg hx, if_neg hx, lastW_snoc]
    by_cases hp2 : ((x.a % 16 : Nat) : Int) = p
    · rw [if_pos hp2]
      have e : x.a % 16 = p := by omega
      simp only [List.getD, e, List.getElem?_set]
      simp [hL, hp]
    · rw [if_neg hp2, h p hp]
      have e : ¬ x.a % 16 = p := by omega
      simp only [List.getD, List.getElem?_set]
      rw [if_neg e]
end Go.Proofs.YtkglolnghihegaaGreatDoor.Dsk
