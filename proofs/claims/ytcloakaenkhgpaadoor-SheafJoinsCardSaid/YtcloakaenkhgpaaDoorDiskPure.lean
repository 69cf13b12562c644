/- Plain facts on devices: what each function of the layer answers, as functions of lists. -/
namespace Go.Proofs.YtcloakaenkhgpaaDoor.Dsk

/-- A write: a place and its bytes. -/
abbrev Wr := Int × ByteArray

/-- Have all sectors 64 bytes? -/
def secOk (S : List ByteArray) : Bool := S.all fun s => s.size == 64
/-- May a write wait at a device of n sectors? -/
def wrOk (n : Nat) (x : Wr) : Bool := (decide (0 ≤ x.1) && decide (x.1 < n)) && (x.2.size == 64)
/-- Check. -/
def chk (S : List ByteArray) (W : List Wr) (f : Int) : Int :=
  if 16 ≤ S.length ∧ S.length ≤ 512 ∧ -1 ≤ f then (if secOk S = true then (if W.length ≤ 1024 then (if W.all (wrOk S.length) = true then 0 else 2) else 20) else 5) else 8

theorem chk8 {S : List ByteArray} {W : List Wr} {f : Int} (h : ¬ (16 ≤ S.length ∧ S.length ≤ 512 ∧ -1 ≤ f)) : chk S W f = 8 := by unfold chk; rw [if_neg h]
theorem chk5 {S : List ByteArray} {W : List Wr} {f : Int} (h : 16 ≤ S.length ∧ S.length ≤ 512 ∧ -1 ≤ f) (h2 : secOk S = false) : chk S W f = 5 := by unfold chk; rw [if_pos h, if_neg (by simp [h2])]
theorem chk20 {S : List ByteArray} {W : List Wr} {f : Int} (h : 16 ≤ S.length ∧ S.length ≤ 512 ∧ -1 ≤ f) (h2 : secOk S = true) (h3 : 1024 < W.length) : chk S W f = 20 := by unfold chk; rw [if_pos h, if_pos h2, if_neg (by omega)]
theorem chk2 {S : List ByteArray} {W : List Wr} {f : Int} (h : 16 ≤ S.length ∧ S.length ≤ 512 ∧ -1 ≤ f) (h2 : secOk S = true) (h3 : W.length ≤ 1024) (h4 : W.all (wrOk S.length) = false) : chk S W f = 2 := by unfold chk; rw [if_pos h, if_pos h2, if_pos h3, if_neg (by simp [h4])]
theorem chk0 {S : List ByteArray} {W : List Wr} {f : Int} (h : 16 ≤ S.length ∧ S.length ≤ 512 ∧ -1 ≤ f) (h2 : secOk S = true) (h3 : W.length ≤ 1024) (h4 : W.all (wrOk S.length) = true) : chk S W f = 0 := by unfold chk; rw [if_pos h, if_pos h2, if_pos h3, if_pos h4]

theorem chk_ok {S : List ByteArray} {W : List Wr} {f : Int} (h : chk S W f = 0) : (16 ≤ S.length ∧ S.length ≤ 512 ∧ -1 ≤ f) ∧ secOk S = true ∧ W.length ≤ 1024 ∧ W.all (wrOk S.length) = true := by
  unfold chk at h
  split at h
  · split at h
    · split at h
      · split at h
        · exact ⟨‹_›, ‹_›, ‹_›, ‹_›⟩
        · omega
      · omega
    · omega
  · omega

theorem all_take_succ {α : Type} (p : α → Bool) (l : List α) (k : Nat) (h : k < l.length) : (l.take (k + 1)).all p = ((l.take k).all p && p l[k]) := by
  rw [List.take_succ_eq_append_getElem h, List.all_append]; simp
theorem all_false_of {α : Type} (p : α → Bool) (l : List α) (k : Nat) (h : k < l.length) (hp : p l[k] = false) : l.all p = false := by
  rw [List.all_eq_false]; exact ⟨_, List.getElem_mem h, by simp [hp]⟩
theorem all_of_take {α : Type} (p : α → Bool) (l : List α) (k : Nat) (h : l.length ≤ k) (hp : (l.take k).all p = true) : l.all p = true := by
  rwa [List.take_of_length_le h] at hp

/-- The data of the last write of a place. -/
def lastW (W : List Wr) (at_ : Int) (s : ByteArray) : ByteArray := W.foldl (fun s x => if x.1 = at_ then x.2 else s) s
theorem lastW_snoc (W : List Wr) (x : Wr) (p : Int) (s : ByteArray) : lastW (W ++ [x]) p s = if x.1 = p then x.2 else lastW W p s := by simp [lastW]
theorem lastW_none (W : List Wr) (p : Int) (s : ByteArray) (h : ∀ x ∈ W, x.1 ≠ p) : lastW W p s = s := by
  induction W generalizing s with
  | nil => rfl
  | cons x W ih => show lastW W p (if x.1 = p then x.2 else s) = s; rw [if_neg (h x (by simp))]; exact ih s fun y hy => h y (by simp [hy])
theorem lastW_append (W V : List Wr) (p : Int) (s : ByteArray) : lastW (W ++ V) p s = lastW V p (lastW W p s) := by simp [lastW]
theorem lastW_hit (W : List Wr) (p : Int) (s : ByteArray) (k : Nat) (h : k < W.length) (hp : W[k].1 = p) (hn : ∀ x ∈ W.drop (k + 1), x.1 ≠ p) : lastW W p s = W[k].2 := by
  have e : W = W.take k ++ [W[k]] ++ W.drop (k + 1) := by
    rw [← List.take_succ_eq_append_getElem h, List.take_append_drop]
  rw [show lastW W p s = lastW (W.take k ++ [W[k]] ++ W.drop (k + 1)) p s from by rw [← e], lastW_append, lastW_none _ _ _ hn, lastW_snoc, if_pos hp]

/-- A sector by its place. -/
def secAt (S : List ByteArray) (p : Nat) : ByteArray := S.getD p ByteArray.empty
theorem secAt_eq {S : List ByteArray} {p : Nat} (h : p < S.length) : secAt S p = S[p] := by simp [secAt, List.getD, h]

/-- Read. -/
def rdS (S : List ByteArray) (W : List Wr) (f p : Int) : ByteArray :=
  if chk S W f = 0 ∧ 0 ≤ p ∧ p < S.length then lastW W p (secAt S p.toNat) else ByteArray.empty
def rdE (S : List ByteArray) (W : List Wr) (f p : Int) : Int :=
  if chk S W f = 0 then (if 0 ≤ p ∧ p < S.length then 0 else 8) else 2

/-- A fuse behind one more act. -/
def burnt (f : Int) : Int := if 0 < f then f - 1 else f

/-- What stands against a put. -/
def putE (S : List ByteArray) (W : List Wr) (f p : Int) (s : ByteArray) : Int :=
  if chk S W f = 0 then (if 0 ≤ p ∧ p < S.length then (if s.size = 64 then (if f = 0 then 21 else (if W.length = 1024 then 20 else 0)) else 5) else 8) else 2
def flushE (S : List ByteArray) (W : List Wr) (f : Int) : Int := if chk S W f = 0 then (if f = 0 then 21 else 0) else 2

/-- One write goes with its first n bytes. -/
def goOne (S : List ByteArray) (x : Wr) (n : Nat) : List ByteArray :=
  S.set x.1.toNat (x.2.extract 0 n ++ (secAt S x.1.toNat).extract n (secAt S x.1.toNat).size)
/-- All writes go, the k-th with its first c k bytes. -/
def goAll (S : List ByteArray) (W : List Wr) (c : Nat → Nat) : List ByteArray := (W.zipIdx).foldl (fun S p => goOne S p.1 (c p.2)) S
theorem goAll_snoc (S : List ByteArray) (W : List Wr) (x : Wr) (c : Nat → Nat) : goAll S (W ++ [x]) c = goOne (goAll S W c) x (c W.length) := by
  simp [goAll, List.zipIdx_append]
theorem goAll_take (S : List ByteArray) (W : List Wr) (k : Nat) (h : k < W.length) (c : Nat → Nat) : goAll S (W.take (k + 1)) c = goOne (goAll S (W.take k) c) W[k] (c k) := by
  rw [List.take_succ_eq_append_getElem h, goAll_snoc, List.length_take, Nat.min_eq_left (by omega)]
theorem goAll_nil (S : List ByteArray) (c : Nat → Nat) : goAll S [] c = S := rfl
theorem goOne_length (S : List ByteArray) (x : Wr) (n : Nat) : (goOne S x n).length = S.length := by simp [goOne]

/-- How many bytes of the k-th write go. -/
def clamp (z : Int) : Nat := (min (max z 0) 64).toNat
def cutAt (cs : List Int) (k : Nat) : Nat := if h : k < cs.length then clamp cs[k] else 0
theorem clamp_le (z : Int) : clamp z ≤ 64 := by unfold clamp; omega
theorem cutAt_le (cs : List Int) (k : Nat) : cutAt cs k ≤ 64 := by unfold cutAt; split; exact clamp_le _; omega

theorem goAll_congr (S : List ByteArray) (W : List Wr) (c d : Nat → Nat) (h : ∀ k, k < W.length → c k = d k) : goAll S W c = goAll S W d := by
  suffices H : ∀ k, k ≤ W.length → goAll S (W.take k) c = goAll S (W.take k) d by
    have := H W.length (Nat.le_refl _)
    rwa [List.take_of_length_le (Nat.le_refl _)] at this
  intro k
  induction k with
  | zero => intro _; rfl
  | succ k ih => intro hk; rw [goAll_take S W k (by omega), goAll_take S W k (by omega), ih (by omega), h k (by omega)]

theorem secOk_iff (S : List ByteArray) : secOk S = true ↔ ∀ s ∈ S, s.size = 64 := by simp [secOk]
theorem wrOk_iff (n : Nat) (x : Wr) : wrOk n x = true ↔ 0 ≤ x.1 ∧ x.1 < n ∧ x.2.size = 64 := by simp [wrOk, and_assoc]

theorem goOne_ok {S : List ByteArray} {x : Wr} {n : Nat} (hs : secOk S = true) (hx : wrOk S.length x = true) (hn : n ≤ 64) : secOk (goOne S x n) = true := by
  rw [secOk_iff] at hs ⊢
  rw [wrOk_iff] at hx
  intro s hm
  unfold goOne at hm
  rcases List.mem_or_eq_of_mem_set hm with h | h
  · exact hs s h
  · subst h
    have hk : x.1.toNat < S.length := by omega
    have e : secAt S x.1.toNat = S[x.1.toNat] := secAt_eq hk
    have h2 := hs _ (List.getElem_mem hk)
    rw [e, ByteArray.size_append, ByteArray.size_extract, ByteArray.size_extract, h2]
    omega

theorem goAll_ok {S : List ByteArray} {W : List Wr} {c : Nat → Nat} (hs : secOk S = true) (hw : W.all (wrOk S.length) = true) (hc : ∀ k, c k ≤ 64) (k : Nat) :
    secOk (goAll S (W.take k) c) = true ∧ (goAll S (W.take k) c).length = S.length := by
  induction k with
  | zero => exact ⟨hs, rfl⟩
  | succ k ih =>
    by_cases hk : k < W.length
    · rw [goAll_take S W k hk]
      refine ⟨goOne_ok ih.1 ?_ (hc k), by rw [goOne_length]; exact ih.2⟩
      rw [ih.2]
      exact List.all_eq_true.1 hw _ (List.getElem_mem hk)
    · rw [List.take_of_length_le (by omega)] at ih ⊢
      exact ih

theorem goAll_all {S : List ByteArray} {W : List Wr} {c : Nat → Nat} (hs : secOk S = true) (hw : W.all (wrOk S.length) = true) (hc : ∀ k, c k ≤ 64) :
    secOk (goAll S W c) = true ∧ (goAll S W c).length = S.length := by
  have := goAll_ok (c := c) hs hw hc W.length
  rwa [List.take_of_length_le (Nat.le_refl _)] at this

/-- The fuse that Arm sets. -/
def armF (n : Int) : Int := min (max n (-1)) 1073741824

end Go.Proofs.YtcloakaenkhgpaaDoor.Dsk
namespace Go.Proofs.YtcloakaenkhgpaaDoor.Dsk
/-- Same. -/
def sameD (S : List ByteArray) (W : List Wr) (f : Int) (T : List ByteArray) (V : List Wr) (g : Int) : Bool := decide (f = g) && (decide (S = T) && decide (W = V))
theorem take_step {α : Type} {l m : List α} {k : Nat} (h : l.take k = m.take k) (h1 : k < l.length) (h2 : k < m.length) (e : l[k] = m[k]) : l.take (k + 1) = m.take (k + 1) := by
  rw [List.take_succ_eq_append_getElem h1, List.take_succ_eq_append_getElem h2, h, e]
theorem take_all {α : Type} {l m : List α} {k : Nat} (h : l.take k = m.take k) (h1 : l.length ≤ k) (h2 : m.length ≤ k) : l = m := by
  rwa [List.take_of_length_le h1, List.take_of_length_le h2] at h
theorem ne_at {α : Type} {l m : List α} {k : Nat} (h1 : k < l.length) (h2 : k < m.length) (e : ¬ l[k] = m[k]) : ¬ l = m := fun h => e (by subst h; rfl)
end Go.Proofs.YtcloakaenkhgpaaDoor.Dsk
namespace Go.Proofs.YtcloakaenkhgpaaDoor.Dsk
theorem putE_ok {S : List ByteArray} {W : List Wr} {f p : Int} {s : ByteArray} (h : putE S W f p s = 0) : chk S W f = 0 ∧ 0 ≤ p ∧ p < S.length ∧ s.size = 64 ∧ f ≠ 0 ∧ W.length < 1024 := by
  unfold putE at h
  split at h
  · split at h
    · split at h
      · split at h
        · omega
        · split at h
          · omega
          · rename_i h1 h2 h3 h4 h5
            have := (chk_ok h1).2.2.1
            exact ⟨h1, h2.1, h2.2, h3, h4, by omega⟩
      · omega
    · omega
  · omega
theorem burnt_lo {f : Int} (h : -9223372036854775808 ≤ f) : -9223372036854775808 ≤ burnt f := by unfold burnt; split <;> omega
theorem burnt_hi {f : Int} (h : f ≤ 9223372036854775807) : burnt f ≤ 9223372036854775807 := by unfold burnt; split <;> omega
end Go.Proofs.YtcloakaenkhgpaaDoor.Dsk
namespace Go.Proofs.YtcloakaenkhgpaaDoor.Dsk
/-- A sector of one byte. -/
def fillS (b : UInt8) : ByteArray := ⟨(List.replicate 64 b).toArray⟩
theorem fillS_size (b : UInt8) : (fillS b).size = 64 := by simp [fillS, ByteArray.size]
/-- A new device's sectors. -/
def newS (n : Nat) : List ByteArray := List.replicate n (fillS 0)
end Go.Proofs.YtcloakaenkhgpaaDoor.Dsk
