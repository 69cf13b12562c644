/- Plain facts on writes of one sector each that go in part. -/
import Derived.Test.YtgjhiekcdcicgaaPlain
namespace Go.Proofs.Ytgjhiekcdcicgaa

/-- A sector behind a crash: a beginning of what was put, and then what was there. -/
def Torn (a b c : ByteArray) (m : Nat) : Prop := m ≤ 64 ∧ b = c.extract 0 m ++ a.extract m a.size

theorem torn_take {T : List ByteArray} {V : List Wr} {c : Nat → Nat} (hs : secOk T = true) (hw : V.all (wrOk T.length) = true) (hd : (V.map (·.1)).Nodup) (hc : ∀ k, c k ≤ 64) (p : Nat) (hp : p < T.length) (k : Nat) :
    (∃ m, Torn (secAt T p) (secAt (goAll T (V.take k) c) p) (lastW (V.take k) p (secAt T p)) m) ∧
    ((∀ x ∈ V.take k, x.1 ≠ (p : Int)) → secAt (goAll T (V.take k) c) p = secAt T p) := by
  have ha := sec_size hs hp
  induction k with
  | zero =>
    refine ⟨⟨64, Nat.le_refl _, ?_⟩, fun _ => rfl⟩
    show secAt T p = (secAt T p).extract 0 64 ++ (secAt T p).extract 64 (secAt T p).size
    rw [ext_all _ _ (by omega)]
    have := ext_nil (secAt T p)
    rw [ha] at this ⊢
    rw [this, app_nil]
  | succ k ih =>
    by_cases hk : k < V.length
    · obtain ⟨g1, g2⟩ := goAll_ok (c := c) hs hw hc k
      have hx := (wrOk_iff _ _).1 (List.all_eq_true.1 hw _ (List.getElem_mem hk))
      rw [goAll_take T V k hk, goOne_at _ _ _ _ hx.1 (by omega), List.take_succ_eq_append_getElem hk, lastW_snoc]
      by_cases he : V[k].1 = (p : Int)
      · rw [if_pos he, if_pos he]
        have hne : ∀ x ∈ V.take k, x.1 ≠ (p : Int) := by
          intro x hx2 e
          have h1 : ((V.take (k + 1)).map (·.1)).Nodup := by
            rw [List.map_take]; exact (List.take_sublist _ _).nodup hd
          rw [List.take_succ_eq_append_getElem hk, List.map_append, List.nodup_append] at h1
          exact h1.2.2 x.1 (List.mem_map.2 ⟨x, hx2, rfl⟩) V[k].1 (by simp) (e.trans he.symm)
        have hT := ih.2 hne
        refine ⟨⟨c k, hc k, by rw [hT]⟩, fun h => ?_⟩
        exact absurd he (h V[k] (List.mem_append_right _ (by simp)))
      · rw [if_neg he, if_neg he]
        exact ⟨ih.1, fun h => ih.2 (fun x hx => h x (List.mem_append_left _ hx))⟩
    · rw [List.take_of_length_le (by omega)] at ih ⊢
      exact ih
theorem torn_all {T : List ByteArray} {V : List Wr} {c : Nat → Nat} (hs : secOk T = true) (hw : V.all (wrOk T.length) = true) (hd : (V.map (·.1)).Nodup) (hc : ∀ k, c k ≤ 64) (p : Nat) (hp : p < T.length) :
    (∃ m, Torn (secAt T p) (secAt (goAll T V c) p) (lastW V p (secAt T p)) m) ∧ ((∀ x ∈ V, x.1 ≠ (p : Int)) → secAt (goAll T V c) p = secAt T p) := by
  have := torn_take hs hw hd hc p hp V.length
  rwa [List.take_of_length_le (Nat.le_refl _)] at this

theorem size_last {n : Nat} {V : List Wr} (hw : V.all (wrOk n) = true) (p : Int) (s : ByteArray) (h : s.size = 64) : (lastW V p s).size = 64 := by
  induction V generalizing s with
  | nil => exact h
  | cons x V ih =>
    simp only [List.all_cons, Bool.and_eq_true] at hw
    show (lastW V p (if x.1 = p then x.2 else s)).size = 64
    refine ih hw.2 _ ?_
    split
    · exact ((wrOk_iff _ _).1 hw.1).2.2
    · exact h

theorem data_torn {a b c : ByteArray} {m : Nat} (h : Torn a b c m) : b.data.toList = c.data.toList.take m ++ a.data.toList.drop m := by
  rw [h.2]
  simp [ByteArray.data_append, ByteArray.data_extract, List.take_of_length_le]
theorem torn_lo {a b c : ByteArray} {m k : Nat} (h : Torn a b c m) (hk : k < m) (hb : k < b.size) (hc : k < c.size) : b[k] = c[k] := by
  have e := data_torn h
  have e1 : b[k] = b.data.toList[k]'(by simpa using hb) := rfl
  have e2 : c[k] = c.data.toList[k]'(by simpa using hc) := rfl
  rw [e1, e2]
  simp only [e]
  rw [List.getElem_append_left (by simp; omega), List.getElem_take]
theorem torn_hi {a b c : ByteArray} {m k : Nat} (h : Torn a b c m) (hk : m ≤ k) (ha : a.size = 64) (hb : b.size = 64) (hc : c.size = 64) : b.extract k b.size = a.extract k a.size := by
  have e := data_torn h
  apply ByteArray.ext
  apply Array.toList_inj.1
  have hm := h.1
  have l1 : c.data.toList.length = 64 := by simpa using hc
  simp only [ByteArray.data_extract, Array.toList_extract, e, List.extract]
  rw [List.drop_append, List.drop_of_length_le (by rw [List.length_take]; omega), List.nil_append, List.length_take, l1, List.drop_drop, hb, ha]
  congr 2
  omega

end Go.Proofs.Ytgjhiekcdcicgaa
