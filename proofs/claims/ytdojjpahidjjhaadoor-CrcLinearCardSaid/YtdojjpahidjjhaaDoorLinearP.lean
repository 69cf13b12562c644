/- Plain lists for CrcLinear: texts that are filled up with bytes 0, lists that are filled from the front, the exclusive or of three. -/
import Derived.Test.YtdojjpahidjjhaaDoorPure
namespace Go.Proofs.YtdojjpahidjjhaaDoor

/-- The first n bytes, bytes 0 behind them if there are fewer. -/
def pad (n : Nat) (l : List UInt8) : List UInt8 := (l ++ List.replicate n 0).take n
theorem pad_length (n : Nat) (l : List UInt8) : (pad n l).length = n := by simp [pad]
theorem pad_in {n : Nat} {l : List UInt8} {k : Nat} {c : UInt8} (hk : k < n) (h : l[k]? = some c) : (pad n l)[k]? = some c := by
  have hl : k < l.length := (List.getElem?_eq_some_iff.1 h).1
  unfold pad
  rw [List.getElem?_take_of_lt hk, List.getElem?_append_left hl, h]
theorem pad_out {n : Nat} {l : List UInt8} {k : Nat} (hk : k < n) (h : l.length ≤ k) : (pad n l)[k]? = some 0 := by
  unfold pad
  rw [List.getElem?_take_of_lt hk, List.getElem?_append_right h, List.getElem?_replicate_of_lt (by omega)]

/-- The first k bytes of a list, bytes 0 in place of the others. -/
def part (L : List UInt8) (k : Nat) : List UInt8 := L.take k ++ List.replicate (L.length - k) 0
theorem part_length (L : List UInt8) (k : Nat) : (part L k).length = L.length := by simp [part]; omega
theorem part_zero (L : List UInt8) : part L 0 = List.replicate L.length 0 := by simp [part]
theorem part_all (L : List UInt8) : part L L.length = L := by simp [part]
theorem part_at {L : List UInt8} {k : Nat} {c : UInt8} (h : L[k]? = some c) : (part L (k + 1))[k]? = some c := by
  have hl : k < L.length := (List.getElem?_eq_some_iff.1 h).1
  unfold part
  rw [List.getElem?_append_left (by simp; omega), List.getElem?_take_of_lt (by omega), h]
theorem part_set {L : List UInt8} {k : Nat} {c : UInt8} (h : L[k]? = some c) : (part L k).set k c = part L (k + 1) := by
  obtain ⟨hl, rfl⟩ := List.getElem?_eq_some_iff.1 h
  unfold part
  have e : L.length - k = (L.length - (k + 1)) + 1 := by omega
  rw [e, List.replicate_succ, List.set_append_right _ _ (by simp; omega)]
  have : k - (L.take k).length = 0 := by simp; omega
  rw [this, List.set_cons_zero, List.take_succ_eq_append_getElem hl, List.append_assoc]
  rfl
theorem part_same {L : List UInt8} {k : Nat} (h : L[k]? = some 0) : part L k = part L (k + 1) := by
  obtain ⟨hl, e0⟩ := List.getElem?_eq_some_iff.1 h
  unfold part
  have e : L.length - k = (L.length - (k + 1)) + 1 := by omega
  rw [e, List.replicate_succ, List.take_succ_eq_append_getElem hl, List.append_assoc, e0]
  rfl

/-- Three lists of one length, by threes. -/
def trip (a x y : List UInt8) : List (UInt8 × UInt8 × UInt8) := a.zip (x.zip y)
theorem trip_1 {a x y : List UInt8} (hx : x.length = a.length) (hy : y.length = a.length) : (trip a x y).map (·.1) = a := by
  unfold trip; rw [← List.unzip_fst, List.unzip_zip_left (by simp; omega)]
theorem trip_23 {a x y : List UInt8} (hx : x.length = a.length) (hy : y.length = a.length) : (trip a x y).map (·.2) = x.zip y := by
  unfold trip; rw [← List.unzip_snd, List.unzip_zip_right (by simp; omega)]
theorem trip_2 {a x y : List UInt8} (hx : x.length = a.length) (hy : y.length = a.length) : (trip a x y).map (·.2.1) = x := by
  have h := congrArg (List.map Prod.fst) (trip_23 hx hy)
  rw [List.map_map, ← List.unzip_fst (l := x.zip y), List.unzip_zip_left (by omega)] at h
  exact h
theorem trip_3 {a x y : List UInt8} (hx : x.length = a.length) (hy : y.length = a.length) : (trip a x y).map (·.2.2) = y := by
  have h := congrArg (List.map Prod.snd) (trip_23 hx hy)
  rw [List.map_map, ← List.unzip_snd (l := x.zip y), List.unzip_zip_right (by omega)] at h
  exact h
/-- Their exclusive or. -/
def xor3 (a x y : List UInt8) : List UInt8 := (trip a x y).map fun t => t.1 ^^^ t.2.1 ^^^ t.2.2
theorem xor3_length {a x y : List UInt8} (hx : x.length = a.length) (hy : y.length = a.length) : (xor3 a x y).length = a.length := by
  have := congrArg List.length (trip_1 hx hy)
  simpa [xor3] using this
theorem xor3_at {a x y : List UInt8} {k : Nat} {p q r : UInt8} (h1 : a[k]? = some p) (h2 : x[k]? = some q) (h3 : y[k]? = some r) : (xor3 a x y)[k]? = some (p ^^^ q ^^^ r) := by
  unfold xor3 trip
  have e2 : (x.zip y)[k]? = some (q, r) := List.getElem?_zip_eq_some.2 ⟨h2, h3⟩
  have e3 : (a.zip (x.zip y))[k]? = some (p, q, r) := List.getElem?_zip_eq_some.2 ⟨h1, e2⟩
  rw [List.getElem?_map, e3]
  rfl
theorem goL_xor3 {a x y : List UInt8} (hx : x.length = a.length) (hy : y.length = a.length) : goL 0#32 (xor3 a x y) = goL 0#32 a ^^^ goL 0#32 x ^^^ goL 0#32 y := by
  have h := goL_three (trip a x y)
  rw [trip_1 hx hy, trip_2 hx hy, trip_3 hx hy] at h
  exact h

end Go.Proofs.YtdojjpahidjjhaaDoor
