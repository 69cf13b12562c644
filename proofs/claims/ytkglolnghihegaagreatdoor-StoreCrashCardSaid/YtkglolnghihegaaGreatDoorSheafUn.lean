/- Contract of unloaded of package sheaf. -/
import Derived.Test.YtkglolnghihegaaGreatDoorSheafLoad
namespace Go.Proofs.YtkglolnghihegaaGreatDoor.Shf
open Go.RowKit Go.Proofs.YtkglolnghihegaaGreatDoor.Oct Go.Proofs.YtkglolnghihegaaGreatDoor.Crc

/-- What a load tells: its sum, its length, the sum of its bytes, and whether all bytes behind its text are 0. -/
def sumA (L : ByteArray) : Int := numAt L 0 4
def lenA (L : ByteArray) : Int := numAt L 4 4
def codeA (L : ByteArray) : BitVec 32 := goL 0#32 (L.extract 4 L.size).data.toList
def zerosA (L : ByteArray) : Bool := (L.extract (8 + (lenA L).toNat) L.size).data.toList.all (· == 0)
/-- The error that a load of so many parts tells. -/
def errU (L : ByteArray) (n : Int) : Int := if sumA L = uv (codeA L) then (if cntR (lenA L) = n then (if zerosA L = true then 0 else 4) else 4) else 16
def textU (L : ByteArray) : ByteArray := L.extract 8 (8 + (lenA L).toNat)

theorem numAt4 (L : ByteArray) (p : Int) : ∃ c : BitVec 32, numAt L p 4 = uv c := by
  refine ⟨BitVec.ofInt 32 (numAt L p 4), ?_⟩
  have h0 := numAt_nonneg L p 4
  have h1 : numAt L p 4 < 4294967296 := by
    unfold numAt
    have h2 := natBE_lt ((L.data.toList.drop p.toNat).take 4)
    have h3 : ((L.data.toList.drop p.toNat).take 4).length ≤ 4 := by simp; omega
    have h4 := Nat.pow_le_pow_right (show 0 < 256 by omega) h3
    have h5 : 256 ^ 4 = 4294967296 := by decide
    omega
  unfold uv
  rw [BitVec.toNat_ofInt]
  omega

theorem drop_nil (p : UInt8 → Bool) (l : List UInt8) : l.dropWhile p = [] ↔ l.all p = true := by
  induction l with
  | nil => simp
  | cons x r ih =>
    rw [List.dropWhile_cons, List.all_cons]
    cases hx : p x
    · simp
    · simpa using ih

theorem trim_nil (l : List UInt8) : Lib.trimB l 0 = [] ↔ l.all (· == 0) = true := by
  unfold Lib.trimB Lib.trimLeftB Lib.trimRightB
  rw [drop_nil, List.all_eq_true]
  constructor
  · intro h
    have hnil : l.reverse.dropWhile (· == 0) = [] := by
      rcases hd : l.reverse.dropWhile (· == 0) with _ | ⟨x, r⟩
      · rfl
      · have h1 := h x (by rw [hd]; simp)
        have h2 := List.head_dropWhile_not (· == (0 : UInt8)) (l := l.reverse) (by rw [hd]; simp)
        simp only [hd, List.head_cons] at h2
        rw [h1] at h2; cases h2
    rw [drop_nil, List.all_reverse] at hnil
    exact hnil
  · intro h x hx
    rw [List.mem_reverse] at hx
    rw [List.all_eq_true] at h
    exact h x (List.mem_reverse.1 ((List.dropWhile_sublist _).subset hx))

theorem trim_str (l : List UInt8) : (l.all (· == 0) = true → (⟨(Lib.trimB l 0).toArray⟩ : ByteArray) = ⟨#[]⟩) ∧ (l.all (· == 0) = false → ¬ (⟨(Lib.trimB l 0).toArray⟩ : ByteArray) = ⟨#[]⟩) := by
  constructor
  · intro h
    rw [(trim_nil l).2 h]
  · intro h e
    have e2 : Lib.trimB l 0 = [] := by
      have := congrArg (fun s : ByteArray => s.data.toList) e
      simpa using this
    rw [(trim_nil l).1 e2] at h
    cases h

theorem str_ne {s t : ByteArray} (h : ¬ s = t) : (s.toList == t.toList) = false := by
  rw [Bool.eq_false_iff]
  intro e
  have e2 := eq_of_beq e
  rw [ByteArray.toList_eq, ByteArray.toList_eq] at e2
  exact h (ByteArray.ext (Array.toList_inj.1 e2))
theorem str_full {s : ByteArray} (h : ¬ s = ⟨#[]⟩) : s.toList.isEmpty = false := by
  rw [Bool.eq_false_iff]
  intro e
  rw [List.isEmpty_iff, ByteArray.toList_eq] at e
  exact h (ByteArray.ext (Array.toList_inj.1 (by rw [e])))
theorem str_eq (s : ByteArray) : (s.toList == s.toList) = true := by simp

theorem unl_sum (L : ByteArray) (n : Nat) (w : World) (hL : L.size = n * 37) (h1 : 1 ≤ (n : Int)) (h2 : (n : Int) ≤ 65535) (hT : Tab w) (h : ¬ sumA L = uv (codeA L)) :
    Calls Tryz.prog 107 #[.string L, .int .i64 n] w fun r w' => r = .returned (.tuple #[.string ⟨#[]⟩, .int .i64 16]) ∧ Below w.heap.size w w' := by
  have hm : L.size ≤ maxLen := by unfold maxLen; omega
  have N1 : Hid (∀ W, Calls Tryz.prog 97 #[CV L 0 0, .int .i64 4] W fun r w' => r = .returned (.tuple #[CV L 4 0, .int .i64 (sumA L)]) ∧ Below W.heap.size W w') := Lib.hid (fun W => num_ok L 0 4 W hm (by omega) (by omega) (by omega) (by omega))
  have HS := Lib.hid (fun W (h : Tab W) => sum_any (L.extract 4 L.size) W (by unfold maxLen; simp; omega) h)
  have HT := Lib.hid hT
  unfold codeA at h
  have hz : (4 : Int) ≤ L.size := by omega
  unfold sumA at *
  obtain ⟨s, hs⟩ := numAt4 L 0
  rw [hs] at N1 h
  generalize goL 0#32 (L.extract 4 L.size).data.toList = c at *
  have e : (uv s != uv c) = true := by simpa using h
  have s0 := uv_nonneg s
  have s1 := uv_lt s
  clear hT h hs hL h1 h2 hm
  go_enter Tryz.func107, Tryz.ntmps107
  go_wp2_with fail
  with_reducible refine (new_any L _).mono ?_
  rintro r w1 ⟨rfl, b1⟩
  have HB1 := Lib.hid b1
  clear b1
  go_wp2_with fail
  with_reducible refine (N1.out _).mono ?_
  rintro r w2 ⟨rfl, b2⟩
  have HB2 := Lib.hid (HB1.out.call b2)
  have HT2 := Lib.hid (tab_call (tab_call (tab_call HT.out HB1.out) b2) ((Below.refl _ _).push (.cells #[.string L, .int .i64 4, .int .i64 0] 116)))
  clear b2 HB1
  go_wp2_with fail
  with_reducible refine (HS.out _ HT2.out).mono ?_
  rintro r w3 ⟨rfl, rfl⟩
  go_wp2_with fail
  go_ret2
  exact ⟨rfl, HB2.out.push _⟩

set_option maxRecDepth 20000 in
set_option maxHeartbeats 400000 in
theorem unl_rest (L : ByteArray) (n : Nat) (w : World) (hL : L.size = n * 37) (h1 : 1 ≤ (n : Int)) (h2 : (n : Int) ≤ 65535) (hT : Tab w) (h : sumA L = uv (codeA L)) :
    Calls Tryz.prog 107 #[.string L, .int .i64 n] w fun r w' => r = .returned (.tuple #[.string (if errU L n = 0 then textU L else ⟨#[]⟩), .int .i64 (errU L n)]) ∧ Below w.heap.size w w' := by
  have hm : L.size ≤ maxLen := by unfold maxLen; omega
  have N1 : Hid (∀ W, Calls Tryz.prog 97 #[CV L 0 0, .int .i64 4] W fun r w' => r = .returned (.tuple #[CV L 4 0, .int .i64 (sumA L)]) ∧ Below W.heap.size W w') := Lib.hid (fun W => num_ok L 0 4 W hm (by omega) (by omega) (by omega) (by omega))
  have N2 : Hid (∀ W, Calls Tryz.prog 97 #[CV L 4 0, .int .i64 4] W fun r w' => r = .returned (.tuple #[CV L 8 0, .int .i64 (lenA L)]) ∧ Below W.heap.size W w') := Lib.hid (fun W => num_ok L 4 4 W hm (by omega) (by omega) (by omega) (by omega))
  have HS := Lib.hid (fun W (h : Tab W) => sum_any (L.extract 4 L.size) W (by unfold maxLen; simp; omega) h)
  have HN := Lib.hid (fun W => count_any (lenA L) W)
  have HQ : Hid (cntR (lenA L) = n → 0 ≤ lenA L ∧ lenA L ≤ 16000 ∧ 8 + lenA L ≤ L.size) := Lib.hid (fun e => by unfold cntR at e; by_cases hc : 0 ≤ lenA L ∧ lenA L ≤ 16000 <;> first | (rw [if_pos hc] at e; omega) | (rw [if_neg hc] at e; omega))
  have HR : Hid (∀ W, Calls Tryz.prog 131 #[.string (L.extract (8 + (lenA L).toNat) L.size), .string ⟨#[0]⟩] W fun e w' => e = .returned (.string ⟨(Lib.trimB (L.extract (8 + (lenA L).toNat) L.size).data.toList 0).toArray⟩) ∧ (w' = W ∨ w' = W.drew)) := Lib.hid (fun W => shTrim _ 0 (by decide) W (by simp; unfold maxLen at hm; omega))
  have HT := Lib.hid hT
  have hz : (4 : Int) ≤ L.size := by omega
  unfold codeA sumA at h
  unfold sumA at N1
  have EU : Hid (errU L n = if cntR (lenA L) = n then (if zerosA L = true then 0 else 4) else 4) := Lib.hid (by unfold errU sumA codeA; rw [if_pos h])
  have HZ := Lib.hid (trim_str (L.extract (8 + (lenA L).toNat) L.size).data.toList)
  unfold zerosA at EU
  unfold textU
  obtain ⟨s, hs⟩ := numAt4 L 0
  rw [hs] at N1 h
  rw [← h] at HS
  have s0 := uv_nonneg s
  have s1 := uv_lt s
  generalize errU L n = err at *
  generalize lenA L = z at *
  clear hT h hs hL h1 h2 hm
  go_enter Tryz.func107, Tryz.ntmps107
  go_wp2_with fail
  with_reducible refine (new_any L _).mono ?_
  rintro r w1 ⟨rfl, b1⟩
  have HB1 := Lib.hid b1
  clear b1
  go_wp2_with fail
  with_reducible refine (N1.out _).mono ?_
  rintro r w2 ⟨rfl, b2⟩
  have HB2 := Lib.hid (HB1.out.call b2)
  have HT2 := Lib.hid (tab_call (tab_call (tab_call HT.out HB1.out) b2) ((Below.refl _ _).push (.cells #[.string L, .int .i64 4, .int .i64 0] 116)))
  clear b2 HB1
  go_wp2_with fail
  with_reducible refine (HS.out _ HT2.out).mono ?_
  rintro r w3 ⟨rfl, rfl⟩
  go_wp2_with fail
  with_reducible refine (N2.out _).mono ?_
  rintro r w3 ⟨rfl, b3⟩
  have X := (Box.new w2 (.string L) (.int .i64 4) (.int .i64 0) 116).below b3 (by simp)
  have HB3 := Lib.hid ((HB2.out.push _).call b3)
  have HL := Lib.hid HB2.out.size
  clear b3 HT2 HT HB2 N1 N2 HS
  obtain ⟨c0, c1, c2, f0, f1, f2⟩ := X
  go_wp2_with fail
  with_reducible refine (HN.out _).mono ?_
  rintro r w4 ⟨rfl, rfl⟩
  have X4 := (Box.mk c0 c1 c2 f0 f1 f2).set3 (.string L) (.int .i64 8) (.int .i64 0)
  have HB4 := Lib.hid (HB3.out.set3 HL.out (.string L) (.int .i64 8) (.int .i64 0))
  clear c0 c1 c2 f0 f1 f2 HB3 HN
  generalize ((w3.setCell ⟨w2.heap.size, 0, none⟩ (.string L)).setCell ⟨w2.heap.size, 1, none⟩ (.int .i64 8)).setCell ⟨w2.heap.size, 2, none⟩ (.int .i64 0) = w4 at *
  obtain ⟨c0, c1, c2, f0, f1, f2⟩ := X4
  by_cases hc : cntR z = n
  · obtain ⟨z0, z1, z2⟩ := HQ.out hc
    have e : (cntR z != (n : Int)) = false := by simpa using hc
    have HE := EU.out
    rw [if_pos hc] at HE
    have EU2 := Lib.hid HE
    have e8 : (8 + z).toNat = 8 + z.toNat := by omega
    clear hc HE EU
    go_wp2_with fail
    with_reducible refine (HR.out _).mono ?_
    rintro r w5 ⟨rfl, hw⟩
    have HB5 := Lib.hid (show Below w.heap.size w w5 by first | (rcases hw with rfl | rfl; exact HB4.out; exact HB4.out.drewN 1))
    have X5 : Box w5 w2.heap.size (.string L) (.int .i64 8) (.int .i64 0) := by rcases hw with rfl | rfl <;> exact ⟨c0, c1, c2, f0, f1, f2⟩
    clear hw c0 c1 c2 f0 f1 f2 HB4 HR
    obtain ⟨c0, c1, c2, f0, f1, f2⟩ := X5
    rcases ha : (L.extract (8 + z.toNat) L.size).data.toList.all (· == 0) with _ | _
    · obtain rfl : err = 4 := by rw [EU2.out, ha]; rfl
      have hq := str_full (HZ.out.2 ha)
      clear EU2 HZ ha s0 s1 hz z0 z1 z2
      generalize (⟨(Lib.trimB (L.extract (8 + z.toNat) L.size).data.toList 0).toArray⟩ : ByteArray) = T at *
      go_wp2_with fail
      go_ret2
      exact ⟨rfl, HB5.out⟩
    · obtain rfl : err = 0 := by rw [EU2.out, ha]; rfl
      have hT := HZ.out.1 ha
      have hq := str_eq (⟨#[]⟩ : ByteArray)
      clear EU2 HZ ha
      rw [hT]
      clear hT
      go_wp2_with fail
      go_ret2
      exact ⟨rfl, HB5.out⟩
  · have e : (cntR z != (n : Int)) = true := by simpa using hc
    obtain rfl : err = 4 := by rw [EU.out, if_neg hc]
    clear hc EU s0 s1 hz
    go_wp2_with fail
    go_ret2
    exact ⟨rfl, HB4.out⟩

end Go.Proofs.YtkglolnghihegaaGreatDoor.Shf
