/- Plain facts: what is laid is read and joined. -/
import Derived.Test.YtkglolnghihegaaGreatDoorSheafJoin
import Derived.Test.YtkglolnghihegaaGreatDoorSheafLay
namespace Go.Proofs.YtkglolnghihegaaGreatDoor.Shf
open Go.RowKit Go.Proofs.YtkglolnghihegaaGreatDoor.Oct Go.Proofs.YtkglolnghihegaaGreatDoor.Crc
open Go.Proofs.YtkglolnghihegaaGreatDoor.Dsk (RV SV SV_length)

theorem natBE_beB : ∀ j x : Nat, natBE (beB j x) = x % 256 ^ j := by
  have h : ∀ (l : List UInt8) (a : Nat), l.foldl (fun a b => a * 256 + b.toNat) a = a * 256 ^ l.length + natBE l := by
    intro l
    induction l with
    | nil => intro a; simp [natBE]
    | cons b l ih =>
      intro a
      have e : natBE (b :: l) = b.toNat * 256 ^ l.length + natBE l := by
        have := ih (0 * 256 + b.toNat)
        rw [Nat.zero_mul, Nat.zero_add] at this
        rw [← this]; simp [natBE]
      rw [List.foldl_cons, ih, e, List.length_cons, Nat.pow_succ, Nat.add_mul, Nat.mul_assoc, Nat.mul_comm 256, Nat.add_assoc]
  intro j
  induction j with
  | zero => intro x; simp [beB, natBE, Nat.mod_one]
  | succ j ih =>
    intro x
    rw [beB, natBE, List.foldl_cons, h, beB_length, ih, Nat.zero_mul, Nat.zero_add]
    have e : (UInt8.ofNat (x / 256 ^ j % 256)).toNat = x / 256 ^ j % 256 := by simp
    rw [e, Nat.pow_succ, Nat.mod_mul, Nat.mul_comm (x / 256 ^ j % 256), Nat.add_comm]

/-- A number that stands behind so many bytes. -/
theorem numAt_in (s : ByteArray) (a r : List UInt8) (p k x : Nat) (hs : s.data.toList = a ++ (beB k x ++ r)) (ha : a.length = p) (hx : x < 256 ^ k) : numAt s p k = x := by
  unfold numAt
  rw [hs, Int.toNat_natCast, List.drop_append_of_le_length (by omega), List.drop_of_length_le (by omega), List.nil_append, List.take_append_of_le_length (by rw [beB_length]; omega), List.take_of_length_le (by rw [beB_length]; omega), natBE_beB, Nat.mod_eq_of_lt hx]

section
variable {k g n a o : Nat} {d : List UInt8}
theorem bodyB_len (hd : d.length = 37) : (bodyB k g n a o d).length = 52 := by unfold bodyB; simp only [List.length_append, beB_length]; omega
theorem body_size (hd : d.length = 37) : (⟨(bodyB k g n a o d).toArray⟩ : ByteArray).size = 52 := by rw [size_mk, bodyB_len hd]
theorem body_k (hk : k < 256) : kA ⟨(bodyB k g n a o d).toArray⟩ = k := by
  have h1 := kA_eq ⟨(bodyB k g n a o d).toArray⟩ (by rw [size_mk]; unfold bodyB; simp only [List.length_append, beB_length]; omega)
  have h2 := numAt_in ⟨(bodyB k g n a o d).toArray⟩ [] (beB 6 g ++ beB 4 n ++ beB 2 a ++ beB 2 o ++ d) 0 1 k (by rw [list_mk]; unfold bodyB; simp only [List.append_assoc, List.nil_append]) rfl (by omega)
  have h3 : (0 : Int) = ((0 : Nat) : Int) := rfl
  rw [h3, h2] at h1
  omega
theorem body_g (hg : g < 256 ^ 6) : gA ⟨(bodyB k g n a o d).toArray⟩ = g :=
  numAt_in ⟨(bodyB k g n a o d).toArray⟩ (beB 1 k) (beB 4 n ++ beB 2 a ++ beB 2 o ++ d) 1 6 g (by rw [list_mk]; unfold bodyB; simp only [List.append_assoc]) (by simp [beB_length]) hg
theorem body_n (hn : n < 256 ^ 4) : nA ⟨(bodyB k g n a o d).toArray⟩ = n :=
  numAt_in ⟨(bodyB k g n a o d).toArray⟩ (beB 1 k ++ beB 6 g) (beB 2 a ++ beB 2 o ++ d) 7 4 n (by rw [list_mk]; unfold bodyB; simp only [List.append_assoc]) (by simp [beB_length]) hn
theorem body_a (ha : a < 256 ^ 2) : aA ⟨(bodyB k g n a o d).toArray⟩ = a :=
  numAt_in ⟨(bodyB k g n a o d).toArray⟩ (beB 1 k ++ beB 6 g ++ beB 4 n) (beB 2 o ++ d) 11 2 a (by rw [list_mk]; unfold bodyB; simp only [List.append_assoc]) (by simp [beB_length]) ha
theorem body_o (ho : o < 256 ^ 2) : oA ⟨(bodyB k g n a o d).toArray⟩ = o :=
  numAt_in ⟨(bodyB k g n a o d).toArray⟩ (beB 1 k ++ beB 6 g ++ beB 4 n ++ beB 2 a) d 13 2 o (by rw [list_mk]; unfold bodyB; simp only [List.append_assoc]) (by simp [beB_length]) ho
theorem body_d : (dA ⟨(bodyB k g n a o d).toArray⟩).data.toList = d := by
  unfold dA
  rw [Lib.extract_from]
  show (bodyB k g n a o d).drop 15 = d
  unfold bodyB
  rw [List.drop_append_of_le_length (by simp [beB_length]), List.drop_of_length_le (by simp [beB_length]), List.nil_append]
end

/-- A head that may be. -/
structure Head (k g n : Nat) : Prop where
  k : k < 256
  g1 : 1 ≤ g
  g2 : g ≤ 1099511627776
  n : n ≤ 4294967295

theorem fine_of {k g n : Nat} (h : Head k g n) : fineH g n = true := by
  have h1 := h.g1; have h2 := h.g2; have h3 := h.n
  unfold fineH
  simp
  omega

theorem ext_list (L : ByteArray) (a b : Nat) : (L.extract a b).data.toList = (L.data.toList.drop a).take (b - a) := by
  rw [Lib.extract_eq]

theorem part_len {L : ByteArray} {N j : Nat} (hL : L.size = N * 37) (hj : j < N) : (L.extract (j * 37) ((j + 1) * 37)).data.toList.length = 37 := by
  have : (L.extract (j * 37) ((j + 1) * 37)).data.toList.length = (L.extract (j * 37) ((j + 1) * 37)).size := rfl
  rw [this, ByteArray.size_extract]; omega

section
variable {k g n N : Nat} {L : ByteArray}

theorem at_errR (h : Head k g n) (hL : L.size = N * 37) (hN : N < 65536) {j : Nat} (hj : j < N) : errR (bodyAt k g n N L j) = 0 := by
  have hg := h.g2; have hn := h.n
  have hd := part_len hL hj
  unfold errR bodyAt
  rw [if_pos (body_size hd), body_g (by omega), body_n (by omega), body_a (by omega), body_o (by omega), if_pos ⟨fine_of h, by omega⟩]

theorem at_errB (h : Head k g n) (hL : L.size = N * 37) (hN : N < 65536) {j : Nat} (hj : j < N) : errB k g n (bodyAt k g n N L j) j = 0 := by
  have hg := h.g2; have hn := h.n
  have e := at_errR h hL hN hj
  unfold errB
  rw [if_pos e]
  unfold bodyAt
  rw [body_k h.k, body_g (by omega), body_n (by omega), body_a (by omega), if_pos ⟨rfl, rfl, rfl⟩, if_pos rfl]

theorem at_other (h : Head k g n) (hL : L.size = N * 37) (hN : N < 65536) {j : Nat} (hj : j < N) {g' : Nat} (hg' : g' ≠ g) : errB k g' n (bodyAt k g n N L j) j = 9 := by
  have hg := h.g2; have hn := h.n
  have e := at_errR h hL hN hj
  have eg : gA (bodyAt k g n N L j) = g := by unfold bodyAt; exact body_g (by omega)
  unfold errB
  rw [if_pos e, eg, if_neg (fun x => hg' (by have := x.2.1; omega))]

theorem at_oA (hN : N < 65536) (j : Nat) : oA (bodyAt k g n N L j) = N := by unfold bodyAt; exact body_o (by omega)
theorem at_dA (j : Nat) : (dA (bodyAt k g n N L j)).data.toList = (L.extract (j * 37) ((j + 1) * 37)).data.toList := by unfold bodyAt; exact body_d

theorem data_range (j : Nat) : dataS ((List.range j).map (bodyAt k g n N L)) = L.data.toList.take (j * 37) := by
  induction j with
  | zero => simp [dataS]
  | succ j ih =>
    have e : dataS ((List.range (j + 1)).map (bodyAt k g n N L)) = dataS ((List.range j).map (bodyAt k g n N L)) ++ (dA (bodyAt k g n N L j)).data.toList := by
      unfold dataS
      rw [List.range_succ, List.map_append, List.flatMap_append, List.map_singleton, List.flatMap_singleton]
    rw [e, ih, at_dA, ext_list, show (j + 1) * 37 - j * 37 = 37 by omega, show (j + 1) * 37 = j * 37 + 37 by omega]
    rw [List.take_add]

/-- Bodies that begin with those of a load. -/
structure Begins (k g n N : Nat) (L : ByteArray) (S : List ByteArray) (m : Nat) : Prop where
  at' : ∀ j, j < m → S[j]? = some (bodyAt k g n N L j)

theorem scan_fine (h : Head k g n) (hL : L.size = N * 37) (hN : N < 65536) {S : List ByteArray} {m : Nat} (hS : Begins k g n N L S m) (hm : m ≤ N) :
    ∀ r i, i + r ≤ m → ∀ q, scanG k g n S N (r + q) i = scanG k g n S N q (i + r) := by
  intro r
  induction r with
  | zero => intro i _ q; rw [Nat.zero_add, Nat.add_zero]
  | succ r ih =>
    intro i hi q
    have hg : errG k g n S N i = 0 := by
      unfold errG
      rw [hS.at' i (by omega)]
      simp only
      rw [if_pos (at_errB h hL hN (by omega)), at_oA hN, if_pos rfl]
    rw [show r + 1 + q = (r + q) + 1 by omega, scanG, if_pos hg, ih (i + 1) (by omega) q, show i + 1 + r = i + (r + 1) by omega]

theorem begins_errP (h : Head k g n) (hL : L.size = N * 37) (hN : N < 65536) {S : List ByteArray} {m : Nat} (hS : Begins k g n N L S m) (hm : m ≤ N) (h0 : 0 < m) : errP k g n S 0 = 0 ∧ ofS S = N := by
  unfold errP ofS
  rw [hS.at' 0 h0]
  exact ⟨at_errB h hL hN (by omega), at_oA hN 0⟩

theorem errS_all (h : Head k g n) (hL : L.size = N * 37) (hN : N < 65536) (h0 : 0 < N) {S : List ByteArray} (hS : Begins k g n N L S N) : errS k g n S = 0 := by
  obtain ⟨e1, e2⟩ := begins_errP h hL hN hS (Nat.le_refl _) h0
  unfold errS
  rw [if_pos e1, e2, Int.toNat_natCast]
  have := scan_fine h hL hN hS (Nat.le_refl _) N 0 (by omega) 0
  rw [Nat.add_zero] at this
  rw [this]; rfl

theorem errS_few (h : Head k g n) (hL : L.size = N * 37) (hN : N < 65536) {S : List ByteArray} {m : Nat} (hm : m < N) (hS : Begins k g n N L S m) (hl : S.length = m) : errS k g n S = 3 := by
  unfold errS
  by_cases h0 : 0 < m
  · obtain ⟨e1, e2⟩ := begins_errP h hL hN hS (by omega) h0
    rw [if_pos e1, e2, Int.toNat_natCast]
    have := scan_fine h hL hN hS (by omega) m 0 (by omega) (N - m)
    rw [show m + (N - m) = N by omega, Nat.zero_add] at this
    rw [this, show N - m = (N - m - 1) + 1 by omega, scanG]
    have hg : errG k g n S N m = 3 := by unfold errG; rw [List.getElem?_eq_none (by omega)]
    rw [hg, if_neg (by decide)]
  · have e1 : errP k g n S 0 = 3 := by unfold errP; rw [List.getElem?_eq_none (by omega)]
    rw [e1, if_neg (by decide)]

theorem errS_other (h : Head k g n) (hL : L.size = N * 37) (hN : N < 65536) {S : List ByteArray} {m : Nat} (hm : m ≤ N) (h0 : 0 < m) (hS : Begins k g n N L S m) {g' : Nat} (hg : g' ≠ g) : errS k g' n S = 9 := by
  have e1 : errP k g' n S 0 = 9 := by unfold errP; rw [hS.at' 0 h0]; exact at_other h hL hN (by omega) hg
  unfold errS
  rw [e1, if_neg (by decide)]
end

theorem numAt_zero4 (L : ByteArray) (r : List UInt8) (x : Nat) (hs : L.data.toList = beB 4 x ++ r) (hx : x < 256 ^ 4) : numAt L 0 4 = x :=
  numAt_in L [] r 0 4 x (by simpa using hs) rfl hx

theorem loadT_list (t : ByteArray) : (loadT t).data.toList = beB 4 (goL 0#32 (restB t.data.toList (cntN t.size))).toNat ++ restB t.data.toList (cntN t.size) := rfl
theorem restB_list (t : ByteArray) (N : Nat) : restB t.data.toList N = beB 4 t.size ++ (t.data.toList ++ List.replicate (N * 37 - 8 - t.size) 0) := by
  unfold restB
  rw [show t.data.toList.length = t.size from rfl]

theorem loadT_size (t : ByteArray) : (loadT t).size = cntN t.size * 37 := by
  unfold loadT
  rw [size_mk]
  exact loadB_len _ _ (by unfold cntN; rw [show t.data.toList.length = t.size from rfl]; omega)

theorem loadT_sum (t : ByteArray) : sumA (loadT t) = uv (codeA (loadT t)) := by
  have e1 : (loadT t).extract 4 (loadT t).size = ⟨(restB t.data.toList (cntN t.size)).toArray⟩ := by
    rw [Lib.extract_from, loadT_list, List.drop_append_of_le_length (by rw [beB_length]; omega), List.drop_of_length_le (by rw [beB_length]; omega), List.nil_append]
  unfold sumA codeA
  rw [e1, numAt_zero4 _ _ _ (loadT_list t) (uv_pow _)]
  rfl

theorem loadT_len (t : ByteArray) (ht : (t.size : Int) ≤ 16000) : lenA (loadT t) = t.size := by
  unfold lenA
  exact numAt_in (loadT t) (beB 4 (goL 0#32 (restB t.data.toList (cntN t.size))).toNat) (t.data.toList ++ List.replicate (cntN t.size * 37 - 8 - t.size) 0) 4 4 t.size (by rw [loadT_list, restB_list]) (beB_length _ _) (by omega)

theorem loadT_front (t : ByteArray) : (loadT t).data.toList = (beB 4 (goL 0#32 (restB t.data.toList (cntN t.size))).toNat ++ beB 4 t.size) ++ (t.data.toList ++ List.replicate (cntN t.size * 37 - 8 - t.size) 0) := by
  rw [loadT_list, restB_list, List.append_assoc]
theorem loadT_text (t : ByteArray) (ht : (t.size : Int) ≤ 16000) : textU (loadT t) = t := by
  unfold textU
  rw [loadT_len t ht, Int.toNat_natCast]
  apply ByteArray.ext
  apply Array.toList_inj.1
  rw [ext_list, loadT_front, List.drop_append_of_le_length (by simp [beB_length]), List.drop_of_length_le (by simp [beB_length]), List.nil_append, show 8 + t.size - 8 = t.size by omega,
    List.take_append_of_le_length (by simp), List.take_of_length_le (by simp)]
theorem loadT_zeros (t : ByteArray) (ht : (t.size : Int) ≤ 16000) : zerosA (loadT t) = true := by
  unfold zerosA
  rw [loadT_len t ht, Int.toNat_natCast, Lib.extract_from]
  show ((loadT t).data.toList.drop (8 + t.size)).all (· == 0) = true
  rw [loadT_front, ← List.append_assoc, List.drop_append_of_le_length (by simp [beB_length]; omega), List.drop_of_length_le (by simp [beB_length]; omega), List.nil_append]
  simp

theorem errU_load (t : ByteArray) (ht : (t.size : Int) ≤ 16000) : errU (loadT t) (cntN t.size) = 0 := by
  unfold errU
  rw [if_pos (loadT_sum t), loadT_len t ht, if_pos (cnt_eq _ ht), if_pos (loadT_zeros t ht)]

section
variable {k g n : Nat} {t : ByteArray}
theorem cnt_pos (t : ByteArray) : 0 < cntN t.size := by unfold cntN; omega
theorem cnt_lt (ht : (t.size : Int) ≤ 16000) : cntN t.size < 65536 := by unfold cntN; omega

/-- What was laid is joined, whatever stands behind it. -/
theorem join_back (h : Head k g n) (ht : (t.size : Int) ≤ 16000) {S : List ByteArray} (hS : Begins k g n (cntN t.size) (loadT t) S (cntN t.size)) :
    errJ k g n S = 0 ∧ textU (loadS S) = t ∧ ofS S = cntN t.size := by
  have e0 := errS_all h (loadT_size t) (cnt_lt ht) (cnt_pos t) hS
  obtain ⟨-, e2⟩ := begins_errP h (loadT_size t) (cnt_lt ht) hS (Nat.le_refl _) (cnt_pos t)
  have el : loadS S = loadT t := by
    have e3 : S.take (cntN t.size) = (List.range (cntN t.size)).map (bodyAt k g n (cntN t.size) (loadT t)) := by
      apply List.ext_getElem?
      intro j
      rw [List.getElem?_take]
      by_cases hj : j < cntN t.size
      · rw [if_pos hj, hS.at' j hj]
        simp [hj]
      · rw [if_neg hj]
        simp [hj]
    unfold loadS
    rw [e2, Int.toNat_natCast, e3, data_range, ← loadT_size t]
    apply ByteArray.ext
    apply Array.toList_inj.1
    exact List.take_of_length_le (by simp)
  refine ⟨?_, by rw [el]; exact loadT_text t ht, e2⟩
  unfold errJ
  rw [if_pos e0, el, e2]
  exact errU_load t ht

/-- .. not with one fewer .. -/
theorem join_few (h : Head k g n) (ht : (t.size : Int) ≤ 16000) {S : List ByteArray} {m : Nat} (hm : m < cntN t.size) (hS : Begins k g n (cntN t.size) (loadT t) S m) (hl : S.length = m) : errJ k g n S = 3 := by
  have e := errS_few h (loadT_size t) (cnt_lt ht) hm hS hl
  unfold errJ
  rw [e, if_neg (by decide)]

/-- .. and not by another head. -/
theorem join_other (h : Head k g n) (ht : (t.size : Int) ≤ 16000) {S : List ByteArray} {m : Nat} (hm : m ≤ cntN t.size) (h0 : 0 < m) (hS : Begins k g n (cntN t.size) (loadT t) S m) {g' : Nat} (hg : g' ≠ g) : errJ k g' n S = 9 := by
  have e := errS_other h (loadT_size t) (cnt_lt ht) hm h0 hS hg
  unfold errJ
  rw [e, if_neg (by decide)]

theorem bodiesT_at (j : Nat) (hj : j < cntN t.size) : (bodiesT k g n t)[j]? = some (bodyAt k g n (cntN t.size) (loadT t) j) := by
  unfold bodiesT
  simp [hj]
theorem bodiesT_len : (bodiesT k g n t).length = cntN t.size := by unfold bodiesT; simp
theorem begins_append (S : List ByteArray) : Begins k g n (cntN t.size) (loadT t) (bodiesT k g n t ++ S) (cntN t.size) :=
  ⟨fun j hj => by rw [List.getElem?_append_left (by rw [bodiesT_len]; exact hj)]; exact bodiesT_at j hj⟩
theorem begins_take (m : Nat) (hm : m ≤ cntN t.size) : Begins k g n (cntN t.size) (loadT t) ((bodiesT k g n t).take m) m :=
  ⟨fun j hj => by rw [List.getElem?_take, if_pos hj]; exact bodiesT_at j (by omega)⟩
theorem layS_eq (h : Head k g n) (ht : (t.size : Int) ≤ 16000) : errL g n t = 0 ∧ layS k g n t = bodiesT k g n t := by
  have e : errL g n t = 0 := by unfold errL; rw [if_pos (fine_of h), if_pos ht]
  refine ⟨e, ?_⟩
  unfold layS
  rw [if_pos e]
  rfl
end

end Go.Proofs.YtkglolnghihegaaGreatDoor.Shf
