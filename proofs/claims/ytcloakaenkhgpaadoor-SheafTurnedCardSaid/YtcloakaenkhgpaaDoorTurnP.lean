/- Plain facts: bodies of which one byte is another one are not joined. -/
import Derived.Test.YtcloakaenkhgpaaDoorSheafBackP
namespace Go.Proofs.YtcloakaenkhgpaaDoor.Shf
open Go.RowKit Go.Proofs.YtcloakaenkhgpaaDoor.Oct Go.Proofs.YtcloakaenkhgpaaDoor.Crc

theorem overL_inj {c d : BitVec 32} (l : List UInt8) (h : overL c l = overL d l) : c = d := by
  have h1 := overL_split (c ^^^ d) d l
  have h2 : c ^^^ d ^^^ d = c := by rw [BitVec.xor_assoc, BitVec.xor_self, BitVec.xor_zero]
  rw [h2, h] at h1
  have h3 : steps (8 * l.length) (c ^^^ d) = 0#32 := by
    have : overL d l ^^^ overL d l = steps (8 * l.length) (c ^^^ d) ^^^ overL d l ^^^ overL d l := congrArg (· ^^^ overL d l) h1
    rw [BitVec.xor_self, BitVec.xor_assoc, BitVec.xor_self, BitVec.xor_zero] at this
    exact this.symm
  have h4 := steps_eq_zero _ h3
  have h5 : c ^^^ d ^^^ d = 0#32 ^^^ d := by rw [h4]
  rwa [h2, BitVec.zero_xor] at h5

theorem byteOver_inj {c : BitVec 32} {a b : UInt8} (h : byteOver c a = byteOver c b) : a = b := by
  unfold byteOver at h
  have h1 := steps_xor 8 (c ^^^ wide a) (c ^^^ wide b)
  rw [h, BitVec.xor_self] at h1
  have h2 := steps_eq_zero _ h1
  have h3 : wide a = wide b := by
    have e : c ^^^ wide a ^^^ (c ^^^ wide b) = wide a ^^^ wide b := by
      rw [BitVec.xor_comm c (wide a), BitVec.xor_assoc, ← BitVec.xor_assoc c c, BitVec.xor_self, BitVec.zero_xor]
    rw [e] at h2
    have e2 : wide a ^^^ wide b ^^^ wide b = 0#32 ^^^ wide b := by rw [h2]
    rwa [BitVec.xor_assoc, BitVec.xor_self, BitVec.xor_zero, BitVec.zero_xor] at e2
  have h4 := congrArg BitVec.toNat h3
  unfold wide at h4
  rw [BitVec.toNat_ofNat, BitVec.toNat_ofNat, Nat.mod_eq_of_lt (Nat.lt_trans a.toNat_lt (by decide)), Nat.mod_eq_of_lt (Nat.lt_trans b.toNat_lt (by decide))] at h4
  exact UInt8.toNat_inj.1 h4

/-- Texts that differ in one byte have other sums. -/
theorem goL_set {l : List UInt8} {r : Nat} {v : UInt8} (hr : r < l.length) (h : goL 0#32 (l.set r v) = goL 0#32 l) : v = l[r] := by
  unfold goL at h
  have h1 : overL (~~~ 0#32) (l.set r v) = overL (~~~ 0#32) l := by
    have := congrArg (~~~ ·) h
    simpa using this
  have e1 : l = l.take r ++ (l[r] :: l.drop (r + 1)) := by rw [← List.drop_eq_getElem_cons hr, List.take_append_drop]
  have e2 : l.set r v = l.take r ++ (v :: l.drop (r + 1)) := List.set_eq_take_append_cons_drop.trans (by rw [if_pos hr])
  rw [e2] at h1
  conv at h1 => rhs; rw [e1]
  rw [overL_append, overL_append, overL_cons, overL_cons] at h1
  exact byteOver_inj (overL_inj _ h1)

theorem field_same {l : List UInt8} {p a n : Nat} {v : UInt8} (h : p < a ∨ a + n ≤ p) : ((l.set p v).drop a).take n = (l.drop a).take n := by
  apply List.ext_getElem?
  intro j
  rw [List.getElem?_take, List.getElem?_take]
  by_cases hj : j < n
  · rw [if_pos hj, if_pos hj, List.getElem?_drop, List.getElem?_drop, List.getElem?_set_ne (by omega)]
  · rw [if_neg hj, if_neg hj]
theorem field_diff {l : List UInt8} {p a n : Nat} {v : UInt8} (h1 : a ≤ p) (h2 : p < a + n) (hp : p < l.length) (hv : v ≠ l[p]) (ha : a + n ≤ l.length) : natBE (((l.set p v).drop a).take n) ≠ natBE ((l.drop a).take n) := by
  intro e
  have e2 := Sht.natBE_inj n _ _ (by simp; omega) (by simp; omega) e
  have e3 := congrArg (fun x : List UInt8 => x[p - a]?) e2
  simp only [List.getElem?_take, List.getElem?_drop] at e3
  rw [if_pos (by omega), if_pos (by omega), show a + (p - a) = p by omega, List.getElem?_set_self hp, List.getElem?_eq_getElem hp] at e3
  exact hv (Option.some.inj e3)

/-- A text of which one byte is another one. -/
def turned (s : ByteArray) (p : Nat) (v : UInt8) : ByteArray := ⟨(s.data.toList.set p v).toArray⟩
theorem turned_list (s : ByteArray) (p : Nat) (v : UInt8) : (turned s p v).data.toList = s.data.toList.set p v := rfl
theorem turned_size (s : ByteArray) (p : Nat) (v : UInt8) : (turned s p v).size = s.size := by
  unfold turned
  rw [size_mk, List.length_set]; rfl

section
variable {s : ByteArray} {p : Nat} {v : UInt8}
theorem num_same (a n : Nat) (h : p < a ∨ a + n ≤ p) : numAt (turned s p v) a n = numAt s a n := by
  unfold numAt
  rw [turned_list, Int.toNat_natCast, field_same h]
theorem num_diff (a n : Nat) (h1 : a ≤ p) (h2 : p < a + n) (hp : p < s.data.toList.length) (hv : v ≠ s.data.toList[p]) (ha : a + n ≤ s.data.toList.length) : numAt (turned s p v) a n ≠ numAt s a n := by
  unfold numAt
  rw [turned_list, Int.toNat_natCast]
  intro e
  exact field_diff h1 h2 hp hv ha (by omega)

theorem k_same (hs : s.size = 52) (h : 1 ≤ p) : kA (turned s p v) = kA s := by
  have h1 := kA_eq (turned s p v) (by rw [turned_size]; omega)
  have h2 := kA_eq s (by omega)
  have h3 : numAt (turned s p v) 0 1 = numAt s 0 1 := num_same 0 1 (by omega)
  omega
theorem k_diff (hs : s.size = 52) (hp : p < s.data.toList.length) (hv : v ≠ s.data.toList[p]) (h : p < 1) : kA (turned s p v) ≠ kA s := by
  have h1 := kA_eq (turned s p v) (by rw [turned_size]; omega)
  have h2 := kA_eq s (by omega)
  have h3 : numAt (turned s p v) 0 1 ≠ numAt s 0 1 := num_diff 0 1 (by omega) (by omega) hp hv (by have : s.data.toList.length = s.size := rfl; omega)
  omega
theorem g_same (h : p < 1 ∨ 7 ≤ p) : gA (turned s p v) = gA s := num_same 1 6 (by omega)
theorem n_same (h : p < 7 ∨ 11 ≤ p) : nA (turned s p v) = nA s := num_same 7 4 (by omega)
theorem a_same (h : p < 11 ∨ 13 ≤ p) : aA (turned s p v) = aA s := num_same 11 2 (by omega)
theorem o_same (h : p < 13 ∨ 15 ≤ p) : oA (turned s p v) = oA s := num_same 13 2 (by omega)
theorem d_same (h : p < 15) : (dA (turned s p v)).data.toList = (dA s).data.toList := by
  unfold dA
  rw [turned_size, ext_list, ext_list, turned_list]
  exact field_same (by omega)
theorem d_turned (h : 15 ≤ p) : (dA (turned s p v)).data.toList = (dA s).data.toList.set (p - 15) v := by
  unfold dA
  rw [turned_size, Lib.extract_from, show (turned s p v).extract 15 s.size = (turned s p v).extract 15 (turned s p v).size by rw [turned_size], Lib.extract_from]
  show (turned s p v).data.toList.drop 15 = (s.data.toList.drop 15).set (p - 15) v
  rw [turned_list, List.drop_set, if_neg (by omega)]

/-- A head's byte that is another one shows, but in how many parts there are. -/
theorem head_shows {k : Nat} {g n i : Int} (hs : s.size = 52) (hp : p < s.data.toList.length) (hv : v ≠ s.data.toList[p]) (h13 : p < 13) (h0 : errB k g n s i = 0) : errB k g n (turned s p v) i ≠ 0 := by
  intro h
  have hl : s.data.toList.length = 52 := hs
  obtain ⟨-, e1, e2, e3, e4⟩ := errB_zero h0
  obtain ⟨-, f1, f2, f3, f4⟩ := errB_zero h
  by_cases c1 : p < 1
  · exact k_diff hs hp hv c1 (by omega)
  · by_cases c2 : p < 7
    · exact num_diff 1 6 (by omega) (by omega) hp hv (by omega) (show gA (turned s p v) = gA s by omega)
    · by_cases c3 : p < 11
      · exact num_diff 7 4 (by omega) (by omega) hp hv (by omega) (show nA (turned s p v) = nA s by omega)
      · exact num_diff 11 2 (by omega) (by omega) hp hv (by omega) (show aA (turned s p v) = aA s by omega)
theorem of_shows (hs : s.size = 52) (hp : p < s.data.toList.length) (hv : v ≠ s.data.toList[p]) (h1 : 13 ≤ p) (h2 : p < 15) : oA (turned s p v) ≠ oA s :=
  num_diff 13 2 (by omega) (by omega) hp hv (by have : s.data.toList.length = 52 := hs; omega)
end

/-- The bodies of a load, of which one has one byte that is another one. -/
structure Alt (k g n N : Nat) (L : ByteArray) (i p : Nat) (v : UInt8) (S : List ByteArray) : Prop where
  lti : i < N
  ltp : p < 52
  len : S.length = N
  others : ∀ j, j < N → j ≠ i → S[j]? = some (bodyAt k g n N L j)
  this : S[i]? = some (turned (bodyAt k g n N L i) p v)

section
variable {k g n N i p : Nat} {L : ByteArray} {v : UInt8} {S : List ByteArray}

theorem at_size (hL : L.size = N * 37) {j : Nat} (hj : j < N) : (bodyAt k g n N L j).size = 52 := by unfold bodyAt; exact body_size (part_len hL hj)

theorem errG_of {k : Nat} {g n of : Int} {S : List ByteArray} {j : Nat} {s : ByteArray} (hs : S[j]? = some s) (h : errG k g n S of j = 0) : errB k g n s j = 0 ∧ oA s = of := by
  obtain ⟨s', h1, h2, h3⟩ := errG_zero h
  rw [hs] at h1
  obtain rfl := Option.some.inj h1
  exact ⟨h2, h3⟩

/-- Where a byte of the head is another one, bodies are not joined. -/
theorem alt_head (h : Head k g n) (hL : L.size = N * 37) (hN : N < 65536) (hlen : cntR (lenA L) = N) (hA : Alt k g n N L i p v S) (hp : p < 15) (hv : ∀ hh : p < (bodyAt k g n N L i).data.toList.length, v ≠ (bodyAt k g n N L i).data.toList[p]) : errJ k g n S ≠ 0 := by
  intro hJ
  have hi := hA.lti
  have h0 : errS k g n S = 0 := by
    by_cases h0 : errS k g n S = 0
    · exact h0
    · unfold errJ at hJ; rw [if_neg h0] at hJ; exact hJ
  obtain ⟨h1, h2, h3⟩ := errS_zero h0
  have hsz := at_size (k := k) (g := g) (n := n) hL hi
  have hl : p < (bodyAt k g n N L i).data.toList.length := by
    have : (bodyAt k g n N L i).data.toList.length = 52 := hsz
    omega
  have e0 := at_errB h hL hN hi
  have eo : oA (bodyAt k g n N L i) = N := at_oA hN i
  by_cases hi0 : i = 0
  · subst hi0
    obtain ⟨b1, b2⟩ := errG_of hA.this (h3 0 (by omega))
    by_cases h13 : p < 13
    · exact head_shows hsz hl (hv hl) h13 e0 b1
    · have hne := of_shows hsz hl (hv hl) (by omega) hp
      rw [eo] at hne
      by_cases hf : ofS S = 1
      · -- the first body alone: its length takes another number of parts
        unfold errJ at hJ
        rw [if_pos h0] at hJ
        have hl1 : loadS S = dA (turned (bodyAt k g n N L 0) p v) := by
          unfold loadS
          have hS0 : S.take 1 = [turned (bodyAt k g n N L 0) p v] := by
            cases S with
            | nil => have := hA.len; simp at this; omega
            | cons x r => have := hA.this; simp at this; simp [this]
          rw [hf, show (1 : Int).toNat = 1 from rfl, hS0]
          unfold dataS
          simp
        have hd : (loadS S).data.toList = L.data.toList.take 37 := by
          rw [hl1, d_same hp, at_dA, ext_list]
          simp
        have hlen2 : lenA (loadS S) = lenA L := by
          unfold lenA numAt
          rw [hd]
          congr 2
          rw [List.drop_take, List.take_take]
          rfl
        unfold errU at hJ
        by_cases hs1 : sumA (loadS S) = uv (codeA (loadS S))
        · rw [if_pos hs1, hlen2, hlen, hf] at hJ
          by_cases hN1 : (N : Int) = 1
          · rw [b2, hf] at hne; omega
          · rw [if_neg hN1] at hJ; exact absurd hJ (by decide)
        · rw [if_neg hs1] at hJ; exact absurd hJ (by decide)
      · -- the second body tells another number, or is not there
        have hG := h3 1 (by omega)
        by_cases hN1 : 1 < N
        · obtain ⟨-, c2⟩ := errG_of (hA.others 1 hN1 (by omega)) hG
          rw [at_oA hN] at c2
          omega
        · obtain ⟨s', hs', -⟩ := errG_zero hG
          rw [List.getElem?_eq_none (by have := hA.len; omega)] at hs'
          cases hs'
  · obtain ⟨c1, c2⟩ := errG_of (hA.others 0 (by omega) (by omega)) (h3 0 (by omega))
    rw [at_oA hN] at c2
    obtain ⟨b1, b2⟩ := errG_of hA.this (h3 i (by omega))
    by_cases h13 : p < 13
    · exact head_shows hsz hl (hv hl) h13 e0 b1
    · have hne := of_shows hsz hl (hv hl) (by omega) hp
      rw [eo] at hne
      omega
theorem dataS_append (A B : List ByteArray) : dataS (A ++ B) = dataS A ++ dataS B := by unfold dataS; exact List.flatMap_append
theorem dataS_cons (s : ByteArray) (B : List ByteArray) : dataS (s :: B) = (dA s).data.toList ++ dataS B := by unfold dataS; exact List.flatMap_cons

theorem alt_eq (hA : Alt k g n N L i p v S) : S = ((List.range N).map (bodyAt k g n N L)).set i (turned (bodyAt k g n N L i) p v) := by
  have hi := hA.lti
  apply List.ext_getElem?
  intro j
  by_cases hj : j < N
  · by_cases hji : j = i
    · subst hji
      rw [hA.this, List.getElem?_set_self (by simpa using hi)]
    · rw [hA.others j hj hji, List.getElem?_set_ne (by omega)]
      simp [hj]
  · rw [List.getElem?_eq_none (by have := hA.len; omega), List.getElem?_eq_none (by simp; omega)]

theorem alt_data_list (hL : L.size = N * 37) (hA : Alt k g n N L i p v S) (hp : 15 ≤ p) : dataS S = L.data.toList.set (i * 37 + (p - 15)) v := by
  have hi := hA.lti
  have hlen : ((List.range N).map (bodyAt k g n N L)).length = N := by simp
  have hLl : L.data.toList.length = N * 37 := hL
  have e0 : dataS ((List.range N).map (bodyAt k g n N L)) = L.data.toList := by rw [data_range]; exact List.take_of_length_le (by omega)
  rw [alt_eq hA]
  have hget : ((List.range N).map (bodyAt k g n N L))[i]'(by omega) = bodyAt k g n N L i := by simp
  have e1 : (List.range N).map (bodyAt k g n N L) = ((List.range N).map (bodyAt k g n N L)).take i ++ (bodyAt k g n N L i :: ((List.range N).map (bodyAt k g n N L)).drop (i + 1)) := by
    rw [← hget, ← List.drop_eq_getElem_cons (by omega), List.take_append_drop]
  have hA1 : dataS (((List.range N).map (bodyAt k g n N L)).take i) = L.data.toList.take (i * 37) := by
    rw [← List.map_take, List.take_range, Nat.min_eq_left (by omega), data_range]
  have hAl : (L.data.toList.take (i * 37)).length = i * 37 := by rw [List.length_take]; omega
  have hdl : (dA (bodyAt k g n N L i)).data.toList.length = 37 := dA_len (at_size hL hi)
  have hltp := hA.ltp
  have e2 : L.data.toList = L.data.toList.take (i * 37) ++ ((dA (bodyAt k g n N L i)).data.toList ++ dataS (((List.range N).map (bodyAt k g n N L)).drop (i + 1))) := by
    conv => lhs; rw [← e0, e1, dataS_append, dataS_cons, hA1]
  rw [List.set_eq_take_append_cons_drop, if_pos (by omega), dataS_append, dataS_cons, hA1, d_turned hp]
  conv => rhs; rw [e2]
  rw [List.set_append_right _ _ (by omega), hAl, show i * 37 + (p - 15) - i * 37 = p - 15 by omega, List.set_append_left _ _ (by omega)]

theorem alt_data (hL : L.size = N * 37) (hN : N < 65536) (hN0 : 0 < N) (hsum : sumA L = uv (codeA L)) (hA : Alt k g n N L i p v S) (hp : 15 ≤ p) (hv : ∀ hh : p < (bodyAt k g n N L i).data.toList.length, v ≠ (bodyAt k g n N L i).data.toList[p]) : errJ k g n S ≠ 0 := by
  intro hJ
  have hi := hA.lti
  have hltp := hA.ltp
  have h0 : errS k g n S = 0 := by
    by_cases h0 : errS k g n S = 0
    · exact h0
    · unfold errJ at hJ; rw [if_neg h0] at hJ; exact hJ
  have hof : ofS S = N := by
    unfold ofS
    by_cases hi0 : i = 0
    · subst hi0
      rw [hA.this]
      simp only
      rw [o_same (by omega), at_oA hN]
    · rw [hA.others 0 (by omega) (by omega)]
      simp only
      rw [at_oA hN]
  unfold errJ at hJ
  rw [if_pos h0, hof] at hJ
  have hLl : L.data.toList.length = N * 37 := hL
  have hld : (loadS S).data.toList = L.data.toList.set (i * 37 + (p - 15)) v := by
    unfold loadS
    rw [hof, Int.toNat_natCast, List.take_of_length_le (by have := hA.len; omega)]
    exact alt_data_list hL hA hp
  have hlsz : (loadS S).size = L.size := by
    have e : (loadS S).size = (loadS S).data.toList.length := rfl
    rw [e, hld, List.length_set, hLl, hL]
  have hq : i * 37 + (p - 15) < L.data.toList.length := by omega
  have hbl : p < (bodyAt k g n N L i).data.toList.length := by
    have : (bodyAt k g n N L i).data.toList.length = 52 := at_size hL hi
    omega
  have hvq : v ≠ L.data.toList[i * 37 + (p - 15)] := by
    intro e
    apply hv hbl
    rw [e]
    have e1 : (bodyAt k g n N L i).data.toList[p]? = L.data.toList[i * 37 + (p - 15)]? := by
      have e2 : (dA (bodyAt k g n N L i)).data.toList = (bodyAt k g n N L i).data.toList.drop 15 := by unfold dA; rw [Lib.extract_from]
      have e3 : (dA (bodyAt k g n N L i)).data.toList[p - 15]? = (bodyAt k g n N L i).data.toList[p]? := by rw [e2, List.getElem?_drop, show 15 + (p - 15) = p by omega]
      rw [← e3, at_dA, ext_list, List.getElem?_take, if_pos (by omega), List.getElem?_drop]
    rw [List.getElem?_eq_getElem hbl, List.getElem?_eq_getElem hq] at e1
    exact (Option.some.inj e1).symm
  unfold errU at hJ
  by_cases hs1 : sumA (loadS S) = uv (codeA (loadS S))
  · have f1 : sumA (loadS S) = (natBE ((L.data.toList.set (i * 37 + (p - 15)) v).take 4) : Int) := by
      unfold sumA numAt
      rw [hld]
      rfl
    have f2 : codeA (loadS S) = goL 0#32 ((L.data.toList.set (i * 37 + (p - 15)) v).drop 4) := by
      unfold codeA
      rw [Lib.extract_from]
      show goL 0#32 ((loadS S).data.toList.drop 4) = _
      rw [hld]
    have f3 : sumA L = (natBE (L.data.toList.take 4) : Int) := by unfold sumA numAt; rfl
    have f4 : codeA L = goL 0#32 (L.data.toList.drop 4) := by unfold codeA; rw [Lib.extract_from]
    rw [f1, f2] at hs1
    rw [f3, f4] at hsum
    by_cases hq4 : i * 37 + (p - 15) < 4
    · rw [List.drop_set, if_pos hq4] at hs1
      have := field_diff (l := L.data.toList) (p := i * 37 + (p - 15)) (a := 0) (n := 4) (v := v) (by omega) (by omega) hq hvq (by omega)
      rw [List.drop_zero, List.drop_zero] at this
      omega
    · have e5 : (L.data.toList.set (i * 37 + (p - 15)) v).take 4 = L.data.toList.take 4 := by
        have := field_same (l := L.data.toList) (p := i * 37 + (p - 15)) (a := 0) (n := 4) (v := v) (by omega)
        rwa [List.drop_zero, List.drop_zero] at this
      rw [e5, List.drop_set, if_neg hq4] at hs1
      have e6 : goL 0#32 ((L.data.toList.drop 4).set (i * 37 + (p - 15) - 4) v) = goL 0#32 (L.data.toList.drop 4) := by
        apply BitVec.eq_of_toNat_eq
        unfold uv at hs1 hsum
        omega
      have e7 := goL_set (by rw [List.length_drop]; omega) e6
      apply hvq
      rw [e7, List.getElem_drop]
      congr 1
      omega
  · rw [if_neg hs1] at hJ; exact absurd hJ (by decide)

/-- Bodies of which one byte is another one are not joined. -/
theorem alt_not (h : Head k g n) {t : ByteArray} (ht : (t.size : Int) ≤ 16000) (hA : Alt k g n (cntN t.size) (loadT t) i p v S) (hv : ∀ hh : p < (bodyAt k g n (cntN t.size) (loadT t) i).data.toList.length, v ≠ (bodyAt k g n (cntN t.size) (loadT t) i).data.toList[p]) : errJ k g n S ≠ 0 := by
  by_cases hp : p < 15
  · exact alt_head h (loadT_size t) (cnt_lt ht) (by rw [loadT_len t ht, cnt_eq _ ht]) hA hp hv
  · exact alt_data (loadT_size t) (cnt_lt ht) (cnt_pos t) (loadT_sum t) hA (by omega) hv
end

end Go.Proofs.YtcloakaenkhgpaaDoor.Shf
