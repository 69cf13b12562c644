/- Contract of Join of the document's answer (errandref05). -/
import Derived.Test.YtkglolnghihegaaGreatDoorSheafJoin
import Derived.Test.YtkglolnghihegaaGreatDoorSheafRefR
import Derived.Test.YtkglolnghihegaaGreatDoorOct
import Derived.Deep.RegionHeld3
import Derived.Deep.DeepCutAuto
import Derived.BigQuiet
import Derived.Deep.QuietTactic
namespace Go.Proofs.YtkglolnghihegaaGreatDoor.Shf
open Go.RowKit Go.Proofs.YtkglolnghihegaaGreatDoor.Oct Go.Proofs.YtkglolnghihegaaGreatDoor.Crc
open Go.Proofs.YtkglolnghihegaaGreatDoor.Dsk (RV SV SV_length)

theorem rread_err (s : ByteArray) (w : World) (h : ¬ errR s = 0) :
    Calls Tryz.prog 109 #[.string s] w fun r w' => r = .returned (.tuple #[PV 0 0 0 0 0 ⟨#[]⟩, .int .i64 (errR s)]) ∧ Below w.heap.size w w' := by
  have := rread_any s w
  unfold RetR partV at this
  rwa [if_neg h] at this
theorem rread_fine (s : ByteArray) (w : World) (h : errR s = 0) :
    Calls Tryz.prog 109 #[.string s] w fun r w' => r = .returned (.tuple #[PV (kA s) (gA s) (nA s) (aA s) (oA s) (dA s), .int .i64 0]) ∧ Below w.heap.size w w' := by
  have := rread_any s w
  unfold RetR partV at this
  rwa [if_pos h, h] at this

/-- What is known ahead of a round: none was read, or so many, all fine. -/
def InvJ (k : Nat) (g n : Int) (S : List ByteArray) (j of : Nat) : Prop :=
  (j = 0 ∧ of = 1) ∨ (0 < j ∧ j ≤ of ∧ ofS S = of ∧ (of : Int) ≤ 65535 ∧ errS k g n S = scanG k g n S of (of - j) j ∧ (dataS (S.take j)).length = j * 37)

section
variable {k : Nat} {g n : Int} {S : List ByteArray} {j of : Nat}
theorem InvJ.none_ (h : InvJ k g n S j of) (hj : j < of) (hs : S[j]? = none) : errS k g n S = 3 := by
  rcases h with ⟨rfl, rfl⟩ | ⟨h0, _, _, _, he, _⟩
  · unfold errS errP
    rw [hs]
    rfl
  · rw [he, show of - j = (of - j - 1) + 1 by omega, scanG]
    have hg : errG k g n S of j = 3 := by unfold errG; rw [hs]
    rw [hg, if_neg (by decide)]
theorem InvJ.bad (h : InvJ k g n S j of) (hj : j < of) {s : ByteArray} (hs : S[j]? = some s) (he : ¬ errB k g n s j = 0) : errS k g n S = errB k g n s j := by
  rcases h with ⟨rfl, rfl⟩ | ⟨h0, _, _, _, hE, _⟩
  · unfold errS errP
    rw [hs]
    simp only
    rw [if_neg he]
  · rw [hE, show of - j = (of - j - 1) + 1 by omega, scanG]
    have hg : errG k g n S of j = errB k g n s j := by unfold errG; rw [hs]; simp only; rw [if_neg he]
    rw [hg, if_neg he]
theorem InvJ.other (h : InvJ k g n S j of) (hj : j < of) (hj0 : j ≠ 0) {s : ByteArray} (hs : S[j]? = some s) (he : errB k g n s j = 0) (ho : ¬ oA s = of) : errS k g n S = 4 := by
  rcases h with ⟨rfl, rfl⟩ | ⟨h0, _, _, _, hE, _⟩
  · exact absurd rfl hj0
  · rw [hE, show of - j = (of - j - 1) + 1 by omega, scanG]
    have hg : errG k g n S of j = 4 := by unfold errG; rw [hs]; simp only; rw [if_pos he, if_neg ho]
    rw [hg, if_neg (by decide)]
theorem InvJ.next (h : InvJ k g n S j of) (hj : j < of) (hj0 : j ≠ 0) {s : ByteArray} (hs : S[j]? = some s) (he : errB k g n s j = 0) (ho : oA s = of) : InvJ k g n S (j + 1) of := by
  rcases h with ⟨rfl, rfl⟩ | ⟨h0, h1, h2, h3, hE, hl⟩
  · exact absurd rfl hj0
  · refine .inr ⟨by omega, by omega, h2, h3, ?_, ?_⟩
    · rw [hE, show of - j = (of - (j + 1)) + 1 by omega, scanG]
      have hg : errG k g n S of j = 0 := by unfold errG; rw [hs]; simp only; rw [if_pos he, if_pos ho]
      rw [if_pos hg]
    · rw [dataS_snoc S j hs, List.length_append, hl, dA_len (errR_zero (errB_zero he).1).1]; omega
theorem InvJ.first {s : ByteArray} (hs : S[0]? = some s) (he : errB k g n s 0 = 0) {o : Nat} (ho : oA s = o) : InvJ k g n S 1 o := by
  obtain ⟨hz, -, hp⟩ := errR_zero (errB_zero he).1
  have ho1 : 0 < oA s := by have : 0 ≤ aA s := numAt_nonneg _ _ _; omega
  have ho2 := oA_lt s
  have hof : ofS S = o := by unfold ofS; rw [hs]; exact ho
  refine .inr ⟨by omega, by omega, hof, by omega, ?_, ?_⟩
  · have e1 : errP k g n S 0 = 0 := by unfold errP; rw [hs]; exact he
    unfold errS
    rw [if_pos e1, hof, Int.toNat_natCast, show o = (o - 1) + 1 by omega, scanG]
    have hg : errG k g n S ((o - 1 + 1 : Nat) : Int) 0 = 0 := by unfold errG; rw [hs]; simp only; rw [if_pos (show errB k g n s ((0 : Nat) : Int) = 0 from he), if_pos (by omega)]
    rw [if_pos hg]
    rfl
  · rw [dataS_snoc S 0 hs, List.length_append, dA_len hz]
    simp [dataS]
theorem InvJ.last (h : InvJ k g n S j of) (hj : ¬ j < of) : errS k g n S = 0 ∧ ofS S = of ∧ j = of ∧ 1 ≤ of ∧ (of : Int) ≤ 65535 ∧ (dataS (S.take j)).length = of * 37 := by
  rcases h with ⟨rfl, rfl⟩ | ⟨h0, h1, h2, h3, hE, hl⟩
  · omega
  · obtain rfl : j = of := by omega
    exact ⟨by rw [hE, Nat.sub_self]; rfl, h2, rfl, h0, h3, hl⟩
end

theorem zeros_bad {L : ByteArray} {q : Nat} (h1 : 8 + (lenA L).toNat ≤ q) (hq : q < L.size) (hb : L[q] ≠ 0) : zerosA L = false := by
  unfold zerosA
  rw [Lib.extract_from, List.all_eq_false]
  refine ⟨L[q], ?_, by simpa using hb⟩
  show L[q] ∈ L.data.toList.drop (8 + (lenA L).toNat)
  have hl : L.data.toList.length = L.size := rfl
  have e : L[q] = L.data.toList[q] := rfl
  rw [e]
  have : L.data.toList[q] = (L.data.toList.drop (8 + (lenA L).toNat))[q - (8 + (lenA L).toNat)]'(by rw [List.length_drop]; omega) := by
    rw [List.getElem_drop]; congr 1; omega
  rw [this]
  exact List.getElem_mem _
theorem zeros_all {L : ByteArray} (h : ∀ q, 8 + (lenA L).toNat ≤ q → (hq : q < L.size) → L[q] = 0) : zerosA L = true := by
  unfold zerosA
  rw [Lib.extract_from, List.all_eq_true]
  intro x hx
  have hx' : x ∈ L.data.toList.drop (8 + (lenA L).toNat) := hx
  obtain ⟨r, hr, rfl⟩ := List.getElem_of_mem hx'
  rw [List.length_drop] at hr
  have hl : L.data.toList.length = L.size := rfl
  rw [List.getElem_drop]
  have := h (8 + (lenA L).toNat + r) (by omega) (by omega)
  have e : L[8 + (lenA L).toNat + r]'(by omega) = L.data.toList[8 + (lenA L).toNat + r]'(by omega) := rfl
  rw [← e, this]
  rfl

/-- What is kept in the loop over bodies. -/
structure KeepJ (w w0 wr : World) (k : Nat) (g n : Int) (S : List ByteArray) (j of : Nat) : Prop where
  bel : Below w0.heap.size w0 wr
  inv : InvJ k g n S j of

set_option maxRecDepth 20000 in
set_option maxHeartbeats 2000000 in
theorem rjoin_any (k : Nat) (g n : Int) (A : Option Addr) (m c : Nat) (S : List ByteArray) (w : World) (hR : RV w A m 1 (SV S)) (hm : (m : Int) ≤ 1000) :
    Calls Tryz.prog 74 #[HV k g n, .slice A m c] w (RetJ k g n S w) := by
  have HE : Hid (∀ W s, ¬ errR s = 0 → Calls Tryz.prog 109 #[.string s] W fun r w' => r = .returned (.tuple #[PV 0 0 0 0 0 ⟨#[]⟩, .int .i64 (errR s)]) ∧ Below W.heap.size W w') := Lib.hid (fun W s h => rread_err s W h)
  have HF : Hid (∀ W s, errR s = 0 → Calls Tryz.prog 109 #[.string s] W fun r w' => r = .returned (.tuple #[PV (kA s) (gA s) (nA s) (aA s) (oA s) (dA s), .int .i64 0]) ∧ Below W.heap.size W w') := Lib.hid (fun W s h => rread_fine s W h)
  have HS := Lib.hid hR.sec
  have HR := Lib.hid hR
  clear hR
  go_enter Tryz.func74, Tryz.ntmps74
  go_wp2_with fail
  have X := Box.new w (.int .u8 k) (.int .i64 g) (.int .i64 n) 139
  have HB0 := Lib.hid ((Below.refl w.heap.size w).push (.cells #[.int .u8 k, .int .i64 g, .int .i64 n] 139))
  have hz0 : w.heap.size < (w.alloc (.cells #[.int .u8 k, .int .i64 g, .int .i64 n] 139)).heap.size := by simp
  generalize w.alloc (.cells #[.int .u8 k, .int .i64 g, .int .i64 n] 139) = w0 at *
  have HX := Lib.hid X
  have HZ0 := Lib.hid hz0
  clear X hz0
  go_loopw [7, 8, 9] (fun s7 s8 s9 wr => ∃ j of : Nat, j ≤ m ∧ s9 = .int .i64 j ∧ s7 = .int .i64 of ∧ s8 = .string ⟨(dataS (S.take j)).toArray⟩ ∧ Hid (KeepJ w w0 wr k g n S j of)) (fun _ _ s9 _ => m - (intOf s9).toNat)
  case atStart => exact ⟨0, 1, Nat.zero_le _, rfl, rfl, rfl, Lib.hid ⟨Below.refl _ _, .inl ⟨rfl, rfl⟩⟩⟩
  case round =>
    obtain ⟨j, of, hj, rfl, rfl, rfl, HK⟩ := hrel
    have hLsz : (⟨(dataS (S.take j)).toArray⟩ : ByteArray).size = j * 37 := by
      rw [size_mk]
      rcases HK.out.inv with ⟨rfl, _⟩ | ⟨_, _, _, _, _, h⟩
      · rfl
      · exact h
    have HBr := Lib.hid (HB0.out.call HK.out.bel)
    by_cases hlt : j < of
    · by_cases hjm : j = m
      · have HE3 : Hid (errJ k g n S = 3) := Lib.hid (by
          have := HK.out.inv.none_ hlt (List.getElem?_eq_none (by have := HS.out; omega))
          unfold errJ
          rw [this, if_neg (by decide)])
        have hq : ((j : Int) == m) = true := by simp [hjm]
        clear HE HF HS HR HX HZ0
        go_wp2_with fail
        go_ret3
        exact RetJ.no HE3.out (by decide) HBr.out
      · have hq : ((j : Int) == m) = false := by simp; omega
        have hl : j < S.length := by have := HS.out; omega
        obtain ⟨b, off, rfl, hbl, hcl⟩ := (HR.out.below HBr.out).secAt (show j < m by omega) hl
        have hsI : S[j]? = some S[j] := List.getElem?_eq_getElem hl
        have HDS := Lib.hid (dataS_snoc S j hsI)
        generalize S[j] = s at *
        have hi : (j : Int) < m := by omega
        obtain ⟨a0, a1, a2, -, -, -⟩ := HX.out.below HK.out.bel HZ0.out
        have hz : w.heap.size < wr.heap.size := cell_lt a0
        clear hbl hl
        have HBAD : Hid (¬ errB k g n s j = 0 → errJ k g n S = errB k g n s j) := Lib.hid (fun he => by
          have := HK.out.inv.bad hlt hsI he
          unfold errJ
          rw [this, if_neg he])
        have hLc : Hid ((⟨(dataS (S.take j)).toArray⟩ : ByteArray) ++ dA s = ⟨(dataS (S.take (j + 1))).toArray⟩) := Lib.hid (by rw [app_str, HDS.out])
        have HINV := Lib.hid HK.out.inv
        have HBK := Lib.hid HK.out.bel
        have HSI := Lib.hid hsI
        clear hsI HDS HK
        generalize (⟨(dataS (S.take j)).toArray⟩ : ByteArray) = Lj at *
        by_cases her : errR s = 0
        · have HD : Hid ((dA s).size = 37) := Lib.hid (dA_len (errR_zero her).1)
          have HF2 := Lib.hid (HF.out wr s her)
          have HBE : Hid (errB k g n s j = if kA s = k ∧ gA s = g ∧ nA s = n then (if aA s = j then 0 else 4) else 9) := Lib.hid (by unfold errB; rw [if_pos her])
          clear her
          go_wp2_with fail
          with_reducible refine HF2.out.mono ?_
          rintro r w3 ⟨rfl, b3⟩
          have HB3 := Lib.hid ((HBr.out.call b3).push (.cells #[.int .u8 (kA s), .int .i64 (gA s), .int .i64 (nA s), .int .i64 (aA s), .int .i64 (oA s), .string (dA s)] 183))
          have HBK3 := Lib.hid ((HBK.out.call b3).push (.cells #[.int .u8 (kA s), .int .i64 (gA s), .int .i64 (nA s), .int .i64 (aA s), .int .i64 (oA s), .string (dA s)] 183))
          have x0 := (b3.cell (p := ⟨w.heap.size, 0, none⟩) hz).trans a0
          have x1 := (b3.cell (p := ⟨w.heap.size, 1, none⟩) hz).trans a1
          have x2 := (b3.cell (p := ⟨w.heap.size, 2, none⟩) hz).trans a2
          have hz3 : w.heap.size < w3.heap.size := cell_lt x0
          clear HF2 b3 a0 a1 a2 hz HBr HBK HX HZ0 HR HE HF
          by_cases hall : kA s = k ∧ gA s = g ∧ nA s = n
          · have HBE2 := Lib.hid HBE.out
            rw [if_pos hall] at HBE2
            obtain ⟨rfl, rfl, rfl⟩ := hall
            obtain ⟨o, ho⟩ := Int.eq_ofNat_of_zero_le (show 0 ≤ oA s from numAt_nonneg _ _ _)
            have hDs := HD.out
            generalize dA s = ds at *
            by_cases hp : aA s = j
            · have hp1 : (aA s != (j : Int)) = false := by simpa using hp
              have HOK : Hid (errB (kA s) (gA s) (nA s) s j = 0) := Lib.hid (by rw [HBE2.out, if_pos hp])
              clear HBE HBE2 HBAD
              generalize aA s = aas at *
              subst hp
              by_cases hj0 : j = 0
              · subst hj0
                have HI2 : Hid (InvJ (kA s) (gA s) (nA s) S 1 o) := Lib.hid (InvJ.first HSI.out HOK.out ho)
                have hj1 : (((0 : Nat) : Int) == 0) = true := rfl
                generalize oA s = os at *
                subst ho
                clear HINV HSI HOK
                go_wp2_with fail
                rw [hLc.out]
                go_roundw
                case rel => exact ⟨1, o, by omega, by go_num, rfl, rfl, Lib.hid ⟨HBK3.out, HI2.out⟩⟩
                case measure => simp [intOf]; omega
              · have hj1 : ((j : Int) == 0) = false := by simp; omega
                by_cases hoo : o = of
                · subst hoo
                  have HI2 : Hid (InvJ (kA s) (gA s) (nA s) S (j + 1) o) := Lib.hid (HINV.out.next hlt hj0 HSI.out HOK.out ho)
                  generalize oA s = os at *
                  subst ho
                  clear HINV HSI HOK
                  go_wp2_with fail
                  rw [hLc.out]
                  go_roundw
                  case rel => exact ⟨j + 1, o, by omega, by go_num, rfl, rfl, Lib.hid ⟨HBK3.out, HI2.out⟩⟩
                  case measure => simp [intOf]; omega
                · have H4 : Hid (errJ (kA s) (gA s) (nA s) S = 4) := Lib.hid (by
                    have := HINV.out.other hlt hj0 HSI.out HOK.out (by omega)
                    unfold errJ
                    rw [this, if_neg (by decide)])
                  have ho1 : ((oA s) != (of : Int)) = true := by rw [ho]; simp; omega
                  clear HINV HSI HOK ho hoo
                  go_wp2_with fail
                  go_ret3
                  exact RetJ.no H4.out (by decide) HB3.out
            · have hp1 : (aA s != (j : Int)) = true := by simpa using hp
              have e4 : errB (kA s) (gA s) (nA s) s j = 4 := by rw [HBE2.out, if_neg hp]
              have H4 : Hid (errJ (kA s) (gA s) (nA s) S = 4) := Lib.hid (by rw [HBAD.out (by rw [e4]; decide), e4])
              clear HBE HBE2 HBAD hp e4 HINV HSI ho
              by_cases hj0 : j = 0
              · subst hj0
                have hp2 : (aA s != 0) = true := hp1
                clear hp1
                go_wp2_with fail
                go_ret3
                exact RetJ.no H4.out (by decide) HB3.out
              · have hj1 : ((j : Int) == 0) = false := by simp; omega
                go_wp2_with fail
                go_ret3
                exact RetJ.no H4.out (by decide) HB3.out
          · have e9 : errB k g n s j = 9 := by rw [HBE.out, if_neg hall]
            have H9 : Hid (errJ k g n S = 9) := Lib.hid (by rw [HBAD.out (by rw [e9]; decide), e9])
            clear HBE HBAD e9 HINV HSI
            by_cases hk : kA s = k
            · subst hk
              by_cases hg : gA s = g
              · subst hg
                have hn : ¬ nA s = n := fun e => hall ⟨rfl, rfl, e⟩
                have hq2 : (nA s == n) = false := by simpa using hn
                clear hall
                go_wp2_with fail
                go_ret3
                exact RetJ.no H9.out (by decide) HB3.out
              · have hq2 : (gA s == g) = false := by simpa using hg
                clear hall
                go_wp2_with fail
                go_ret3
                exact RetJ.no H9.out (by decide) HB3.out
            · have hk2 : ¬ (kA s : Int) = k := by omega
              have hq2 : ((kA s : Int) == k) = false := by simpa using hk2
              clear hall
              go_wp2_with fail
              go_ret3
              exact RetJ.no H9.out (by decide) HB3.out
        · have HF2 := Lib.hid (HE.out wr s her)
          have eb : errB k g n s j = errR s := by unfold errB; rw [if_neg her]
          have HEJ : Hid (errJ k g n S = errR s) := Lib.hid (by rw [HBAD.out (by rw [eb]; exact her), eb])
          have hq2 : (errR s != 0) = true := by simpa using her
          clear HBAD eb HINV HSI HR HX HZ0 HBK HE HF
          go_wp2_with fail
          with_reducible refine HF2.out.mono ?_
          rintro r w3 ⟨rfl, b3⟩
          have HB3 := Lib.hid (HBr.out.call b3)
          clear b3 HF2
          go_wp2_with fail
          go_ret3
          exact RetJ.no HEJ.out her (HB3.out.push _)
    · obtain ⟨e1, e2, rfl, e4, e5, e6⟩ := HK.out.inv.last hlt
      have hLS : (⟨(dataS (S.take j)).toArray⟩ : ByteArray) = loadS S := by unfold loadS; rw [e2]; rfl
      rw [hLS] at hLsz ⊢
      have HJ : Hid (errJ k g n S = errU (loadS S) j) := Lib.hid (by unfold errJ; rw [if_pos e1, e2])
      have HO := Lib.hid e2
      have HT : Hid (textU (loadS S) = (loadS S).extract 8 (8 + (lenA (loadS S)).toNat)) := Lib.hid rfl
      clear hLS e1 e2 e6 HE HF HS HR HX HZ0 HK HB0 hlt hj
      have hm2 : (loadS S).size ≤ maxLen := by unfold maxLen; omega
      have hz : (4 : Int) ≤ (loadS S).size := by omega
      have hz9 : (loadS S).size ≤ 2424795 := by omega
      have N1 := Lib.hid (fun W => number_any (loadS S) 0 4 W hm2 (by omega) (by omega) (by omega) (by omega))
      have N2 := Lib.hid (fun W => number_any (loadS S) 4 4 W hm2 (by omega) (by omega) (by omega) (by omega))
      have N3 : Hid (∀ W, Calls Tryz.prog 111 #[.string ((loadS S).extract 4 (loadS S).size)] W fun r w' => r = .returned (.int .u32 (uv (codeA (loadS S)))) ∧ Below W.heap.size W w') := Lib.hid (fun W => (ref_sum _ W (by unfold maxLen at *; simp; omega)).mono (by rintro r w' ⟨rfl, rfl⟩; exact ⟨rfl, Below.refl _ _⟩))
      have HN := Lib.hid (fun W => rcount_any (lenA (loadS S)) W)
      have HQ : Hid (cntR (lenA (loadS S)) = j → 0 ≤ lenA (loadS S) ∧ lenA (loadS S) ≤ 16000 ∧ 8 + lenA (loadS S) ≤ (loadS S).size) := Lib.hid (fun e => by unfold cntR at e; by_cases hc : 0 ≤ lenA (loadS S) ∧ lenA (loadS S) ≤ 16000 <;> first | (rw [if_pos hc] at e; omega) | (rw [if_neg hc] at e; omega))
      have ES : Hid (errU (loadS S) j = if numAt (loadS S) 0 4 = uv (codeA (loadS S)) then (if cntR (lenA (loadS S)) = j then (if zerosA (loadS S) = true then 0 else 4) else 4) else 16) := Lib.hid rfl
      have HZB := Lib.hid (fun q h1 h2 h3 => zeros_bad (L := loadS S) (q := q) h1 h2 h3)
      have HZA := Lib.hid (zeros_all (L := loadS S))
      have N2 : Hid (∀ W, Calls Tryz.prog 110 #[.string (loadS S), .int .i64 4, .int .i64 4] W fun r w' => r = .returned (.int .i64 (lenA (loadS S))) ∧ Below W.heap.size W w') := Lib.hid (fun W => N2.out W)
      have N1 : Hid (∀ W, Calls Tryz.prog 110 #[.string (loadS S), .int .i64 0, .int .i64 4] W fun r w' => r = .returned (.int .i64 (numAt (loadS S) 0 4)) ∧ Below W.heap.size W w') := Lib.hid (fun W => N1.out W)
      obtain ⟨c, hc⟩ : ∃ c, c = codeA (loadS S) := ⟨_, rfl⟩
      obtain ⟨z, hzz⟩ : ∃ z, z = lenA (loadS S) := ⟨_, rfl⟩
      rw [← hc] at N3 ES
      rw [← hzz] at HN HQ ES HZB HZA N2 HT
      clear hc hzz
      have c0 := uv_nonneg c
      have c1 := uv_lt c
      have RN : Hid (∀ e w', errU (loadS S) j = e → ¬ e = 0 → Below w.heap.size w w' → RetJ k g n S w (.returned (.tuple #[.string ⟨#[]⟩, .int .i64 0, .int .i64 e])) w') := Lib.hid (fun e w' h1 h0 hb => RetJ.no (HJ.out.trans h1) h0 hb)
      have RY : Hid (∀ t w', errU (loadS S) j = 0 → textU (loadS S) = t → Below w.heap.size w w' → RetJ k g n S w (.returned (.tuple #[.string t, .int .i64 j, .int .i64 0])) w') := Lib.hid (fun t w' h1 ht hb => RetJ.yes (HJ.out.trans h1) HO.out ht hb)
      generalize textU (loadS S) = tx at *
      generalize zerosA (loadS S) = za at *
      generalize errU (loadS S) j = eu at *
      generalize numAt (loadS S) 0 4 = s0 at *
      clear HJ HO
      clear hLsz
      generalize loadS S = L at *
      by_cases hs : s0 = uv c
      · subst hs
        have hq : (uv c != uv c) = false := by simp
        have ES2 : Hid (eu = if cntR z = j then (if za = true then 0 else 4) else 4) := Lib.hid (by rw [ES.out, if_pos rfl])
        clear ES
        go_wp2_with fail
        refine wp_region_class (fun W => Below w.heap.size w W) (HBr.out.drewN 1) (by kernel_rfl) (by kernel_rfl) ?_
        intro hne
        repeat (go_big_quiet_step ((first | exact wd_call (fun _ _ h1 h2 => Below.call h1 h2) (N1.out _) | exact wd_call (fun _ _ h1 h2 => Below.call h1 h2) (N3.out _))))
        refine wpQuiet_nil ?_
        rintro _ ⟨x, rfl⟩
        have HBx : Hid (Below w.heap.size w x.W) := Lib.hid x.ok
        generalize x.W = wx at *
        clear N1 N3 hne HBr x
        go_wp2_with fail
        with_reducible refine (N2.out _).mono ?_
        rintro r w2 ⟨rfl, b2⟩
        have HB2 := Lib.hid (HBx.out.call b2)
        clear b2 HBx N2
        go_wp2_with fail
        with_reducible refine (HN.out _).mono ?_
        rintro r w4 ⟨rfl, rfl⟩
        clear HN hq c0 c1
        by_cases hc : cntR z = j
        · obtain ⟨z0, z1, z2⟩ := HQ.out hc
          obtain ⟨zn, rfl⟩ : ∃ zn : Nat, z = zn := ⟨z.toNat, by omega⟩
          have hq2 : (cntR (zn : Int) != (j : Int)) = false := by simpa using hc
          have ES3 : Hid (eu = if za = true then 0 else 4) := Lib.hid (by rw [ES2.out, if_pos hc])
          rw [Int.toNat_natCast] at HZB HZA HT
          clear hc ES2 HQ
          go_wp2_with fail
          go_loop [13] (fun s13 => ∃ q : Nat, 8 + zn ≤ q ∧ q ≤ L.size ∧ s13 = .int .i64 q ∧ Hid (∀ p, 8 + zn ≤ p → p < q → (h : p < L.size) → L[p] = 0)) (fun s13 => L.size - (intOf s13).toNat)
          case atStart => exact ⟨8 + zn, Nat.le_refl _, by omega, by go_num, Lib.hid (fun p h1 h2 => absurd h2 (by omega))⟩
          case round =>
            obtain ⟨q, q1, q2, rfl, HP⟩ := hrel
            by_cases hlt : q < L.size
            · by_cases hb : L[q] = 0
              · have hq3 : ((L[q].toNat : Int) != 0) = false := by rw [hb]; rfl
                have HP2 : Hid (∀ p, 8 + zn ≤ p → p < q + 1 → (h : p < L.size) → L[p] = 0) := Lib.hid (fun p h1 h2 h => by
                  by_cases e : p = q
                  · subst e; exact hb
                  · exact HP.out p h1 (by omega) h)
                clear hb HP
                go_wp2_with fail
                go_round
                case rel => exact ⟨q + 1, by omega, by omega, by go_num, HP2⟩
                case measure => simp [intOf]; omega
              · have hza := HZB.out q q1 hlt hb
                have H4 : Hid (eu = 4) := Lib.hid (by rw [ES3.out, hza]; rfl)
                have hq3 : ((L[q].toNat : Int) != 0) = true := by
                  have : L[q].toNat ≠ 0 := fun h => hb (UInt8.toNat_inj.mp h)
                  simpa using this
                clear hb HP hza HZB HZA ES3 HT
                go_wp2_with fail
                go_ret3
                exact RN.out _ _ H4.out (by decide) HB2.out
            · have hza := HZA.out (fun p h1 h2 => HP.out p h1 (by omega) h2)
              have H0 : Hid (eu = 0) := Lib.hid (by rw [ES3.out, if_pos hza])
              clear HP hza HZB HZA ES3
              go_wp2_with fail
              go_ret3
              exact RY.out _ _ H0.out HT.out HB2.out
        · have hq2 : (cntR z != (j : Int)) = true := by simpa using hc
          have H4 : Hid (eu = 4) := Lib.hid (by rw [ES2.out, if_neg hc])
          clear HQ HZA HZB ES2 HT hc
          go_wp2_with fail
          go_ret3
          exact RN.out _ _ H4.out (by decide) HB2.out
      · have hq : (s0 != uv c) = true := by simpa using hs
        have H16 : Hid (eu = 16) := Lib.hid (by rw [ES.out, if_neg hs])
        clear ES HT HQ HZA HZB HN hs
        go_wp2_with fail
        refine wp_region_class (fun W => Below w.heap.size w W) (HBr.out.drewN 1) (by kernel_rfl) (by kernel_rfl) ?_
        intro hne
        repeat (go_big_quiet_step ((first | exact wd_call (fun _ _ h1 h2 => Below.call h1 h2) (N1.out _) | exact wd_call (fun _ _ h1 h2 => Below.call h1 h2) (N3.out _))))
        refine wpQuiet_nil ?_
        rintro _ ⟨x, rfl⟩
        have HBx : Hid (Below w.heap.size w x.W) := Lib.hid x.ok
        generalize x.W = wx at *
        clear N1 N3 hne HBr x
        go_wp2_with fail
        go_ret3
        exact RN.out _ _ H16.out (by decide) HBx.out

end Go.Proofs.YtkglolnghihegaaGreatDoor.Shf
