/- Contract of Join of package sheaf. -/
import Derived.Test.YtkglolnghihegaaGreatDoorShfB
import Derived.Test.YtkglolnghihegaaGreatDoorSheafUn
namespace Go.Proofs.YtkglolnghihegaaGreatDoor.Shf
open Go.RowKit Go.Proofs.YtkglolnghihegaaGreatDoor.Oct Go.Proofs.YtkglolnghihegaaGreatDoor.Crc
open Go.Proofs.YtkglolnghihegaaGreatDoor.Dsk (RV SV SV_length)

theorem scan_zero (k : Nat) (g n : Int) (S : List ByteArray) (of : Int) : ∀ r i, scanG k g n S of r i = 0 → ∀ j, i ≤ j → j < i + r → errG k g n S of j = 0 := by
  intro r
  induction r with
  | zero => intro i _ j h1 h2; omega
  | succ r ih =>
    intro i h j h1 h2
    unfold scanG at h
    by_cases he : errG k g n S of i = 0
    · rw [if_pos he] at h
      by_cases hj : j = i
      · subst hj; exact he
      · exact ih (i + 1) h j (by omega) (by omega)
    · rw [if_neg he] at h; exact absurd h he

theorem errG_zero {k : Nat} {g n of : Int} {S : List ByteArray} {j : Nat} (h : errG k g n S of j = 0) : ∃ s, S[j]? = some s ∧ errB k g n s j = 0 ∧ oA s = of := by
  unfold errG at h
  cases hs : S[j]? with
  | none => rw [hs] at h; cases h
  | some s =>
    rw [hs] at h
    simp only at h
    by_cases h1 : errB k g n s j = 0
    · rw [if_pos h1] at h
      by_cases h2 : oA s = of
      · exact ⟨s, rfl, h1, h2⟩
      · rw [if_neg h2] at h; cases h
    · rw [if_neg h1] at h; exact absurd h h1

theorem data_len {k : Nat} {g n of : Int} {S : List ByteArray} : ∀ N, (∀ j, j < N → errG k g n S of j = 0) → (dataS (S.take N)).length = N * 37 := by
  intro N
  induction N with
  | zero => intro _; rfl
  | succ N ih =>
    intro h
    obtain ⟨s, hs, hb, -⟩ := errG_zero (h N (by omega))
    rw [dataS_snoc S N hs, List.length_append, ih (fun j hj => h j (by omega)), dA_len (errR_zero (errB_zero hb).1).1]
    omega

/-- What is known of bodies that are gathered. -/
theorem errS_zero {k : Nat} {g n : Int} {S : List ByteArray} (h : errS k g n S = 0) :
    1 ≤ ofS S ∧ ofS S < 65536 ∧ ∀ j : Nat, (j : Int) < ofS S → errG k g n S (ofS S) j = 0 := by
  unfold errS at h
  by_cases h0 : errP k g n S 0 = 0
  · rw [if_pos h0] at h
    obtain ⟨s0, hs0, hb0⟩ : ∃ s, S[0]? = some s ∧ errB k g n s 0 = 0 := by
      unfold errP at h0
      cases hs : S[0]? with
      | none => rw [hs] at h0; cases h0
      | some s => rw [hs] at h0; exact ⟨s, rfl, h0⟩
    have eo : ofS S = oA s0 := by unfold ofS; rw [hs0]
    obtain ⟨hz, -, hp⟩ := errR_zero (errB_zero hb0).1
    have ho1 : 0 < oA s0 := by have : 0 ≤ aA s0 := numAt_nonneg _ _ _; omega
    have ho2 := oA_lt s0
    exact ⟨by omega, by omega, fun j hj => scan_zero k g n S _ _ 0 h j (Nat.zero_le _) (by omega)⟩
  · rw [if_neg h0] at h; exact absurd h h0

/-- The load that bodies tell. -/
def loadS (S : List ByteArray) : ByteArray := ⟨(dataS (S.take (ofS S).toNat)).toArray⟩
theorem loadS_size {k : Nat} {g n : Int} {S : List ByteArray} (h : errS k g n S = 0) : (loadS S).size = (ofS S).toNat * 37 := by
  obtain ⟨h1, h2, h3⟩ := errS_zero h
  unfold loadS
  rw [size_mk]
  exact data_len _ (fun j hj => h3 j (by omega))

/-- The error of a join, and what it answers. -/
def errJ (k : Nat) (g n : Int) (S : List ByteArray) : Int := if errS k g n S = 0 then errU (loadS S) (ofS S) else errS k g n S
def RetJ (k : Nat) (g n : Int) (S : List ByteArray) (w : World) (r : Ending) (w' : World) : Prop :=
  r = .returned (.tuple #[.string (if errJ k g n S = 0 then textU (loadS S) else ⟨#[]⟩), .int .i64 (if errJ k g n S = 0 then ofS S else 0), .int .i64 (errJ k g n S)]) ∧ Below w.heap.size w w'
theorem RetJ.no {k : Nat} {g n e : Int} {S : List ByteArray} {w w' : World} (he : errJ k g n S = e) (h0 : ¬ e = 0) (hb : Below w.heap.size w w') :
    RetJ k g n S w (.returned (.tuple #[.string ⟨#[]⟩, .int .i64 0, .int .i64 e])) w' := by
  subst he
  exact ⟨by rw [if_neg h0, if_neg h0], hb⟩
theorem RetJ.yes {k : Nat} {g n of : Int} {S : List ByteArray} {t : ByteArray} {w w' : World} (he : errJ k g n S = 0) (ho : ofS S = of) (ht : textU (loadS S) = t) (hb : Below w.heap.size w w') :
    RetJ k g n S w (.returned (.tuple #[.string t, .int .i64 of, .int .i64 0])) w' := by
  subst ht
  exact ⟨by rw [he, ho]; rfl, hb⟩

theorem unl_any (L : ByteArray) (n : Int) (w : World) (hL : L.size = n.toNat * 37) (h1 : 1 ≤ n) (h2 : n ≤ 65535) (hT : Tab w) :
    Calls Tryz.prog 107 #[.string L, .int .i64 n] w fun r w' => r = .returned (.tuple #[.string (if errU L n = 0 then textU L else ⟨#[]⟩), .int .i64 (errU L n)]) ∧ Below w.heap.size w w' := by
  obtain ⟨n, rfl⟩ := Int.eq_ofNat_of_zero_le (show 0 ≤ n by omega)
  by_cases h : sumA L = uv (codeA L)
  · exact unl_rest L n w hL h1 h2 hT h
  · have e : errU L n = 16 := by unfold errU; rw [if_neg h]
    rw [e, if_neg (by decide)]
    exact unl_sum L n w hL h1 h2 hT h

theorem join_any (k : Nat) (g n : Int) (A : Option Addr) (m c : Nat) (S : List ByteArray) (w : World) (hR : RV w A m 1 (SV S)) (hT : Tab w) :
    Calls Tryz.prog 68 #[HV k g n, .slice A m c] w (RetJ k g n S w) := by
  have HG : Hid (∀ W, Below w.heap.size w W → Calls Tryz.prog 106 #[HV k g n, .slice A m c] W (RetG k g n S W)) := Lib.hid (fun W hb => gathered_any k g n A m c S W (hR.below hb))
  by_cases h0 : errS k g n S = 0
  · have hsz := loadS_size h0
    obtain ⟨h1, h2, -⟩ := errS_zero h0
    have HU := Lib.hid (fun W h => unl_any (loadS S) (ofS S) W hsz h1 (by omega) h)
    have HJ : Hid (errJ k g n S = errU (loadS S) (ofS S)) := Lib.hid (by unfold errJ; rw [if_pos h0])
    unfold RetG at HG
    rw [h0] at HG
    simp only [if_pos] at HG
    have HT := Lib.hid hT
    have HOF : Hid (ofS S = ofS S) := Lib.hid rfl
    have HLO : Hid (textU (loadS S) = textU (loadS S)) := Lib.hid rfl
    rw [show (⟨(dataS (S.take (ofS S).toNat)).toArray⟩ : ByteArray) = loadS S from rfl] at HG
    clear h0 hsz h1 h2 hR hT
    go_enter Tryz.func68, Tryz.ntmps68
    go_wp2_with fail
    with_reducible refine (HG.out _ ((Below.refl _ w).push _)).mono ?_
    rintro r w1 ⟨rfl, b1⟩
    have HB1 := Lib.hid (((Below.refl _ w).push _).call b1)
    have HT1 := Lib.hid (tab_call HT.out HB1.out)
    clear b1
    go_wp2_with fail
    with_reducible refine (HU.out _ HT1.out).mono ?_
    rintro r w2 ⟨rfl, b2⟩
    have HB2 := Lib.hid (HB1.out.call b2)
    clear b2 HU HG
    by_cases he : errU (loadS S) (ofS S) = 0
    · rw [if_pos he, he]
      have HE : Hid (errJ k g n S = 0) := Lib.hid (HJ.out.trans he)
      clear he HJ
      go_wp2_with fail
      go_ret3
      exact RetJ.yes HE.out rfl rfl HB2.out
    · rw [if_neg he]
      have hq : (errU (loadS S) (ofS S) != 0) = true := by simpa using he
      go_wp2_with fail
      go_ret3
      exact RetJ.no HJ.out he HB2.out
  · have hq : (errS k g n S != 0) = true := by simpa using h0
    have HJ : Hid (errJ k g n S = errS k g n S) := Lib.hid (by unfold errJ; rw [if_neg h0])
    unfold RetG at HG
    rw [if_neg h0, if_neg h0] at HG
    clear hR hT
    go_enter Tryz.func68, Tryz.ntmps68
    go_wp2_with fail
    with_reducible refine (HG.out _ ((Below.refl _ w).push _)).mono ?_
    rintro r w1 ⟨rfl, b1⟩
    have HB1 := Lib.hid (((Below.refl _ w).push _).call b1)
    clear b1
    go_wp2_with fail
    go_ret3
    exact RetJ.no HJ.out h0 HB1.out

end Go.Proofs.YtkglolnghihegaaGreatDoor.Shf
