import Derived.Test.YtkglolnghihegaaGreatDoorSheafRead
import Derived.Test.YtkglolnghihegaaGreatDoorDskA
import Derived.Test.YtkglolnghihegaaGreatDoorShelf
import Derived.Deep.RegionHeld3
import Derived.Deep.DeepCutAuto

/- Contract of own of package sheaf. -/
namespace Go.Proofs.YtkglolnghihegaaGreatDoor.Shf
open Go.RowKit Go.Proofs.YtkglolnghihegaaGreatDoor.Oct
open Go.Proofs.YtkglolnghihegaaGreatDoor.Dsk (RV SV SV_length)

/-- The error that a body tells that is to stand at a place, under a head. -/
def errB (k : Nat) (g n : Int) (s : ByteArray) (i : Int) : Int :=
  if errR s = 0 then (if kA s = k ∧ gA s = g ∧ nA s = n then (if aA s = i then 0 else 4) else 9) else errR s
def ownV (k : Nat) (g n : Int) (s : ByteArray) (i : Int) : Value := if errB k g n s i = 0 then PV (kA s) (gA s) (nA s) (aA s) (oA s) (dA s) else PV 0 0 0 0 0 ⟨#[]⟩

theorem own_cut (k : Nat) (g n : Int) (A : Option Addr) (m c : Nat) (i : Nat) (w : World) (h : (m : Int) ≤ i) :
    Calls Tryz.prog 129 #[HV k g n, .slice A m c, .int .i64 i] w fun r w' => r = .returned (.tuple #[PV 0 0 0 0 0 ⟨#[]⟩, .int .i64 3]) ∧ Below w.heap.size w w' := by
  go_enter Tryz.func129, Tryz.ntmps129
  go_wp2_with fail
  refine bodyPost_ret (v := .tuple #[PV 0 0 0 0 0 ⟨#[]⟩, .int .i64 3]) (by simp [results, Tryz.results129, go_sem, *]) rfl ⟨rfl, ?_⟩
  exact ((Below.refl _ _).push _).push _

set_option maxHeartbeats 800000 in
theorem own_at (k : Nat) (g n : Int) (A : Option Addr) (m c : Nat) (S : List ByteArray) (i : Nat) (w : World) (hR : RV w A m 1 (SV S)) (h : (i : Int) < m) (hl : i < S.length) :
    Calls Tryz.prog 129 #[HV k g n, .slice A m c, .int .i64 i] w fun r w' => r = .returned (.tuple #[ownV k g n S[i] i, .int .i64 (errB k g n S[i] i)]) ∧ Below w.heap.size w w' := by
  obtain ⟨b, off, rfl, hb, hc⟩ := hR.secAt (show i < m by omega) hl
  unfold ownV
  have HR := Lib.hid (fun W => read_any S[i] W)
  unfold partV at HR
  have HB : Hid (errB k g n S[i] i = if errR S[i] = 0 then (if kA S[i] = k ∧ gA S[i] = g ∧ nA S[i] = n then (if aA S[i] = i then 0 else 4) else 9) else errR S[i]) := Lib.hid rfl
  generalize errB k g n S[i] i = err at *
  generalize S[i] = s at *
  clear hR hl
  go_enter Tryz.func129, Tryz.ntmps129
  go_wp2_with fail
  with_reducible refine (HR.out _).mono ?_
  rintro r w1 ⟨rfl, b1⟩
  have R1 : Box6 w1 (w.heap.size + 1) (.int .u8 0) (.int .i64 0) (.int .i64 0) (.int .i64 0) (.int .i64 0) (.string ⟨#[]⟩) := by
    have := (Box6.new (w.alloc (.cells #[.int .u8 k, .int .i64 g, .int .i64 n] 132)) (.int .u8 0) (.int .i64 0) (.int .i64 0) (.int .i64 0) (.int .i64 0) (.string ⟨#[]⟩) 209).below b1 (by simp)
    rwa [World.size_alloc] at this
  have F1 : Fr6 w1 (w.heap.size + 1) := by
    have := (Fr6.new (w.alloc (.cells #[.int .u8 k, .int .i64 g, .int .i64 n] 132)) (.int .u8 0) (.int .i64 0) (.int .i64 0) (.int .i64 0) (.int .i64 0) (.string ⟨#[]⟩) 209).below b1 (by simp)
    rwa [World.size_alloc] at this
  have H1 := ((Box.new w (.int .u8 k) (.int .i64 g) (.int .i64 n) 132).alloc (by simp) (.cells #[.int .u8 0, .int .i64 0, .int .i64 0, .int .i64 0, .int .i64 0, .string ⟨#[]⟩] 209)).below b1 (by simp; omega)
  have HB1 := Lib.hid ((((Below.refl _ w).push _).push _).call b1)
  have hz : w.heap.size + 1 < w1.heap.size := cell_lt R1.c0
  have ne1 : ¬ w1.heap.size = w.heap.size := by omega
  have ne2 : ¬ w1.heap.size = w.heap.size + 1 := by omega
  have ne3 : ¬ w.heap.size + 1 = w1.heap.size := by omega
  have hz0 : w.heap.size < w1.heap.size := by omega
  obtain ⟨a0, a1, a2, b0, b1', b2⟩ := H1
  obtain ⟨r0, r1, r2, r3, r4, r5⟩ := R1
  obtain ⟨f0, f1, f2, f3, f4, f5⟩ := F1
  clear b1 HR hc hb
  by_cases he : errR s = 0
  · have HB2 := Lib.hid HB.out
    rw [if_pos he] at HB2
    rw [if_pos he, he]
    clear HB he
    by_cases hall : kA s = k ∧ gA s = g ∧ nA s = n
    · have HB3 := Lib.hid HB2.out
      rw [if_pos hall] at HB3
      clear HB2
      obtain ⟨rfl, rfl, rfl⟩ := hall
      by_cases hp : aA s = i
      · obtain rfl : err = 0 := by rw [HB3.out, if_pos hp]
        have hq : (aA s != (i : Int)) = false := by simpa using hp
        clear HB3 hp
        go_wp2_with fail
        refine bodyPost_ret (v := .tuple #[PV (kA s) (gA s) (nA s) (aA s) (oA s) (dA s), .int .i64 0]) (by simp [results, Tryz.results129, go_sem, *]) rfl ⟨rfl, ?_⟩
        exact (HB1.out.set6 (Nat.le_succ _) _ _ _ _ _ _).push _
      · obtain rfl : err = 4 := by rw [HB3.out, if_neg hp]
        have hq : (aA s != (i : Int)) = true := by simpa using hp
        clear HB3 hp
        go_wp2_with fail
        refine bodyPost_ret (v := .tuple #[PV 0 0 0 0 0 ⟨#[]⟩, .int .i64 4]) (by simp [results, Tryz.results129, go_sem, *]) rfl ⟨rfl, ?_⟩
        exact (HB1.out.set6 (Nat.le_succ _) _ _ _ _ _ _).push _
    · obtain rfl : err = 9 := by rw [HB2.out, if_neg hall]
      clear HB2
      by_cases hk : kA s = k
      · subst hk
        by_cases hg : gA s = g
        · subst hg
          have hn : ¬ nA s = n := fun e => hall ⟨rfl, rfl, e⟩
          have hq : (nA s == n) = false := by simpa using hn
          clear hall
          go_wp2_with fail
          refine bodyPost_ret (v := .tuple #[PV 0 0 0 0 0 ⟨#[]⟩, .int .i64 9]) (by simp [results, Tryz.results129, go_sem, *]) rfl ⟨rfl, ?_⟩
          exact (HB1.out.set6 (Nat.le_succ _) _ _ _ _ _ _).push _
        · have hq : (gA s == g) = false := by simpa using hg
          clear hall
          go_wp2_with fail
          refine bodyPost_ret (v := .tuple #[PV 0 0 0 0 0 ⟨#[]⟩, .int .i64 9]) (by simp [results, Tryz.results129, go_sem, *]) rfl ⟨rfl, ?_⟩
          exact (HB1.out.set6 (Nat.le_succ _) _ _ _ _ _ _).push _
      · have hk2 : ¬ (kA s : Int) = k := by omega
        have hq : ((kA s : Int) == k) = false := by simpa using hk2
        clear hall
        go_wp2_with fail
        refine bodyPost_ret (v := .tuple #[PV 0 0 0 0 0 ⟨#[]⟩, .int .i64 9]) (by simp [results, Tryz.results129, go_sem, *]) rfl ⟨rfl, ?_⟩
        exact (HB1.out.set6 (Nat.le_succ _) _ _ _ _ _ _).push _
  · obtain rfl : err = errR s := by rw [HB.out, if_neg he]
    have hq : (errR s != 0) = true := by simpa using he
    rw [if_neg he]
    clear HB
    go_wp2_with fail
    refine bodyPost_ret (v := .tuple #[PV 0 0 0 0 0 ⟨#[]⟩, .int .i64 (errR s)]) (by simp [results, Tryz.results129, go_sem, *]) rfl ⟨rfl, ?_⟩
    exact (HB1.out.set6 (Nat.le_succ _) _ _ _ _ _ _).push _

end Go.Proofs.YtkglolnghihegaaGreatDoor.Shf

/- Contract of gathered of package sheaf. -/
namespace Go.Proofs.YtkglolnghihegaaGreatDoor.Shf
open Go.RowKit Go.Proofs.YtkglolnghihegaaGreatDoor.Oct
open Go.Proofs.YtkglolnghihegaaGreatDoor.Dsk (RV SV SV_length)

/-- The error at a place of bodies, where there may be too few of them. -/
def errP (k : Nat) (g n : Int) (S : List ByteArray) (i : Nat) : Int := match S[i]? with | some s => errB k g n s i | none => 3
/-- .. and where so many parts are to be told. -/
def errG (k : Nat) (g n : Int) (S : List ByteArray) (of : Int) (i : Nat) : Int :=
  match S[i]? with | some s => (if errB k g n s i = 0 then (if oA s = of then 0 else 4) else errB k g n s i) | none => 3
/-- The first error, from a place on. -/
def scanG (k : Nat) (g n : Int) (S : List ByteArray) (of : Int) : Nat → Nat → Int
  | 0, _ => 0
  | r + 1, i => if errG k g n S of i = 0 then scanG k g n S of r (i + 1) else errG k g n S of i
/-- How many parts the first body tells. -/
def ofS (S : List ByteArray) : Int := match S[0]? with | some s => oA s | none => 0
/-- The error of bodies. -/
def errS (k : Nat) (g n : Int) (S : List ByteArray) : Int := if errP k g n S 0 = 0 then scanG k g n S (ofS S) (ofS S).toNat 0 else errP k g n S 0
/-- The data of bodies. -/
def dataS (S : List ByteArray) : List UInt8 := S.flatMap fun s => (dA s).data.toList

theorem isB_below {T e : TypeId} {B b : Nat} {bs : List Value} {w w' : World} (h : Lib.IsBuilder T e B b bs w) (hb : Below w.heap.size w w') : Lib.IsBuilder T e B b bs w' := by
  have go : ∀ p, Lib.BuilderAt T e B b p bs w → Lib.BuilderAt T e B b p bs w' := by
    intro p h
    have hl := h.lt
    obtain ⟨hB, v, hh, hown, hne⟩ := h
    exact ⟨hB, v, (hb.block b hl).trans hh, hown.kept (row := none) ⟨hb.os, hb.tape, hb.output, hb.size, fun j hj _ => hb.block j hj⟩ (by cases hv : v.ownBlock <;> simp), hne⟩
  exact h.imp (go _) (go _)

theorem oA_lt (s : ByteArray) : oA s < 65536 := by
  unfold oA numAt
  have h2 := natBE_lt ((s.data.toList.drop (13 : Int).toNat).take 2)
  have h3 : ((s.data.toList.drop (13 : Int).toNat).take 2).length ≤ 2 := by simp; omega
  have h4 := Nat.pow_le_pow_right (show 0 < 256 by omega) h3
  have h5 : 256 ^ 2 = 65536 := by decide
  omega

theorem errB_zero {k : Nat} {g n i : Int} {s : ByteArray} (h : errB k g n s i = 0) : errR s = 0 ∧ kA s = k ∧ gA s = g ∧ nA s = n ∧ aA s = i := by
  unfold errB at h
  by_cases h1 : errR s = 0
  · rw [if_pos h1] at h
    by_cases h2 : kA s = k ∧ gA s = g ∧ nA s = n
    · rw [if_pos h2] at h
      by_cases h3 : aA s = i
      · exact ⟨h1, h2.1, h2.2.1, h2.2.2, h3⟩
      · rw [if_neg h3] at h; cases h
    · rw [if_neg h2] at h; cases h
  · rw [if_neg h1] at h; exact absurd h h1
theorem errR_zero {s : ByteArray} (h : errR s = 0) : s.size = 52 ∧ fineH (gA s) (nA s) = true ∧ aA s < oA s := by
  unfold errR at h
  by_cases h1 : s.size = 52
  · rw [if_pos h1] at h
    by_cases h2 : fineH (gA s) (nA s) = true ∧ aA s < oA s
    · exact ⟨h1, h2⟩
    · rw [if_neg h2] at h; cases h
  · rw [if_neg h1] at h; cases h
theorem dA_len {s : ByteArray} (h : s.size = 52) : (dA s).data.toList.length = 37 := by unfold dA; simp; omega

theorem own_err (k : Nat) (g n : Int) (A : Option Addr) (m c : Nat) (S : List ByteArray) (i : Nat) (w : World) (hR : RV w A m 1 (SV S)) (h : ¬ errP k g n S i = 0) :
    Calls Tryz.prog 129 #[HV k g n, .slice A m c, .int .i64 i] w fun r w' => r = .returned (.tuple #[PV 0 0 0 0 0 ⟨#[]⟩, .int .i64 (errP k g n S i)]) ∧ Below w.heap.size w w' := by
  have hl := hR.sec
  unfold errP at *
  by_cases hi : i < S.length
  · rw [List.getElem?_eq_getElem hi] at *
    have := own_at k g n A m c S i w hR (by omega) hi
    unfold ownV at this
    rwa [if_neg h] at this
  · rw [List.getElem?_eq_none (by omega)]
    exact own_cut k g n A m c i w (by omega)

theorem own_fine (k : Nat) (g n : Int) (A : Option Addr) (m c : Nat) (S : List ByteArray) (i : Nat) (w : World) (hR : RV w A m 1 (SV S)) {s : ByteArray} (hs : S[i]? = some s) (h : errB k g n s i = 0) :
    Calls Tryz.prog 129 #[HV k g n, .slice A m c, .int .i64 i] w fun r w' => r = .returned (.tuple #[PV (kA s) (gA s) (nA s) (aA s) (oA s) (dA s), .int .i64 0]) ∧ Below w.heap.size w w' := by
  have hl := hR.sec
  obtain ⟨hi, rfl⟩ := List.getElem?_eq_some_iff.1 hs
  have := own_at k g n A m c S i w hR (by omega) hi
  unfold ownV at this
  rwa [if_pos h, h] at this

/-- What is kept in the loop: what lay below the builder, and the builder's bytes. -/
structure InvG (w1 wr : World) (l : List UInt8) : Prop where
  bel : Below w1.heap.size w1 wr
  bld : Lib.IsBuilder 153 5 w1.heap.size w1.heap.size (Lib.byteCells l) wr

theorem InvG.call {w1 wr w' : World} {l : List UInt8} (h : InvG w1 wr l) (hb : Below wr.heap.size wr w') : InvG w1 w' l := ⟨h.bel.call hb, isB_below h.bld hb⟩
theorem InvG.start (w1 : World) : InvG w1 (w1.alloc (.cells #[.pointer none, .slice none 0 0] 153)) [] := ⟨(Below.refl _ _).push _, Lib.fresh_isBuilder _ _ _⟩

theorem dataS_snoc (S : List ByteArray) (j : Nat) {s : ByteArray} (hs : S[j]? = some s) : dataS (S.take (j + 1)) = dataS (S.take j) ++ (dA s).data.toList := by
  obtain ⟨hi, rfl⟩ := List.getElem?_eq_some_iff.1 hs
  unfold dataS
  rw [List.take_succ_eq_append_getElem hi, List.flatMap_append]
  congr 1
  simp

/-- What gathering bodies answers. -/
def RetG (k : Nat) (g n : Int) (S : List ByteArray) (w : World) (r : Ending) (w' : World) : Prop :=
  r = .returned (.tuple #[.string (if errS k g n S = 0 then ⟨(dataS (S.take (ofS S).toNat)).toArray⟩ else ⟨#[]⟩), .int .i64 (if errS k g n S = 0 then ofS S else 0), .int .i64 (errS k g n S)]) ∧ Below w.heap.size w w'
theorem RetG.no {k : Nat} {g n e : Int} {S : List ByteArray} {w w' : World} (he : errS k g n S = e) (h0 : ¬ e = 0) (hb : Below w.heap.size w w') :
    RetG k g n S w (.returned (.tuple #[.string ⟨#[]⟩, .int .i64 0, .int .i64 e])) w' := by
  subst he
  exact ⟨by rw [if_neg h0, if_neg h0], hb⟩
theorem RetG.yes {k : Nat} {g n : Int} {S : List ByteArray} {w w' : World} {of : Nat} (he : errS k g n S = 0) (ho : ofS S = of) (hb : Below w.heap.size w w') :
    RetG k g n S w (.returned (.tuple #[.string ⟨(dataS (S.take of)).toArray⟩, .int .i64 of, .int .i64 0])) w' :=
  ⟨by rw [he, ho]; rfl, hb⟩

set_option maxHeartbeats 1000000 in
theorem gathered_any (k : Nat) (g n : Int) (A : Option Addr) (m c : Nat) (S : List ByteArray) (w : World) (hR : RV w A m 1 (SV S)) :
    Calls Tryz.prog 106 #[HV k g n, .slice A m c] w (RetG k g n S w) := by
  by_cases h0 : errP k g n S 0 = 0
  · obtain ⟨s0, hs0, hb0⟩ : ∃ s, S[0]? = some s ∧ errB k g n s 0 = 0 := by
      unfold errP at h0
      cases hs : S[0]? with
      | none => rw [hs] at h0; cases h0
      | some s => rw [hs] at h0; exact ⟨s, rfl, h0⟩
    have eo : ofS S = oA s0 := by unfold ofS; rw [hs0]
    obtain ⟨hz, -, hp⟩ := errR_zero (errB_zero hb0).1
    have ho1 : 0 < oA s0 := by have : 0 ≤ aA s0 := numAt_nonneg _ _ _; omega
    have ho2 := oA_lt s0
    have HS : Hid (errS k g n S = scanG k g n S (oA s0) (oA s0).toNat 0) := Lib.hid (by unfold errS; rw [if_pos h0, eo])
    have HOF : Hid (ofS S = oA s0) := Lib.hid eo
    have HO : Hid (∀ W, Below w.heap.size w W → Calls Tryz.prog 129 #[HV k g n, .slice A m c, .int .i64 0] W fun r w' => r = .returned (.tuple #[PV (kA s0) (gA s0) (nA s0) (aA s0) (oA s0) (dA s0), .int .i64 0]) ∧ Below W.heap.size W w') := Lib.hid (fun W hb => own_fine k g n A m c S 0 W (hR.below hb) hs0 hb0)
    have HE : Hid (∀ W (j : Nat), Below w.heap.size w W → ¬ errP k g n S j = 0 → Calls Tryz.prog 129 #[HV k g n, .slice A m c, .int .i64 j] W fun r w' => r = .returned (.tuple #[PV 0 0 0 0 0 ⟨#[]⟩, .int .i64 (errP k g n S j)]) ∧ Below W.heap.size W w') := Lib.hid (fun W j hb he => own_err k g n A m c S j W (hR.below hb) he)
    have HF : Hid (∀ W (j : Nat) s, Below w.heap.size w W → S[j]? = some s → errB k g n s j = 0 → Calls Tryz.prog 129 #[HV k g n, .slice A m c, .int .i64 j] W fun r w' => r = .returned (.tuple #[PV (kA s) (gA s) (nA s) (aA s) (oA s) (dA s), .int .i64 0]) ∧ Below W.heap.size W w') := Lib.hid (fun W j s hb hs he => own_fine k g n A m c S j W (hR.below hb) hs he)
    generalize kA s0 = k0 at *
    generalize gA s0 = g0 at *
    generalize nA s0 = n0 at *
    generalize aA s0 = a0 at *
    generalize dA s0 = d0 at *
    generalize oA s0 = of at *
    obtain ⟨of, rfl⟩ := Int.eq_ofNat_of_zero_le (show 0 ≤ of by omega)
    rw [Int.toNat_natCast] at *
    have HO2 := Lib.hid ho2
    clear h0 hs0 hb0 eo hz hp hR ho1 ho2
    go_enter Tryz.func106, Tryz.ntmps106
    go_wp2_with fail
    with_reducible refine (HO.out _ ((Below.refl _ w).push _)).mono ?_
    rintro r w1 ⟨rfl, b1⟩
    have X1 := (Box.new w (.int .u8 k) (.int .i64 g) (.int .i64 n) 132).below b1 (by simp)
    have HB1 := Lib.hid (((Below.refl _ w).push _).call b1)
    clear b1 HO
    go_wp2_with fail
    have XF := Box6.new w1 (.int .u8 k0) (.int .i64 g0) (.int .i64 n0) (.int .i64 a0) (.int .i64 of) (.string d0) 209
    have XH := X1.alloc (cell_lt X1.c0) (.cells #[.int .u8 k0, .int .i64 g0, .int .i64 n0, .int .i64 a0, .int .i64 of, .string d0] 209)
    have HB2 := Lib.hid (HB1.out.push (.cells #[.int .u8 k0, .int .i64 g0, .int .i64 n0, .int .i64 a0, .int .i64 of, .string d0] 209))
    have HI0 := Lib.hid (InvG.start (w1.alloc (.cells #[.int .u8 k0, .int .i64 g0, .int .i64 n0, .int .i64 a0, .int .i64 of, .string d0] 209)))
    generalize hw2 : w1.alloc (.cells #[.int .u8 k0, .int .i64 g0, .int .i64 n0, .int .i64 a0, .int .i64 of, .string d0] 209) = w2 at *
    have hz1 : w1.heap.size < w2.heap.size := by rw [← hw2]; simp
    have hz0 : w.heap.size < w2.heap.size := cell_lt XH.c0
    have hsz : w1.heap.size + 1 = w2.heap.size := by rw [← hw2]; simp
    rw [hsz] at *
    have HI : Hid (InvG w2 (w2.alloc (.cells #[.pointer none, .slice none 0 0] 153)) []) := HI0
    clear HI0 hw2 X1 HB1 hsz
    go_loopw [24] (fun s24 wr => ∃ j : Nat, j ≤ of ∧ s24 = .int .i64 j ∧ Hid (InvG w2 wr (dataS (S.take j))) ∧ Hid ((dataS (S.take j)).length = j * 37) ∧ Hid (errS k g n S = scanG k g n S of (of - j) j)) (fun s24 _ => of - (intOf s24).toNat)
    case atStart => exact ⟨0, Nat.zero_le _, rfl, HI, Lib.hid rfl, HS⟩
    case round =>
      obtain ⟨j, hj, rfl, HI, HL, HS⟩ := hrel
      obtain ⟨a0', a1, a2, -, -, -⟩ := XH.below HI.out.bel hz0
      have XFr := XF.below HI.out.bel hz1
      obtain ⟨q0, q1, q2, q3, q4, q5⟩ := XFr
      have HBr := Lib.hid (HB2.out.call HI.out.bel)
      by_cases hlt : j < of
      · have hro : of - j = (of - j - 1) + 1 := by omega
        have HS2 := Lib.hid HS.out
        rw [hro] at HS2
        unfold scanG at HS2
        clear hro
        by_cases he : errP k g n S j = 0
        · obtain ⟨s, hs, hb⟩ : ∃ s, S[j]? = some s ∧ errB k g n s j = 0 := by
            unfold errP at he
            cases hs : S[j]? with
            | none => rw [hs] at he; cases he
            | some s => rw [hs] at he; exact ⟨s, rfl, he⟩
          have HG : Hid (errG k g n S of j = if oA s = of then 0 else 4) := Lib.hid (by unfold errG; rw [hs]; simp only; rw [if_pos hb])
          have HF2 := Lib.hid (HF.out wr j s HBr.out hs hb)
          have HD := Lib.hid (dA_len (errR_zero (errB_zero hb).1).1)
          have HN := Lib.hid (dataS_snoc S j hs)
          clear he hs hb
          generalize kA s = ks at *
          generalize gA s = gs at *
          generalize nA s = ns at *
          generalize aA s = ps at *
          generalize dA s = ds at *
          generalize oA s = os at *
          go_wp2_with fail
          with_reducible refine HF2.out.mono ?_
          rintro r w3 ⟨rfl, b3⟩
          have HI3 := Lib.hid ((HI.out.call b3).call ((Below.refl _ _).push (.cells #[.int .u8 ks, .int .i64 gs, .int .i64 ns, .int .i64 ps, .int .i64 os, .string ds] 209)))
          have HB3 := Lib.hid ((HBr.out.call b3).push (.cells #[.int .u8 ks, .int .i64 gs, .int .i64 ns, .int .i64 ps, .int .i64 os, .string ds] 209))
          have P4 := (q4.symm ▸ b3.cell (p := ⟨w1.heap.size, 4, none⟩) (cell_lt q4) : w3.cell? ⟨w1.heap.size, 4, none⟩ = some (.int .i64 of))
          have hz3 : w1.heap.size < w3.heap.size := cell_lt P4
          clear HF2 HF HE b3 HBr HI a0' a1 a2 q0 q1 q2 q3 q4 q5 XF XH
          by_cases hos : os = of
          · subst hos
            have hw2 : (Lib.byteCells (dataS (S.take j))).length + ds.size ≤ 140737488355328 := by
              rw [Lib.byteCells_length, HL.out]
              have h1 := HO2.out
              have h2 : ds.size = 37 := by rw [← HD.out]; simp
              omega
            have HW := Lib.hid (shWrite w2.heap.size w2.heap.size _ ds _ HI3.out.bld hw2 HI3.out.bel.size)
            clear hw2
            have HS3 := Lib.hid HS2.out
            rw [HG.out, if_pos rfl, if_pos rfl] at HS3
            clear HG HS2 HS
            go_wp2_with fail
            with_reducible refine HW.out.mono ?_
            rintro r w4 ⟨rfl, hbl, hbw⟩
            rw [Lib.strCells_eq, ← Lib.byteCells_append, ← HN.out] at hbl
            have HI4 := Lib.hid (InvG.mk (HI3.out.bel.trans hbw) (Or.inr hbl))
            have hjb : (j : Int) < 100000 := by have := HO2.out; omega
            clear hbl hbw HW HB3
            go_wp2
            go_roundw
            case rel => exact ⟨j + 1, by omega, by go_num, HI4.out, Lib.hid (by rw [HN.out, List.length_append, HL.out, HD.out]; omega), Lib.hid (by rw [HS3.out, show of - (j + 1) = of - j - 1 by omega])⟩
            case measure => simp [intOf]; omega
          · have hq : (os != (of : Int)) = true := by simpa using hos
            have E4 : Hid (errS k g n S = 4) := Lib.hid (by rw [HS2.out, HG.out, if_neg hos, if_neg (by decide)])
            clear hos hz1 hz0 hlt hj
            go_wp2_with fail
            go_ret3
            exact RetG.no E4.out (by decide) HB3.out
        · have hg : errG k g n S of j = errP k g n S j := by
            unfold errG errP at *
            cases hs : S[j]? with
            | none => rfl
            | some s => rw [hs] at he; simp only at he ⊢; rw [if_neg he]
          have ES : Hid (errS k g n S = errP k g n S j) := Lib.hid (by rw [HS2.out, hg, if_neg he])
          have HF2 := Lib.hid (HE.out wr j HBr.out he)
          have hq : (errP k g n S j != 0) = true := by simpa using he
          clear hg HS HS2 HE HF
          go_wp2_with fail
          with_reducible refine HF2.out.mono ?_
          rintro r w3 ⟨rfl, b3⟩
          have HB3 := Lib.hid (HBr.out.call b3)
          clear b3 hz1 hz0 hlt hj
          go_wp2_with fail
          go_ret3
          exact RetG.no ES.out he (HB3.out.push _)
      · obtain rfl : j = of := by omega
        have ES : Hid (errS k g n S = 0) := Lib.hid (by rw [HS.out, Nat.sub_self]; rfl)
        have HW := Lib.hid (fun W (hW : W = wr ∨ W = wr.drew) => shString w2.heap.size w2.heap.size _ W (by rcases hW with rfl | rfl <;> exact HI.out.bld) (by rcases hW with rfl | rfl <;> exact HI.out.bel.size))
        have hz3 : w1.heap.size < wr.heap.size := cell_lt q4
        clear HS HL HE HF XF XH a0' a1 a2 q0 q1 q2 q3 q5
        go_upto_region 15 with fail
        go_region_held3 (fun W => W.cell? ⟨w1.heap.size, 4, none⟩ = some (.int .i64 j)) (go_keep)
          (first | (go_at_call 91; ((with_reducible refine (HW.out _ (by first | exact .inl rfl | exact .inr rfl)).mono ?_)); rintro r w4 ⟨rfl, hb4⟩; have q0 : w4.cell? ⟨w1.heap.size, 4, none⟩ = some (.int .i64 j) := (by rw [hb4.cell (p := ⟨w1.heap.size, 4, none⟩) hz1]; exact q4)))
        all_goals
          go_wp2_with fail
          go_ret3
          exact RetG.yes ES.out HOF.out (HB2.out.call (by first | exact HI.out.bel.trans hb4 | exact (HI.out.bel.drewN 1).trans hb4))
  · have e : errS k g n S = errP k g n S 0 := by unfold errS; rw [if_neg h0]
    have HE := Lib.hid e
    have HO : Hid (∀ W, Below w.heap.size w W → Calls Tryz.prog 129 #[HV k g n, .slice A m c, .int .i64 0] W fun r w' => r = .returned (.tuple #[PV 0 0 0 0 0 ⟨#[]⟩, .int .i64 (errP k g n S 0)]) ∧ Below W.heap.size W w') := Lib.hid (fun W hb => own_err k g n A m c S 0 W (hR.below hb) h0)
    have hq : (errP k g n S 0 != 0) = true := by simpa using h0
    clear e hR
    go_enter Tryz.func106, Tryz.ntmps106
    go_wp2_with fail
    with_reducible refine (HO.out _ ((Below.refl _ w).push _)).mono ?_
    rintro r w1 ⟨rfl, b1⟩
    have HB1 := Lib.hid (((Below.refl _ w).push _).call b1)
    clear b1
    go_wp2_with fail
    go_ret3
    exact RetG.no HE.out h0 (HB1.out.push _)

end Go.Proofs.YtkglolnghihegaaGreatDoor.Shf
