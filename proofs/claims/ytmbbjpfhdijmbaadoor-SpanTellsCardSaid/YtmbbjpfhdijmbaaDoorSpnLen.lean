/- Contracts of length and Parse. -/
import Derived.Test.YtmbbjpfhdijmbaaDoorSpnNext
namespace Go.Proofs.YtmbbjpfhdijmbaaDoor.Spn
open Go.RowKit

theorem cut_l (l : List UInt8) (c : UInt8) (w : World) : Calls Tryd.prog 19 #[.string ⟨l.toArray⟩, .string ⟨#[c]⟩] w fun r w' => r = .returned (.tuple #[.string ⟨(if l.head? = some c then l.tail else l).toArray⟩, .bool (l.head? == some c)]) ∧ w' = w := by
  have := cut_one ⟨l.toArray⟩ c w
  rwa [data_mk] at this
/-- A letter that is this one, and one that is not, as numbers. -/
theorem u8_is {a : UInt8} {k : Nat} (hk : k < 256) (h : a = UInt8.ofNat k) : (a.toNat : Int) = k := by
  rw [h, UInt8.toNat_ofNat']; omega
theorem u8_no {a : UInt8} {k : Nat} (hk : k < 256) (h : ¬ a = UInt8.ofNat k) : (a.toNat : Int) ≠ k := by
  intro e; apply h; apply UInt8.toNat_inj.1; rw [UInt8.toNat_ofNat']; omega

theorem length_l (l : List UInt8) (hs : l.length ≤ 100) (w : World) :
    Calls Tryd.prog 20 #[.string ⟨l.toArray⟩] w fun r w' => r = .returned (.tuple #[.int .i64 (leV l), .bool (leB l)]) ∧ Below w.heap.size w w' := by
  have HN := Lib.hid (fun W => next_l l hs W)
  have n0 := nxN_in l
  obtain ⟨n0, n1⟩ := n0
  by_cases h1 : nxC l = 87
  · obtain ⟨e1, e2⟩ := le_a h1
    rw [e1, e2, ← isE_mk]
    have t1 : ((nxC l).toNat : Int) = 87 := u8_is (k := 87) (by omega) h1
    clear h1 e1 e2
    generalize nxN l = n at *
    generalize nxC l = d at *
    generalize ByteArray.mk (nxR l).toArray = r at *
    generalize ByteArray.mk l.toArray = s at *
    go_enter Tryd.func20, Tryd.ntmps20
    go_wp2_with (go_at_call 32; with_reducible refine (HN.out _).mono ?_; rintro e w1 ⟨rfl, hb⟩; have B1 := Lib.hid hb; clear hb)
    go_ret2
    exact ⟨rfl, B1.out⟩
  · have t1 : ((nxC l).toNat : Int) ≠ 87 := u8_no (k := 87) (by omega) h1
    by_cases h2 : nxC l = 68 ∧ nxR l = []
    · obtain ⟨e1, e2⟩ := le_b h2.1 h2.2
      rw [e1, e2]
      have t2 : ((nxC l).toNat : Int) = 68 := u8_is (k := 68) (by omega) h2.1
      have t3 : (ByteArray.mk (nxR l).toArray).toList.isEmpty = true := by rw [isE_mk, h2.2]; rfl
      clear h1 h2 e1 e2
      generalize nxN l = n at *
      generalize nxC l = d at *
      generalize ByteArray.mk (nxR l).toArray = r at *
      generalize ByteArray.mk l.toArray = s at *
      go_enter Tryd.func20, Tryd.ntmps20
      go_wp2_with (go_at_call 32; with_reducible refine (HN.out _).mono ?_; rintro e w1 ⟨rfl, hb⟩; have B1 := Lib.hid hb; clear hb)
      go_ret2
      exact ⟨rfl, B1.out⟩
    · obtain ⟨e1, e2⟩ := le_c h1 h2
      rw [e1, e2]
      have HD := Lib.hid (fun W => take_d l hs W)
      obtain ⟨d0, d1⟩ := tkN_in 68 l
      have hl : (tkR 68 l).length ≤ 100 := Nat.le_trans (tkR_len _ _) hs
      have HP := Lib.hid (fun W => cut_l (tkR 68 l) 84 W)
      have hl2 : (tkR 68 l).tail.length ≤ 100 := by rw [List.length_tail]; omega
      have HK := Lib.hid (fun W => clock_l (tkR 68 l).tail hl2 W)
      obtain ⟨v0, v1⟩ := ckV_in (tkR 68 l).tail
      have t2 : ((nxC l).toNat : Int) ≠ 68 ∨ (ByteArray.mk (nxR l).toArray).toList.isEmpty = false := by
        by_cases h3 : nxC l = 68
        · right; rw [isE_mk]; have := fun e => h2 ⟨h3, e⟩; simpa using this
        · exact Or.inl (u8_no (k := 68) (by omega) h3)
      clear e1 e2 h1 h2 hs
      rcases ht : isT (tkR 68 l) with _ | _
      · rw [if_neg (by simp), Bool.false_and]
        rw [show ((tkR 68 l).head? == some 84) = false from ht, if_neg (by have : ((tkR 68 l).head? == some 84) = false := ht; simpa using this)] at HP
        clear ht HK
        generalize nxN l = n at *
        generalize nxC l = d at *
        generalize tkN 68 l = m at *
        generalize ByteArray.mk (nxR l).toArray = r at *
        generalize ByteArray.mk (tkR 68 l).toArray = r2 at *
        generalize ByteArray.mk l.toArray = s at *
        rcases t2 with t2 | t2
        · go_enter Tryd.func20, Tryd.ntmps20
          go_wp2_with (first
            | (go_at_call 32; with_reducible refine (HN.out _).mono ?_; rintro e w1 ⟨rfl, hb⟩; have B1 := Lib.hid ((Bl.refl w).call hb); clear hb)
            | (go_at_call 33; with_reducible refine (HD.out _).mono ?_; rintro e w2 ⟨rfl, hb⟩; have B2 := Lib.hid (B1.out.call hb); clear hb)
            | (go_at_call 19; with_reducible refine (HP.out _).mono ?_; rintro e w3 ⟨rfl, rfl⟩))
          go_ret2
          exact ⟨rfl, B2.out.below⟩
        · go_enter Tryd.func20, Tryd.ntmps20
          go_wp2_with (first
            | (go_at_call 32; with_reducible refine (HN.out _).mono ?_; rintro e w1 ⟨rfl, hb⟩; have B1 := Lib.hid ((Bl.refl w).call hb); clear hb)
            | (go_at_call 33; with_reducible refine (HD.out _).mono ?_; rintro e w2 ⟨rfl, hb⟩; have B2 := Lib.hid (B1.out.call hb); clear hb)
            | (go_at_call 19; with_reducible refine (HP.out _).mono ?_; rintro e w3 ⟨rfl, rfl⟩))
          all_goals go_ret2
          all_goals exact ⟨rfl, B2.out.below⟩
      · rw [if_pos rfl, Bool.true_and]
        rw [show ((tkR 68 l).head? == some 84) = true from ht, if_pos (by have : ((tkR 68 l).head? == some 84) = true := ht; simpa using this)] at HP
        clear ht
        generalize nxN l = n at *
        generalize nxC l = d at *
        generalize tkN 68 l = m at *
        generalize ckV (tkR 68 l).tail = v at *
        generalize ckB (tkR 68 l).tail = b at *
        generalize ByteArray.mk (nxR l).toArray = r at *
        generalize ByteArray.mk (tkR 68 l).tail.toArray = r3 at *
        generalize ByteArray.mk (tkR 68 l).toArray = r2 at *
        generalize ByteArray.mk l.toArray = s at *
        rcases t2 with t2 | t2
        · go_enter Tryd.func20, Tryd.ntmps20
          go_wp2_with (first
            | (go_at_call 32; with_reducible refine (HN.out _).mono ?_; rintro e w1 ⟨rfl, hb⟩; have B1 := Lib.hid ((Bl.refl w).call hb); clear hb)
            | (go_at_call 33; with_reducible refine (HD.out _).mono ?_; rintro e w2 ⟨rfl, hb⟩; have B2 := Lib.hid (B1.out.call hb); clear hb)
            | (go_at_call 19; with_reducible refine (HP.out _).mono ?_; rintro e w3 ⟨rfl, rfl⟩)
            | (go_at_call 34; with_reducible refine (HK.out _).mono ?_; rintro e w4 ⟨rfl, hb⟩; have B3 := Lib.hid (B2.out.call hb); clear hb))
          go_ret2
          exact ⟨rfl, B3.out.below⟩
        · go_enter Tryd.func20, Tryd.ntmps20
          go_wp2_with (first
            | (go_at_call 32; with_reducible refine (HN.out _).mono ?_; rintro e w1 ⟨rfl, hb⟩; have B1 := Lib.hid ((Bl.refl w).call hb); clear hb)
            | (go_at_call 33; with_reducible refine (HD.out _).mono ?_; rintro e w2 ⟨rfl, hb⟩; have B2 := Lib.hid (B1.out.call hb); clear hb)
            | (go_at_call 19; with_reducible refine (HP.out _).mono ?_; rintro e w3 ⟨rfl, rfl⟩)
            | (go_at_call 34; with_reducible refine (HK.out _).mono ?_; rintro e w4 ⟨rfl, hb⟩; have B3 := Lib.hid (B2.out.call hb); clear hb))
          all_goals go_ret2
          all_goals exact ⟨rfl, B3.out.below⟩

theorem cutsign_l (l : List UInt8) (w : World) :
    Calls Tryd.prog 18 #[.string ⟨l.toArray⟩] w fun r w' => r = .returned (.tuple #[.int .i64 (sgV l), .string ⟨(sgR l).toArray⟩]) ∧ w = w' := by
  have := cutsign_any ⟨l.toArray⟩ w
  rwa [data_mk] at this
theorem sgR_len (l : List UInt8) : (sgR l).length ≤ l.length := by
  unfold sgR
  split
  · rw [List.length_tail]; omega
  · exact Nat.le_refl _

theorem parse_l (l : List UInt8) (hs : l.length ≤ 100) (w : World) :
    Calls Tryd.prog 8 #[.string ⟨l.toArray⟩] w fun r w' => r = .returned (.tuple #[.int .i64 (paV l), .int .i64 (paE l)]) ∧ Below w.heap.size w w' := by
  have HG := Lib.hid (fun W => cutsign_l l W)
  have HP := Lib.hid (fun W => cut_l (sgR l) 80 W)
  have hl : (bdy l).length ≤ 100 := by have := sgR_len l; unfold bdy; rw [List.length_tail]; omega
  rcases hp : isP l with _ | _
  · rw [paV_not (by rw [pa_p hp]; decide), pa_p hp]
    rw [show ((sgR l).head? == some 80) = false from hp, if_neg (by have : ((sgR l).head? == some 80) = false := hp; simpa using this)] at HP
    clear hp
    generalize sgV l = g at *
    generalize ByteArray.mk (sgR l).toArray = r at *
    generalize ByteArray.mk l.toArray = s at *
    go_enter Tryd.func8, Tryd.ntmps8
    go_wp2_with (first
      | (go_at_call 18; with_reducible refine (HG.out _).mono ?_; rintro e w1 ⟨rfl, rfl⟩)
      | (go_at_call 19; with_reducible refine (HP.out _).mono ?_; rintro e w2 ⟨rfl, rfl⟩))
    go_ret2
    exact ⟨rfl, Below.refl _ _⟩
  · rw [show ((sgR l).head? == some 80) = true from hp, if_pos (by have : ((sgR l).head? == some 80) = true := hp; simpa using this)] at HP
    have HL := Lib.hid (fun W => length_l (bdy l) hl W)
    change Hid (∀ W, Calls Tryd.prog 19 #[.string ⟨(sgR l).toArray⟩, .string ⟨#[80]⟩] W fun r w' => r = .returned (.tuple #[.string ⟨(bdy l).toArray⟩, .bool true]) ∧ w' = W) at HP
    have HI := Lib.hid (fun W => isspan_any (leV (bdy l)) W)
    obtain ⟨v0, v1⟩ := leV_in (bdy l)
    rcases hb : leB (bdy l) with _ | _
    · rw [paV_not (by rw [pa_form hb]; decide), pa_form hb]
      rw [hb] at HL
      clear hb hp HI
      generalize sgV l = g at *
      generalize leV (bdy l) = v at *
      generalize ByteArray.mk (bdy l).toArray = r2 at *
      generalize ByteArray.mk (sgR l).toArray = r at *
      generalize ByteArray.mk l.toArray = s at *
      go_enter Tryd.func8, Tryd.ntmps8
      go_wp2_with (first
        | (go_at_call 18; with_reducible refine (HG.out _).mono ?_; rintro e w1 ⟨rfl, rfl⟩)
        | (go_at_call 19; with_reducible refine (HP.out _).mono ?_; rintro e w2 ⟨rfl, rfl⟩)
        | (go_at_call 20; with_reducible refine (HL.out _).mono ?_; rintro e w3 ⟨rfl, hb⟩; have B3 := Lib.hid hb; clear hb))
      go_ret2
      exact ⟨rfl, B3.out⟩
    · rw [hb] at HL
      by_cases hm : leV (bdy l) ≤ maxS
      · obtain ⟨e1, e2⟩ := pa_ok hp hb hm
        rw [e1, e2]
        rw [spI_iff.2 ⟨by unfold maxS; omega, hm⟩] at HI
        clear e1 e2 hb hm hp
        rcases sgV_in l with hg | hg
        · rw [hg] at HG ⊢
          rw [Int.one_mul]
          clear hg
          generalize leV (bdy l) = v at *
          generalize ByteArray.mk (bdy l).toArray = r2 at *
          generalize ByteArray.mk (sgR l).toArray = r at *
          generalize ByteArray.mk l.toArray = s at *
          go_enter Tryd.func8, Tryd.ntmps8
          go_wp2_with (first
            | (go_at_call 18; with_reducible refine (HG.out _).mono ?_; rintro e w1 ⟨rfl, rfl⟩)
            | (go_at_call 19; with_reducible refine (HP.out _).mono ?_; rintro e w2 ⟨rfl, rfl⟩)
            | (go_at_call 20; with_reducible refine (HL.out _).mono ?_; rintro e w3 ⟨rfl, hb⟩; have B3 := Lib.hid hb; clear hb)
            | (go_at_call 21; with_reducible refine (HI.out _).mono ?_; rintro e w4 ⟨rfl, rfl⟩))
          go_ret2
          exact ⟨rfl, B3.out⟩
        · rw [hg] at HG ⊢
          rw [Int.neg_mul, Int.one_mul]
          clear hg
          generalize leV (bdy l) = v at *
          generalize ByteArray.mk (bdy l).toArray = r2 at *
          generalize ByteArray.mk (sgR l).toArray = r at *
          generalize ByteArray.mk l.toArray = s at *
          go_enter Tryd.func8, Tryd.ntmps8
          go_wp2_with (first
            | (go_at_call 18; with_reducible refine (HG.out _).mono ?_; rintro e w1 ⟨rfl, rfl⟩)
            | (go_at_call 19; with_reducible refine (HP.out _).mono ?_; rintro e w2 ⟨rfl, rfl⟩)
            | (go_at_call 20; with_reducible refine (HL.out _).mono ?_; rintro e w3 ⟨rfl, hb⟩; have B3 := Lib.hid hb; clear hb)
            | (go_at_call 21; with_reducible refine (HI.out _).mono ?_; rintro e w4 ⟨rfl, rfl⟩))
          go_ret2
          exact ⟨by first | rfl | (congr 3; first | rfl | go_num), B3.out⟩
      · rw [paV_not (by rw [pa_range hp hb hm]; decide), pa_range hp hb hm]
        rw [spI_no.2 (fun h => hm h.2)] at HI
        clear hb hm hp
        generalize sgV l = g at *
        generalize leV (bdy l) = v at *
        generalize ByteArray.mk (bdy l).toArray = r2 at *
        generalize ByteArray.mk (sgR l).toArray = r at *
        generalize ByteArray.mk l.toArray = s at *
        go_enter Tryd.func8, Tryd.ntmps8
        go_wp2_with (first
          | (go_at_call 18; with_reducible refine (HG.out _).mono ?_; rintro e w1 ⟨rfl, rfl⟩)
          | (go_at_call 19; with_reducible refine (HP.out _).mono ?_; rintro e w2 ⟨rfl, rfl⟩)
          | (go_at_call 20; with_reducible refine (HL.out _).mono ?_; rintro e w3 ⟨rfl, hb⟩; have B3 := Lib.hid hb; clear hb)
          | (go_at_call 21; with_reducible refine (HI.out _).mono ?_; rintro e w4 ⟨rfl, rfl⟩))
        go_ret2
        exact ⟨rfl, B3.out⟩
end Go.Proofs.YtmbbjpfhdijmbaaDoor.Spn
