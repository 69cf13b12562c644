/- Contract of the laws' made: a fault, with the places of those that wrap it. -/
import Derived.Test.YtihhdognjcmbkaaDoorFltPla
namespace Go.Proofs.YtihhdognjcmbkaaDoor.Flt
open Go.RowKit

/-- A slice of numbers of 32 bits that came in. -/
structure R32 (w : World) (a : Option Addr) (n : Nat) (zs : List Int) : Prop where
  len : zs.length = n
  small : ∀ z ∈ zs, -2147483648 ≤ z ∧ z ≤ 2147483647
  at' : 0 < n → ∃ b off, a = some ⟨b, off, none⟩ ∧ b < w.heap.size ∧ ∀ i, i < zs.length → w.cell? ⟨b, off + i, none⟩ = some (.int .i32 (zs.getD i 0))
theorem R32.call {w w' : World} {a : Option Addr} {n : Nat} {zs : List Int} (h : R32 w a n zs) (hb : Below w.heap.size w w') : R32 w' a n zs :=
  ⟨h.len, h.small, fun hn => by
    obtain ⟨b, off, e, hl, hc⟩ := h.at' hn
    exact ⟨b, off, e, Nat.lt_of_lt_of_le hl hb.size, fun i hi => (hb.cell (p := ⟨b, off + i, none⟩) hl).trans (hc i hi)⟩⟩
theorem R32.in' {w : World} {a : Option Addr} {n : Nat} {zs : List Int} (h : R32 w a n zs) (i : Nat) (hi : i < zs.length) : -2147483648 ≤ zs.getD i 0 ∧ zs.getD i 0 ≤ 2147483647 := by
  rw [List.getD_eq_getElem?_getD, List.getElem?_eq_getElem hi]
  exact h.small _ (List.getElem_mem _)
/-- The places of a fault that the laws make. -/
def pl (e : Int) (zs : List Int) : List Int := if (e == 0) = true then [] else zs.reverse
theorem pl_next (e : Int) (zs : List Int) (k : Nat) (h1 : 1 ≤ k) (h : k < zs.length) : (if pl e (zs.take k) = [] then [] else zs.getD k 0 :: pl e (zs.take k)) = pl e (zs.take (k + 1)) := by
  unfold pl
  by_cases he : (e == 0) = true
  · rw [if_pos he, if_pos he, if_pos rfl]
  · have hn : (zs.take k).reverse ≠ [] := by
      intro h0
      have := congrArg List.length h0
      rw [List.length_reverse, List.length_take, List.length_nil] at this
      omega
    rw [if_neg he, if_neg he, if_neg hn, List.take_succ_eq_append_getElem h, List.reverse_append]
    simp [List.getD_eq_getElem?_getD, List.getElem?_eq_getElem h]
theorem pl_one (e : Int) (zs : List Int) (h : 0 < zs.length) : (if (e == 0) = true then [] else [zs.getD 0 0]) = pl e (zs.take 1) := by
  unfold pl
  cases zs with
  | nil => simp at h
  | cons z r => simp

theorem made_any (e : Int) (e0 : -32768 ≤ e) (e1 : e ≤ 32767) (a : Option Addr) (n c : Nat) (zs : List Int) (w : World) (hz : R32 w a n zs) (hn : n ≤ 40) :
    Calls Tryd.prog 8 #[.int .i16 e, .slice a n c] w fun r w' => ∃ v, r = .returned v ∧ Er w' e v (pl e zs) ∧ Below w.heap.size w w' := by
  by_cases h0 : n = 0
  · subst h0
    have e : zs = [] := List.eq_nil_of_length_eq_zero hz.len
    subst e
    have ep : pl e [] = [] := by unfold pl; split <;> rfl
    rw [ep]
    clear ep hz
    go_enter Tryd.func8, Tryd.ntmps8
    go_wp2
    go_ret
    exact ⟨_, rfl, .none, Below.refl _ _⟩
  · obtain ⟨b, off, rfl, hbl, hc⟩ := hz.at' (by omega)
    have hl := hz.len
    have t0 : ((n : Int) == 0) = false := by rw [beq_eq_false_iff_ne]; omega
    have c0 := hc 0 (by omega)
    rw [Nat.add_zero] at c0
    obtain ⟨z0, z1⟩ := hz.in' 0 (by omega)
    have HZ := Lib.hid hz
    have HC := Lib.hid hc
    have HL := Lib.hid hl
    have HB := Lib.hid hbl
    have HN := Lib.hid (fun z W => new_any e z W)
    have HI := Lib.hid (fun z v l W h => in_any e z v l W h)
    have n0 : (0 : Int) < n := by omega
    have HP1 := Lib.hid (pl_one e zs (by omega))
    have HPn := Lib.hid (fun k h1 h => pl_next e zs k h1 h)
    clear hz hc hl hbl
    generalize zs.getD 0 0 = y at *
    go_enter Tryd.func8, Tryd.ntmps8
    go_wp2_with (go_at_call 23; with_reducible refine (HN.out _ _).mono ?_; rintro r w1 ⟨v1, rfl, hE1, hb1⟩; have B1 := Lib.hid ((Bl.refl w).call hb1); have E1 := Lib.hid hE1; clear hE1 hb1)
    go_loopw [5, 6] (fun v i wr => ∃ k : Nat, 1 ≤ k ∧ (k : Int) ≤ n ∧ i = .int .i64 k ∧ Hid (Er wr e v (pl e (zs.take k))) ∧ Hid (Bl w wr)) (fun _ i _ => (n - intOf i).toNat)
    case atStart => exact ⟨1, Nat.le_refl _, by omega, rfl, Lib.hid (by rw [← HP1.out]; exact E1.out), B1⟩
    case round =>
      obtain ⟨k, h1, hk, rfl, hE, hB⟩ := hrel
      by_cases hlt : (k : Int) < n
      · have ck := (hB.out.below.cell (p := ⟨b, off + k, none⟩) HB.out).trans (HC.out k (by have := HL.out; omega))
        obtain ⟨k0, k1⟩ := HZ.out.in' k (by have := HL.out; omega)
        have HK := Lib.hid (HPn.out k h1 (by have := HL.out; omega))
        generalize zs.getD k 0 = y at *
        go_wp2_with (go_at_call 22; with_reducible refine (HI.out _ _ _ _ hE.out).mono ?_; rintro r w2 ⟨v2, rfl, hE2, hb2⟩; have B2 := Lib.hid (hB.out.call hb2); rw [HK.out] at hE2; have E2 := Lib.hid hE2; clear hE2 hb2)
        go_roundw
        case rel => exact ⟨k + 1, by omega, by omega, by go_num, E2, B2⟩
        case measure => simp [intOf]; omega
      · have HF := Lib.hid (show zs.take k = zs from List.take_of_length_le (by have := HL.out; omega))
        go_wp2_with fail
        go_ret
        exact ⟨_, rfl, by have := hE.out; rwa [HF.out] at this, hB.out.below⟩
end Go.Proofs.YtihhdognjcmbkaaDoor.Flt
