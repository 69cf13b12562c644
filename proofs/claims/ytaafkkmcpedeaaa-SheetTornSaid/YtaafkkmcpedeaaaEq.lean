/- Two arrays of bytes, held against each other. -/
import Derived.Test.YtaafkkmcpedeaaaSmall
import Derived.ChangeKeysEq
namespace Go.Proofs.Ytaafkkmcpedeaaa
open Go.RowKit Go.Proofs.Ytaafkkmcpedeaaa.Oct

theorem plain5 : Try.prog.plainKey 5 = true := by kernel_rfl
theorem cells5 : Try.prog.cellsOf 5 = 1 := by kernel_rfl

theorem run_items (W : World) (d : Nat) (l m : List UInt8) : ∀ is : List Nat, (∀ i ∈ is, i < l.length ∧ i < m.length) →
    (Op.eqItems (d + 1) 5 1 (bv l).toArray (bv m).toArray is).run Try.prog W = .ok (is.all fun i => l[i]? == m[i]?) W
  | [], _ => by simp [Op.eqItems]
  | i :: is, h => by
    obtain ⟨h1, h2⟩ := h i (by simp)
    have e1 : (part 5 (bv l).toArray i).run Try.prog W = .ok (.int .u8 l[i].toNat) W := run_part_plain W plain5 (by simp [bv, h1])
    have e2 : (part 5 (bv m).toArray i).run Try.prog W = .ok (.int .u8 m[i].toNat) W := run_part_plain W plain5 (by simp [bv, h2])
    have e3 := run_equalIn_int (P := Try.prog) (w := W) d 5 .u8 .u8 l[i].toNat m[i].toNat Try.underlying5
    have ih := run_items W d l m is (fun j hj => h j (by simp [hj]))
    have e4 : ((l[i].toNat : Int) == m[i].toNat) = (l[i] == m[i]) := by
      by_cases h : l[i] = m[i]
      · simp [h]
      · have h' : ¬ ((l[i].toNat : Int) = m[i].toNat) := fun e => h (UInt8.toNat_inj.1 (by omega))
        rw [beq_eq_false_iff_ne.2 h, beq_eq_false_iff_ne.2 h']
    rw [e4] at e3
    simp only [Op.eqItems, Sem.run_bind, Nat.mul_one, e1, e2, e3, Result.andThen_ok, List.all_cons, List.getElem?_eq_getElem h1, List.getElem?_eq_getElem h2]
    by_cases h : l[i] = m[i]
    · simp [h, ih]
    · simp [h]

theorem all_eq (l m : List UInt8) (hl : l.length = 6) (hm : m.length = 6) : ((List.range 6).all fun i => l[i]? == m[i]?) = decide (l = m) := by
  obtain ⟨c0, c1, c2, c3, c4, c5, rfl⟩ := six hl
  obtain ⟨d0, d1, d2, d3, d4, d5, rfl⟩ := six hm
  rw [Bool.eq_iff_iff]
  simp [List.range_succ]

theorem eq6' (W : World) (d : Nat) (l m : List UInt8) (hl : l.length = 6) (hm : m.length = 6) :
    (Op.equalIn (d + 1 + 1) 53 (M6 l) (M6 m)).run Try.prog W = .ok (decide (l = m)) W := by
  obtain ⟨i, hi⟩ := info_of_underlying Try.underlying5
  rw [run_equalIn_array (P := Try.prog) W (d + 1) _ _ Try.underlying53 hi, cells5, run_items W d l m _ (fun i hi => by simp at hi; omega)]
  rw [all_eq l m hl hm]

theorem eq6 (W : World) (l m : List UInt8) (hl : l.length = 6) (hm : m.length = 6) : (Op.equalIn 10000 53 (M6 l) (M6 m)).run Try.prog W = .ok (decide (l = m)) W := eq6' W 9998 l m hl hm

end Go.Proofs.Ytaafkkmcpedeaaa
