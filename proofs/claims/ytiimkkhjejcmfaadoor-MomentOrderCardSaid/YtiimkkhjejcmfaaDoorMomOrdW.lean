/- The walk of MomentOrder. -/
import Derived.Test.YtiimkkhjejcmfaaDoorMomLaw
namespace Go.Proofs.YtiimkkhjejcmfaaDoor.Mom
open Go.RowKit Civ

/-- A block that holds two numbers. -/
structure Cu (w : World) (g : Nat) (n m : Int) : Prop where
  c0 : w.cell? ⟨g, 0, none⟩ = some (.int .u64 n)
  c1 : w.cell? ⟨g, 1, none⟩ = some (.int .u64 m)
  lt : g < w.heap.size
theorem Cu.call {w w1 : World} {g : Nat} {k s : Int} (h : Cu w g k s) (hb : Below w.heap.size w w1) : Cu w1 g k s :=
  ⟨by rw [hb.cell (p := ⟨g, 0, none⟩) h.lt]; exact h.c0, by rw [hb.cell (p := ⟨g, 1, none⟩) h.lt]; exact h.c1, by have := hb.size; have := h.lt; omega⟩
theorem Cu.new (w : World) (n m : Int) (t : TypeId) : Cu (w.alloc (.cells #[.int .u64 n, .int .u64 m] t)) w.heap.size n m := by
  have h0 : (w.alloc (.cells #[.int .u64 n, .int .u64 m] t)).heap[w.heap.size]? = some (.cells #[.int .u64 n, .int .u64 m] t) := heap_alloc_new w _
  refine ⟨?_, ?_, by simp⟩
  · rw [cell_of_row _ w.heap.size 0 _ t _ h0]; rfl
  · rw [cell_of_row _ w.heap.size 1 _ t _ h0]; rfl
theorem bef_same (k a b : Int) : befA k a k b = decide (a < b) := by unfold befA; simp
theorem less_mk (x y : List UInt8) : Op.bytesLess (ByteArray.mk x.toArray).toList (ByteArray.mk y.toArray).toList = Op.bytesLess x y := by
  rw [to_list, to_list]
theorem text_beq {k a b : Int} (ha : chkA k a = 0) (hb : chkA k b = 0) : ((ByteArray.mk (textL k a).toArray).toList == (ByteArray.mk (textL k b).toArray).toList) = (a == b) := by
  rw [to_list, to_list]
  by_cases h : a = b
  · subst h; simp
  · have h1 : (a == b) = false := by simp [h]
    have h2 : ((textL k a) == (textL k b)) = false := by simp; exact fun e => h (text_one ha hb e)
    rw [h1]; exact h2

theorem walk_order (kd n m : Int) (k0 : 0 ≤ kd) (n0 : 0 ≤ n) (m0 : 0 ≤ m) (w : World) (hT : CTab w) :
    Calls Tryd.prog 6 #[.int .u8 kd, .agg #[.int .u64 n, .int .u64 m]] w fun r w' => r = .returned (.bool true) ∧ Below w.heap.size w w' := by
  have HT := Lib.hid hT
  clear hT
  have HA := Lib.hid (fun W hW => awake_any W hW)
  have et : kd.tmod 3 = kd % 3 := Int.tmod_eq_emod_of_nonneg k0
  have eu : n.tmod 315537897600 = n % 315537897600 := Int.tmod_eq_emod_of_nonneg n0
  have ev : m.tmod 315537897600 = m % 315537897600 := Int.tmod_eq_emod_of_nonneg m0
  have a1 : 1 ≤ 1 + kd % 3 := by omega
  have a2 : 1 + kd % 3 ≤ 3 := by omega
  have a3 : 0 ≤ n % 315537897600 := by omega
  have a4 : n % 315537897600 ≤ 315537897599 := by omega
  have a5 : 0 ≤ m % 315537897600 := by omega
  have a6 : m % 315537897600 ≤ 315537897599 := by omega
  generalize hk : 1 + kd % 3 = k at *
  generalize hz : n % 315537897600 = y0 at *
  generalize hy : m % 315537897600 = z0 at *
  have HK := Lib.hid hk
  have HZ := Lib.hid hz
  have HY := Lib.hid hy
  clear hk hz hy
  obtain ⟨q1, q2, qa⟩ := at_ok a1 a2 a3 a4
  obtain ⟨r1, r2, qb⟩ := at_ok a1 a2 a5 a6
  have H1 := Lib.hid (fun W => at_any k y0 W)
  have H2 := Lib.hid (fun W => at_any k z0 W)
  rw [q1, q2] at H1
  rw [r1, r2] at H2
  clear q1 q2 r1 r2
  generalize atS k y0 = a at *
  generalize atS k z0 = b at *
  have H3 := Lib.hid (fun W hW => print_any k a W hW)
  rw [pr_ok qa, qa] at H3
  have H4 := Lib.hid (fun W hW => print_any k b W hW)
  rw [pr_ok qb, qb] at H4
  have H5 := Lib.hid (fun W => split_any k a W)
  unfold spD spS at H5
  rw [if_pos qa, if_pos qa] at H5
  have H6 := Lib.hid (fun W => before_any k a k b W)
  rw [bef_same] at H6
  have el := text_less qa qb
  rw [← less_mk] at el
  have eq' := text_beq qa qb
  have en : (ByteArray.mk (textL k a).toArray).toList.isEmpty = false := by
    rw [to_list]
    have := text_some a a1 a2
    simpa using this
  obtain ⟨-, -, b0, b1, -⟩ := chk_ok qa
  clear qa qb
  generalize ByteArray.mk (textL k a).toArray = s at *
  generalize ByteArray.mk (textL k b).toArray = t at *
  have d0 : 0 ≤ a / 86400 := by omega
  have d1 : a / 86400 ≤ 3652058 := by omega
  have d2 : 0 ≤ a % 86400 := by omega
  have d3 : a % 86400 < 86400 := by omega
  have d4 : (a / 86400 * 86400 + a % 86400 == a) = true := by simp; omega
  generalize a / 86400 = dd at *
  generalize a % 86400 = ds at *
  have tk : (k == k) = true := by simp
  generalize hp : decide (a < b) = p at *
  generalize hq : (a == b) = q at *
  clear hp
  cases p <;> cases q
  all_goals
    go_enter Tryd.func6, Tryd.ntmps6
    have ek : 1 + kd % 3 = k := HK.out
    have ez : n % 315537897600 = y0 := HZ.out
    have ey : m % 315537897600 = z0 := HY.out
    go_wp2_with (first
      | (go_at_call 14; with_reducible refine (H1.out _).mono ?_; rintro e w1 ⟨rfl, hb⟩; have B1 := Lib.hid (((Bl.refl w).alloc _).call hb); have U1 := Lib.hid ((Cu.new w n m 49).call hb); clear hb; obtain ⟨u0, u1, uz⟩ := U1.out)
      | (go_at_call 14; with_reducible refine (H2.out _).mono ?_; rintro e w2 ⟨rfl, hb⟩; have B2 := Lib.hid ((B1.out.alloc _).call hb); have A2 := Lib.hid ((Cel.new w1 k a 24).call hb); clear hb u0 u1 uz; obtain ⟨v0, v1, vz⟩ := A2.out)
      | (go_at_call 10; with_reducible refine (H3.out _ ((B2.out.alloc _).tab HT.out)).mono ?_; rintro e w3 ⟨rfl, hb⟩; have B3 := Lib.hid ((B2.out.alloc _).call hb); have A3 := Lib.hid ((A2.out.alloc _).call hb); have D3 := Lib.hid ((Cel.new w2 k b 24).call hb); clear hb v0 v1 vz; obtain ⟨u0, u1, uz⟩ := D3.out)
      | (go_at_call 10; with_reducible refine (H4.out _ (B3.out.tab HT.out)).mono ?_; rintro e w4 ⟨rfl, hb⟩; have B4 := Lib.hid (B3.out.call hb); have A4 := Lib.hid (A3.out.call hb); have D4 := Lib.hid (D3.out.call hb); clear hb u0 u1 uz; obtain ⟨v0, v1, vz⟩ := A4.out)
      | (go_at_call 12; with_reducible refine (H5.out _).mono ?_; rintro e w5 ⟨rfl, hb⟩; have B5 := Lib.hid (B4.out.call hb); have A5 := Lib.hid (A4.out.call hb); have D5 := Lib.hid (D4.out.call hb); clear hb v0 v1 vz; obtain ⟨v0, v1, vz⟩ := A5.out; obtain ⟨u0, u1, uz⟩ := D5.out)
      | (go_at_call 18; with_reducible refine (H6.out _).mono ?_; rintro e w6 ⟨rfl, hb⟩; have B6 := Lib.hid (B5.out.call hb); have A6 := Lib.hid (A5.out.call hb); have D6 := Lib.hid (D5.out.call hb); clear hb v0 v1 vz u0 u1 uz; obtain ⟨v0, v1, vz⟩ := A6.out; obtain ⟨u0, u1, uz⟩ := D6.out)
      | (go_at_call 7; with_reducible refine (HA.out _ (B6.out.tab HT.out)).mono ?_; rintro e w7 ⟨rfl, hb⟩; have B7 := Lib.hid (B6.out.call hb); clear hb v0 v1 vz u0 u1 uz))
    go_ret
    exact ⟨rfl, B7.out.below⟩
end Go.Proofs.YtiimkkhjejcmfaaDoor.Mom
