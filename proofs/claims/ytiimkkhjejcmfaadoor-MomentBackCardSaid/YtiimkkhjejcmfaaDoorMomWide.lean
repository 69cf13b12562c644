/- Contracts of the functions that write a number's digits: digits of the program, wide of the document. -/
import Derived.Test.YtiimkkhjejcmfaaDoorMomNum
import Derived.Laws.BytesArg
import Derived.Laws.IdiomStrings
import Derived.Laws.MakeOwn
import Derived.Deep.OwnRows
import Derived.Laws.Rows
import Derived.WalkSpells
import Derived.Laws.CopyOwn
namespace Go.Proofs.YtiimkkhjejcmfaaDoor.Mom
open Go.RowKit Go.Deep Civ

/-- Block g is just these cells of element type t, none frozen. -/
def Blk (w : World) (g : Nat) (t : TypeId) (vs : List Value) : Prop := w.heap[g]? = some (.cells vs.toArray t (0, 0))
section
variable {w w' : World} {g : Nat} {t : TypeId} {vs : List Value}
theorem Blk.cell (h : Blk w g t vs) {i : Nat} (hi : i < vs.length) : w.cell? ⟨g, i, none⟩ = some vs[i] := by
  rw [cell_of_row w g i _ t _ h]; simp [hi]
theorem Blk.frozen (h : Blk w g t vs) (i : Nat) : w.frozen? ⟨g, i, none⟩ = false := by unfold Blk at h; simp [World.frozen?, h]
theorem Blk.new (w : World) (t : TypeId) (vs : Array Value) : Blk (w.alloc (.cells vs t)) w.heap.size t vs.toList := by unfold Blk; rw [heap_alloc_new]
theorem Blk.set_ (h : Blk w g t vs) (i : Nat) (u : Value) : Blk (w.setCell ⟨g, i, none⟩ u) g t (vs.set i u) := by
  unfold Blk at h ⊢
  simp [World.setCell, Array.getElem?_modify, h]
end
theorem new1 (w : World) (o : Obj) : Below w.heap.size w (w.alloc o) := (Below.refl _ _).alloc (Nat.le_refl _) _
/-- Bytes as cells. -/
def bv (l : List UInt8) : List Value := l.map fun b => Value.int .u8 b.toNat
theorem bv_len (l : List UInt8) : (bv l).length = l.length := by simp [bv]

theorem info5 : (Tryd.prog.info? 5).map (fun i => (i.zero, i.size, i.bytes)) = some (some (.int .u8 0), 1, 1) := by kernel_rfl
theorem makeB (n : Nat) (h : n ≤ 40) (w : World) : (Instr.makeSlice 65 (.int .i64 n) (.int .i64 n)).run Tryd.prog w = .ok (.slice (some ⟨w.heap.size, 0, none⟩) n n) (w.alloc (.cells (madeCells #[.int .u8 0] n) 5)) := by
  obtain ⟨i, hi, hz⟩ := Option.map_eq_some_iff.1 info5
  simp only [Prod.mk.injEq] at hz
  obtain ⟨hz1, hz2, hz3⟩ := hz
  have hr := run_make (P := Tryd.prog) w 65 5 i _ Tryd.underlying65 hi hz1 .i64 .i64 n n (by omega) (by omega) (by rw [hz3]; omega) (by omega)
  simp only [Int.toNat_natCast] at hr
  rw [hz2, Nat.mul_one] at hr
  exact hr
/-- Bytes of a block, made into a text. -/
theorem conv_back {w : World} {g cap : Nat} {l : List UInt8} {rest : List Value} (h : Blk w g 5 (bv l ++ rest)) : (convert 65 9 (.slice (some ⟨g, 0, none⟩) l.length cap)).run Tryd.prog w = .ok (.string ⟨l.toArray⟩) w :=
  run_convert_bytes_back w 65 9 5 ⟨g, 0, none⟩ cap l Tryd.underlying65 Tryd.underlying5 Tryd.underlying9 (fun j hj => by
    have e : (⟨g, 0, none⟩ : Addr).add j = ⟨g, j, none⟩ := by by_cases h0 : j = 0 <;> simp [Addr.add, h0]
    rw [e, h.cell (by rw [List.length_append, bv_len]; omega), List.getElem_append_left (by rw [bv_len]; exact hj)]
    simp [bv])

theorem low_set (n : Int) {j k : Nat} (h1 : 0 < j) (h2 : j ≤ k) :
    (List.replicate j (Value.int .u8 0) ++ bv (low n (k - j))).set (j - 1) (.int .u8 (dgt (n / 10 ^ (k - j))).toNat) = List.replicate (j - 1) (Value.int .u8 0) ++ bv (low n (k - (j - 1))) := by
  obtain ⟨j, rfl⟩ : ∃ i, j = i + 1 := ⟨j - 1, by omega⟩
  rw [Nat.add_sub_cancel, List.replicate_succ', List.append_assoc, List.set_append_right _ _ (by simp)]
  rw [show k - j = (k - (j + 1)) + 1 by omega]
  simp [low, bv]
theorem div_step (n : Int) {j k : Nat} (h1 : 0 < j) (h2 : j ≤ k) : n / 10 ^ (k - j) / 10 = n / 10 ^ (k - (j - 1)) := by
  rw [show k - (j - 1) = (k - j) + 1 by omega, Int.pow_succ, Int.ediv_ediv_of_nonneg (Int.pow_nonneg (show (0 : Int) ≤ 10 by omega))]
theorem div_in {n : Int} (h0 : 0 ≤ n) (h1 : n ≤ 400000000000) (k : Nat) : 0 ≤ n / 10 ^ k ∧ n / 10 ^ k ≤ 400000000000 := by
  have h : (0 : Int) ≤ 10 ^ k := Int.pow_nonneg (by omega)
  exact ⟨Int.ediv_nonneg h0 h, Int.le_trans (Int.ediv_le_self _ h0) h1⟩

theorem digits_any (n : Int) (k : Nat) (h0 : 0 ≤ n) (h1 : n ≤ 400000000000) (hk : k ≤ 4) (w : World) :
    Calls Tryd.prog 27 #[.int .i64 n, .int .i64 k] w fun r w' => r = .returned (.string ⟨(low n k).toArray⟩) ∧ Below w.heap.size w w' := by
  have hmk := makeB k (by omega)
  have HL0 : Hid (Blk (w.alloc (.cells (madeCells #[.int .u8 0] k) 5)) w.heap.size 5 (List.replicate k (.int .u8 0) ++ bv (low n (k - k)))) := by
    have := Blk.new w 5 (madeCells #[.int .u8 0] k)
    rw [toList_madeCells_one] at this
    show Blk _ _ _ _
    rw [Nat.sub_self]
    simpa [low, bv] using this
  have HI := Lib.hid (fun i => div_in h0 h1 i)
  have HN0 := Lib.hid (show n = n / 10 ^ (k - k) by rw [Nat.sub_self]; simp)
  go_enter Tryd.func27, Tryd.ntmps27
  go_wp2_with fail
  go_loopw [0, 6] (fun x i wr => ∃ (j : Nat) (m : Int), j ≤ k ∧ i = .int .i64 ((j : Int) - 1) ∧ x = .int .i64 m ∧ Hid (m = n / 10 ^ (k - j)) ∧ Hid (Blk wr w.heap.size 5 (List.replicate j (.int .u8 0) ++ bv (low n (k - j)))) ∧ Below w.heap.size w wr) (fun _ i _ => (intOf i + 1).toNat)
  case atStart => exact ⟨k, n, by omega, rfl, rfl, HN0, HL0.out, new1 _ _⟩
  case round =>
    obtain ⟨j, m, hj, rfl, rfl, hm, HL, hbel⟩ := hrel
    have hm0 : 0 ≤ m ∧ m ≤ 400000000000 := by rw [hm.out]; exact HI.out _
    obtain ⟨m0, m1⟩ := hm0
    by_cases hlt : 0 < j
    · obtain ⟨i, rfl⟩ : ∃ i, j = i + 1 := ⟨j - 1, by omega⟩
      have hc := HL.out.cell (i := i) (by simp; omega)
      have hf := HL.out.frozen i
      generalize (List.replicate (i + 1) (Value.int .u8 0) ++ bv (low n (k - (i + 1))))[i]'(by simp; omega) = old at hc
      have hd := dgt_nat m
      have HN := HL.out.set_ i (.int .u8 (dgt m).toNat)
      rw [hm.out] at HN
      have e := low_set n (j := i + 1) (k := k) (by omega) hj
      rw [Nat.add_sub_cancel] at e
      rw [e, ← hm.out, hd] at HN
      have HL2 := Lib.hid HN
      have HB2 := Lib.hid (hbel.setCell (p := ⟨w.heap.size, i, none⟩) (by simp) (.int .u8 (48 + m % 10)))
      have HM := Lib.hid (show m / 10 = n / 10 ^ (k - i) by rw [hm.out]; have := div_step n (j := i + 1) (k := k) (by omega) hj; rwa [Nat.add_sub_cancel] at this)
      clear HN hbel hd e HL
      go_wp2
      go_roundw
      case rel => exact ⟨i, m / 10, by omega, by first | rfl | (congr 1; omega), by first | rfl | (congr 1; omega), HM, HL2.out, HB2.out⟩
      case measure => simp [intOf]
    · obtain rfl : j = 0 := by omega
      have HB := Lib.hid hbel
      have hcv := conv_back (l := low n k) (cap := k) (rest := []) (by have := HL.out; rw [Nat.sub_zero, List.replicate_zero, List.nil_append] at this; rwa [List.append_nil])
      rw [low_len] at hcv
      clear hbel
      go_wp2
      go_ret
      exact ⟨rfl, HB.out⟩

theorem conv_one {z : Int} {b : UInt8} (hz : (b.toNat : Int) = z) (W : World) : (convert 65 9 (.slice (some ⟨W.heap.size, 0, none⟩) 1 1)).run Tryd.prog (W.alloc (.cells #[.int .u8 z] 5)) = .ok (.string ⟨#[b]⟩) (W.alloc (.cells #[.int .u8 z] 5)) :=
  conv_back (l := [b]) (rest := []) (by
    have := Blk.new W 5 #[.int .u8 z]
    rw [← hz] at this ⊢
    exact this)
theorem mk_cons (b : UInt8) (l : List UInt8) : ByteArray.mk #[b] ++ ByteArray.mk l.toArray = ByteArray.mk (b :: l).toArray := ByteArray.mk_append_mk [b] l
theorem low_succ (n : Int) (k : Nat) : low n (k + 1) = dgt (n / 10 ^ k) :: low n k := rfl
theorem wide_any (n : Int) (k : Nat) (h0 : 0 ≤ n) (h1 : n ≤ 400000000000) (hk : k ≤ 4) (w : World) :
    Calls Tryd.prog 29 #[.int .i64 n, .int .i64 k] w fun r w' => r = .returned (.string ⟨(low n k).toArray⟩) ∧ Below w.heap.size w w' := by
  have HI := Lib.hid (fun i => div_in h0 h1 i)
  have HN0 := Lib.hid (show n = n / 10 ^ 0 by simp)
  go_enter Tryd.func29, Tryd.ntmps29
  go_wp2_with fail
  go_loopw [0, 5, 6] (fun x s i wr => ∃ (j : Nat) (m : Int) (t : ByteArray), j ≤ k ∧ i = .int .i64 j ∧ x = .int .i64 m ∧ s = .string t ∧ t.size ≤ 4 ∧ Hid (m = n / 10 ^ j) ∧ Hid (t = ⟨(low n j).toArray⟩) ∧ Below w.heap.size w wr) (fun _ _ i _ => (k - intOf i).toNat)
  case atStart => exact ⟨0, n, _, by omega, rfl, rfl, rfl, by decide, HN0, Lib.hid rfl, Below.refl _ _⟩
  case round =>
    obtain ⟨j, m, t, hj, rfl, rfl, rfl, ht, hm, HL, hbel⟩ := hrel
    have hm0 : 0 ≤ m ∧ m ≤ 400000000000 := by rw [hm.out]; exact HI.out _
    obtain ⟨m0, m1⟩ := hm0
    by_cases hlt : j < k
    · have hcv := conv_one (dgt_nat m)
      have HT := Lib.hid (show ByteArray.mk #[dgt m] ++ t = ⟨(low n (j + 1)).toArray⟩ by rw [HL.out, mk_cons, low_succ, hm.out])
      have HB2 := Lib.hid (hbel.alloc (by have := hbel.size; omega) (.cells #[.int .u8 (48 + m % 10)] 5))
      have HM := Lib.hid (show m / 10 = n / 10 ^ (j + 1) by rw [hm.out, Int.pow_succ, Int.ediv_ediv_of_nonneg (Int.pow_nonneg (show (0 : Int) ≤ 10 by omega))])
      have hs : (ByteArray.mk #[dgt m] ++ t).size ≤ 4 := by rw [HT.out]; show (low n (j + 1)).toArray.size ≤ 4; simp [low_len]; omega
      clear hbel HL
      go_wp2
      go_roundw
      case rel => exact ⟨j + 1, m / 10, _, by omega, by go_num, by first | rfl | (congr 1; omega), rfl, hs, HM, HT, HB2.out⟩
      case measure => simp [intOf]; omega
    · obtain rfl : j = k := by omega
      have HB := Lib.hid hbel
      clear hbel
      go_wp2
      go_ret
      exact ⟨by rw [HL.out]; rfl, HB.out⟩
end Go.Proofs.YtiimkkhjejcmfaaDoor.Mom
