/- Contracts of filled, and of New of package disk. -/
import Derived.Test.YtkglolnghihegaaGreatDoorDskB
import Derived.Test.YtkglolnghihegaaGreatDoorShelf
import Derived.Laws.BytesArg
import Derived.Laws.IdiomStrings
namespace Go.Proofs.YtkglolnghihegaaGreatDoor.Dsk
open Go.RowKit

theorem info5 : (Tryz.prog.info? 5).map (fun i => (i.zero, i.size, i.bytes)) = some (some (.int .u8 0), 1, 1) := by kernel_rfl
theorem make64 (w : World) : (Instr.makeSlice 59 (.int .i64 64) (.int .i64 64)).run Tryz.prog w = .ok (.slice (some ⟨w.heap.size, 0, none⟩) 64 64) (w.alloc (.cells (madeCells #[.int .u8 0] 64) 5)) := by
  obtain ⟨i, hi, hz⟩ := Option.map_eq_some_iff.1 info5
  simp only [Prod.mk.injEq] at hz
  obtain ⟨hz1, hz2, hz3⟩ := hz
  have := run_make_rowN (P := Tryz.prog) 59 5 i _ Tryz.underlying59 hi hz1 .i64 .i64 64 64 (Nat.le_refl _) (by rw [hz3]; omega) (by omega) w
  rw [hz2] at this
  exact this
theorem conv64 {w : World} {g : Nat} {v : Value} {b : UInt8} (hv : v = .int .u8 b.toNat) (h : Blk w g 5 (List.replicate 64 v)) : (convert 59 9 (.slice (some ⟨g, 0, none⟩) 64 64)).run Tryz.prog w = .ok (.string (fillS b)) w := by
  have := run_convert_bytes_back (P := Tryz.prog) w 59 9 5 ⟨g, 0, none⟩ 64 (List.replicate 64 b) Tryz.underlying59 Tryz.underlying5 Tryz.underlying9 (fun j hj => by
    rw [add_none, Nat.zero_add, h.cell (by rwa [List.length_replicate] at hj ⊢), List.getElem_replicate, List.getElem_replicate, hv])
  rw [List.length_replicate] at this
  exact this
theorem repl_set {α : Type} (x y : α) (k n : Nat) (h : k < n) : (List.replicate k x ++ List.replicate (n - k) y).set k x = List.replicate (k + 1) x ++ List.replicate (n - (k + 1)) y := by
  have e : n - k = (n - (k + 1)) + 1 := by omega
  rw [e, List.replicate_succ, List.set_append_right _ _ (by simp)]
  simp [List.replicate_succ' (n := k)]

theorem repeatL_one (b : UInt8) (n : Nat) : Lib.repeatL [b] n = List.replicate n b := by
  induction n with
  | zero => rfl
  | succ n ih => rw [Lib.repeatL, ih, List.replicate_succ]; rfl
theorem repeat64 (w : World) : Calls Tryz.prog 52 #[.string ⟨#[0]⟩, .int .i64 64] w fun e w' => e = .returned (.string (fillS 0)) ∧ Below w.heap.size w w' := by
  have := shRepeat ⟨#[0]⟩ 64 w (by omega) (by decide)
  rw [repeatL_one] at this
  exact this
theorem makeS (n : Nat) (h : n ≤ 2000) (w : World) : (Instr.makeSlice 22 (.int .i64 n) (.int .i64 n)).run Tryz.prog w = .ok (.slice (some ⟨w.heap.size, 0, none⟩) n n) (w.alloc (.cells (madeCells #[.string ByteArray.empty] n) 9)) := by
  obtain ⟨i, hi, hz⟩ := Option.map_eq_some_iff.1 info9
  simp only [Prod.mk.injEq] at hz
  obtain ⟨hz1, hz2, hz3⟩ := hz
  have := run_make_rowN (P := Tryz.prog) 22 9 i _ Tryz.underlying22 hi hz1 .i64 .i64 n n (Nat.le_refl _) (by rw [hz3]; omega) (by omega) w
  rw [hz2, Nat.mul_one] at this
  exact this

theorem new_no (n : Int) (w : World) (h : n < 16 ∨ 512 < n) : Calls Tryz.prog 22 #[.int .i64 n] w (RetDE w [] [] 0 8) := by
  have H := Lib.hid h
  clear h
  go_enter Tryz.func22, Tryz.ntmps22
  go_wp2_with (go_at_call 51; ((with_reducible refine (mayHave_no _ _ H.out).mono ?_)); rintro r w5 ⟨rfl, rfl⟩)
  exact bodyPost_ret (v := .tuple #[DV none 0 0 none 0 0 0, .int .i64 8]) (by simp [results, Tryz.results22, go_sem]) rfl ⟨none, 0, 0, none, 0, 0, rfl, ⟨RV.nil _ _ _, RV.nil _ _ _, by omega, by omega, by simp, by simp⟩, new1 _ _⟩

set_option maxRecDepth 100000 in
set_option maxHeartbeats 1000000 in
theorem new_yes (n : Nat) (w : World) (h1 : 16 ≤ (n : Int)) (h2 : (n : Int) ≤ 512) : Calls Tryz.prog 22 #[.int .i64 n] w (RetDE w (newS n) [] (-1) 0) := by
  have hmk := makeS n (by omega)
  have HZ := Lib.hid (fillS_size 0)
  unfold newS
  generalize hz : fillS 0 = z0 at HZ
  have HZ0 := Lib.hid hz
  clear hz
  go_enter Tryz.func22, Tryz.ntmps22
  go_wp2_with (first
    | (go_at_call 51; ((with_reducible refine (mayHave_yes _ _ h1 h2).mono ?_)); rintro r w5 ⟨rfl, rfl⟩)
    | (go_at_call 52; ((with_reducible refine (repeat64 _).mono ?_)); rintro r w1 ⟨rfl, hb1⟩; rw [HZ0.out]; have HB1 := Lib.hid ((new1 w _).call hb1); have HX1 := Lib.hid ((Box.new w (.slice none 0 0) (.slice none 0 0) (.int .i64 0) 29).call hb1); have hzz : w.heap.size < w1.heap.size := HX1.out.lt; clear hb1))
  have HL0 : Hid (Blk (w1.alloc (.cells (madeCells #[.string ByteArray.empty] n) 9)) w1.heap.size 9 (List.replicate 0 (.string z0) ++ List.replicate (n - 0) (.string ByteArray.empty))) := by
    have := Blk.new w1 9 (madeCells #[.string ByteArray.empty] n)
    rw [toList_madeCells_one] at this
    show Blk _ _ _ _
    rwa [List.replicate_zero, List.nil_append, Nat.sub_zero]
  go_loopw [16] (fun i wr => ∃ k : Nat, k ≤ n ∧ i = .int .i64 k ∧ Hid (Blk wr w1.heap.size 9 (List.replicate k (.string z0) ++ List.replicate (n - k) (.string ByteArray.empty))) ∧ Below w.heap.size w wr ∧ Box wr w.heap.size (.slice none 0 0) (.slice none 0 0) (.int .i64 0)) (fun i _ => n - (intOf i).toNat)
  case atStart => exact ⟨0, by omega, rfl, HL0.out, HB1.out.push _, HX1.out.alloc _⟩
  case round =>
    obtain ⟨k, hk, rfl, HL, hbel, hbox⟩ := hrel
    by_cases hlt : k < n
    · have hc := HL.out.cell (i := k) (by simp; omega)
      have hf := HL.out.frozen k
      generalize (List.replicate k (Value.string z0) ++ List.replicate (n - k) (.string ByteArray.empty))[k]'(by simp; omega) = old at hc
      have HN := HL.out.set_ k (.string z0)
      rw [repl_set _ _ _ _ hlt] at HN
      have HL2 := Lib.hid HN
      have HB2 := Lib.hid (hbel.setCell (p := ⟨w1.heap.size, k, none⟩) (by simp; omega) (.string z0))
      have HX2 := Lib.hid (hbox.far (p := ⟨w1.heap.size, k, none⟩) (by simp; omega) (.string z0))
      clear HN hbel hbox
      go_wp2
      go_roundw
      case rel => exact ⟨k + 1, by omega, by go_num, HL2.out, HB2.out, HX2.out⟩
      case measure => simp [intOf]; omega
    · obtain rfl : n = k := by omega
      have HL3 := Lib.hid (show Blk wr w1.heap.size 9 (SV (List.replicate n z0)) by have := HL.out; rw [Nat.sub_self, List.replicate_zero, List.append_nil] at this; simpa [SV] using this)
      have HB := Lib.hid hbel
      obtain ⟨c0, c1, c2, f0, f1, f2⟩ := hbox
      clear hbel
      go_wp2
      have HB5 := ((HB.out.setCell (p := ⟨w.heap.size, 0, none⟩) (by simp) (.slice (some ⟨w1.heap.size, 0, none⟩) n n)).setCell (p := ⟨w.heap.size, 1, none⟩) (by simp) (.slice none 0 0)).setCell (p := ⟨w.heap.size, 2, none⟩) (by simp) (.int .i64 (-1))
      have L5 := ((HL3.out.far (p := ⟨w.heap.size, 0, none⟩) (by simp; omega) (.slice (some ⟨w1.heap.size, 0, none⟩) n n)).far (p := ⟨w.heap.size, 1, none⟩) (by simp; omega) (.slice none 0 0)).far (p := ⟨w.heap.size, 2, none⟩) (by simp; omega) (.int .i64 (-1))
      exact bodyPost_ret (v := .tuple #[DV (some ⟨w1.heap.size, 0, none⟩) n n none 0 0 (-1), .int .i64 0]) (by simp [results, Tryz.results22, go_sem, *]) rfl ⟨_, n, n, none, 0, 0, rfl, ⟨L5.rv (by rw [SV_length]; simp), RV.nil _ _ _, by omega, by omega, by simp; omega, by simp⟩, HB5⟩

/-- What New answers. -/
theorem new_any (n : Int) (w : World) : Calls Tryz.prog 22 #[.int .i64 n] w (RetDE w (if 16 ≤ n ∧ n ≤ 512 then newS n.toNat else []) [] (if 16 ≤ n ∧ n ≤ 512 then -1 else 0) (if 16 ≤ n ∧ n ≤ 512 then 0 else 8)) := by
  by_cases h : 16 ≤ n ∧ n ≤ 512
  · rw [if_pos h, if_pos h, if_pos h]
    obtain ⟨k, rfl⟩ := Int.eq_ofNat_of_zero_le (show 0 ≤ n by omega)
    exact new_yes k w h.1 h.2
  · rw [if_neg h, if_neg h, if_neg h]
    exact new_no n w (by omega)

end Go.Proofs.YtkglolnghihegaaGreatDoor.Dsk
