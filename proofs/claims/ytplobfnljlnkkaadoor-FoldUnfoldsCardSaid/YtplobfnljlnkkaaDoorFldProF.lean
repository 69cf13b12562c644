/- Contracts of package fold's Fold and Join. -/
import Derived.Test.YtplobfnljlnkkaaDoorFldPlc
import Derived.Test.YtplobfnljlnkkaaDoorUtfPro
import Derived.Test.YtplobfnljlnkkaaDoorBld
set_option linter.unusedVariables false
namespace Go.Proofs.YtplobfnljlnkkaaDoor.Fld
open Go.RowKit Go.Deep Go.Proofs.YtplobfnljlnkkaaDoor.Byt Go.Proofs.YtplobfnljlnkkaaDoor.Utf Go.Proofs.YtplobfnljlnkkaaDoor.Tre

/-- Bytes under way: what there is, and what is still to be folded. -/
def Fb (l0 : List UInt8) (s t : ByteArray) (l : List UInt8) : Prop := l0 ++ foldL s.data.toList = l ++ foldR t.data.toList ∧ t.size ≤ s.size
theorem Fb.small {l0 : List UInt8} {s t : ByteArray} {l : List UInt8} (h : Fb l0 s t l) : l.length ≤ l0.length + s.size + 5 + 3 * (s.size / 71) := by
  have h1 := foldL_len s.data.toList
  have h2 := congrArg List.length h.1
  rw [List.length_append, List.length_append] at h2
  rw [len_list] at h1
  omega
theorem Fb.start (l0 : List UInt8) (s : ByteArray) : Fb l0 s (s.extract (cutN 75 s.data.toList) s.size) (l0 ++ (s.extract 0 (cutN 75 s.data.toList) ++ ByteArray.mk #[13, 10]).data.toList) := by
  refine ⟨?_, by rw [ByteArray.size_extract]; omega⟩
  rw [list_app, head_list, Fld.tail_list]
  unfold foldL
  simp
theorem Fb.step {l0 : List UInt8} {s t : ByteArray} {l : List UInt8} (h : Fb l0 s t l) (ht : 0 < t.size) : Fb l0 s (t.extract (cutN 74 t.data.toList) t.size) (l ++ (ByteArray.mk #[32] ++ t.extract 0 (cutN 74 t.data.toList) ++ ByteArray.mk #[13, 10]).data.toList) := by
  refine ⟨?_, by have := h.2; rw [ByteArray.size_extract]; omega⟩
  rw [h.1, foldR_on (ne_of_size ht), list_app, list_app, head_list, Fld.tail_list]
  simp
theorem Fb.end {l0 : List UInt8} {s t : ByteArray} {l : List UInt8} (h : Fb l0 s t l) (ht : t.size = 0) : l = l0 ++ foldL s.data.toList := by
  have : t.data.toList = [] := List.eq_nil_of_length_eq_zero (by rw [len_list]; exact ht)
  have h1 := h.1
  rw [this, foldR_nil, List.append_nil] at h1
  exact h1.symm
theorem full_of {t : ByteArray} (h : 0 < t.size) : t.toList.isEmpty = false := by
  rw [ByteArray.toList_eq]
  have := len_list t
  cases hl : t.data.toList with
  | nil => rw [hl] at this; simp at this; omega
  | cons => rfl
theorem empty_of {t : ByteArray} (h : t.size = 0) : t.toList.isEmpty = true := by
  rw [ByteArray.toList_eq, List.eq_nil_of_length_eq_zero (l := t.data.toList) (by rw [len_list]; exact h)]
  rfl
theorem joinL_len2 : ∀ (ts : List (List UInt8)), (∀ t ∈ ts, t.length ≤ 1000) → (joinL ts).length ≤ ts.length * 1100
  | [], _ => by simp [joinL]
  | t :: ts, h => by
    have h1 := foldL_len t
    have h2 := h t (by simp)
    have h3 := joinL_len2 ts (fun x hx => h x (by simp [hx]))
    unfold joinL at *
    simp only [List.map_cons, List.flatten_cons, List.length_append, List.length_cons]
    omega
set_option maxRecDepth 20000 in
set_option maxHeartbeats 1000000 in
/-- A text's rows behind what the builder holds. -/
theorem rows_any (s : ByteArray) (hs : s.size ≤ 1000) (w0 w : World) (l0 : List UInt8) (h0 : Bld.Bu w0 w l0) (hl : l0.length ≤ 20000) :
    Calls Tryd.prog 32 #[.pointer (some ⟨w0.heap.size, 0, none⟩), .string s] w fun r w' => r = .returned (.tuple #[]) ∧ Bld.Bu w0 w' (l0 ++ foldL s.data.toList) := by
  have HC := Lib.hid (fun W => cut_any s hs 75 W)
  have hk := (cutN_le s.data.toList 75).1
  rw [len_list] at hk
  have HS := Lib.hid (Fb.start l0 s)
  have HCT := Lib.hid (fun (t : ByteArray) (ht : t.size ≤ 1000) W => cut_any t ht 74 W)
  generalize cutN 75 s.data.toList = k at *
  have hk' : (k : Int) ≤ s.size := by omega
  have hsz : (s.extract 0 k).size ≤ 1000 := by rw [ByteArray.size_extract]; omega
  have hsz2 : (s.extract k s.size).size ≤ 1000 := by rw [ByteArray.size_extract]; omega
  have b0 := Lib.hid h0
  have hW : (s.extract 0 k ++ ByteArray.mk #[13, 10]).size ≤ 1002 := by rw [ByteArray.size_append]; show _ + 2 ≤ _; omega
  have HW1 := Lib.hid (fun wr h => Bld.write_any w0 wr l0 (s.extract 0 k ++ ⟨#[13, 10]⟩) h (by omega))
  clear h0
  go_enter Tryd.func32, Tryd.ntmps32
  go_wp2_with (first
    | (go_at_call 43; with_reducible refine (HC.out _).mono ?_; rintro r w1 ⟨rfl, hb⟩; have B1 := Lib.hid (b0.out.call hb); clear hb)
    | (go_at_call 44; with_reducible refine (HW1.out _ B1.out).mono ?_; rintro r w2 ⟨rfl, hb⟩; have B2 := Lib.hid hb; clear hb))
  clear b0
  go_loopw [1] (fun tv wr => ∃ (t : ByteArray) (l : List UInt8), tv = .string t ∧ t.size ≤ 1000 ∧ Hid (Fb l0 s t l) ∧ Hid (Bld.Bu w0 wr l)) (fun tv _ => match tv with | .string t => t.size | _ => 0)
  case atStart => exact ⟨_, _, rfl, hsz2, HS, B2⟩
  case round =>
    obtain ⟨t, l, rfl, ht, hf, hB⟩ := hrel
    have hx := hf.out.small
    by_cases h : 0 < t.size
    · have h' : (0 : Int) < t.size := by omega
      have hne : t.toList.isEmpty = false := full_of h
      have HT := Lib.hid (fun W => HCT.out t ht W)
      have hc := (cutN_le t.data.toList 74).1
      have hp := cut_pos (ne_of_size h) (n := 74) (by omega)
      rw [len_list] at hc
      have HF := Lib.hid (hf.out.step h)
      generalize cutN 74 t.data.toList = q at *
      have hq' : (q : Int) ≤ t.size := by omega
      have e1 : (t.extract 0 q).size = q := by rw [ByteArray.size_extract]; omega
      have e2 : (t.extract q t.size).size = t.size - q := by rw [ByteArray.size_extract]; omega
      have hx2 : l.length ≤ 30000 := by omega
      have hW2 : (ByteArray.mk #[32] ++ t.extract 0 q ++ ByteArray.mk #[13, 10]).size ≤ 1003 := by rw [ByteArray.size_append, ByteArray.size_append, e1]; show 1 + _ + 2 ≤ _; omega
      clear hx
      have HW2 := Lib.hid (fun wr h => Bld.write_any w0 wr l (⟨#[32]⟩ ++ t.extract 0 q ++ ⟨#[13, 10]⟩) h (by omega))
      go_wp2_with (first
        | (go_at_call 43; with_reducible refine (HT.out _).mono ?_; rintro r w1 ⟨rfl, hb⟩; have C1 := Lib.hid (hB.out.call hb); clear hb)
        | (go_at_call 44; with_reducible refine (HW2.out _ C1.out).mono ?_; rintro r w2 ⟨rfl, hb⟩; have C2 := Lib.hid hb; clear hb))
      go_roundw
      case rel => exact ⟨_, _, rfl, by rw [e2]; omega, HF, C2⟩
      case measure => show (t.extract q t.size).size < t.size; rw [e2]; omega
    · have HE := Lib.hid (hf.out.end (by omega))
      have hne : t.toList.isEmpty = true := empty_of (by omega)
      go_wp2_with fail
      go_end0
      exact ⟨rfl, by rw [← HE.out]; exact hB.out⟩
set_option maxRecDepth 20000 in
set_option maxHeartbeats 1000000 in
theorem join_gen (ts : List ByteArray) (hn : ts.length ≤ 10) (ht : ∀ t ∈ ts, t.size ≤ 1000) (a : Option Addr) (c : Nat) (w : World) (ha : Rd w (txD ts) (.slice a ts.length c)) : Calls Tryd.prog 17 #[.slice a ts.length c] w fun r w' => r = .returned (.string ⟨(joinL (lists ts)).toArray⟩) ∧ Below w.heap.size w w' := by
  have HA := Lib.hid ha
  have HT := Lib.hid ht
  have HX := Lib.hid (fun wr l h => Bld.string_any w wr l h)
  have b0 := Lib.hid (Bld.Bu.start w)
  clear ha ht
  go_enter Tryd.func17, Tryd.ntmps17
  go_wp2_with fail
  go_loopw [8] (fun iv wr => ∃ k : Nat, k ≤ ts.length ∧ iv = .int .i64 k ∧ Hid (Bld.Bu w wr (joinL (lists (ts.take k))))) (fun iv _ => ts.length - (intOf iv).toNat)
  case atStart => exact ⟨0, Nat.zero_le _, rfl, b0⟩
  case round =>
    obtain ⟨k, hk, rfl, hB⟩ := hrel
    by_cases h : k < ts.length
    · have h' : (k : Int) < ts.length := by omega
      obtain ⟨b, off, rfl, c0⟩ := text_at (HA.out.call hB.out.bel) h
      have hs := HT.out ts[k] (List.getElem_mem h)
      have hj := joinL_len2 (lists (ts.take k)) (fun x hx => by
        obtain ⟨t, ht, rfl⟩ := List.mem_map.1 hx
        rw [len_list]
        exact HT.out t (List.mem_of_mem_take ht))
      rw [show (lists (ts.take k)).length = k by unfold lists; rw [List.length_map, List.length_take]; omega] at hj
      have HW := Lib.hid (fun W hW => rows_any ts[k] hs w W (joinL (lists (ts.take k))) hW (by omega))
      have HJ : joinL (lists (ts.take k)) ++ foldL ts[k].data.toList = joinL (lists (ts.take (k + 1))) := by
        rw [List.take_succ_eq_append_getElem h]
        unfold lists
        rw [List.map_append, List.map_singleton, joinL_snoc]
      rw [HJ] at HW
      clear HJ hj
      generalize joinL (lists (ts.take k)) = l0 at *
      generalize hq1 : joinL (lists (ts.take (k + 1))) = l1 at *
      have HQ := Lib.hid hq1
      clear hq1
      generalize ts[k] = t at *
      go_wp2_with (go_at_call 32; with_reducible refine (HW.out _ hB.out).mono ?_; rintro r w1 ⟨rfl, hb⟩; have B2 := Lib.hid hb; clear hb)
      go_roundw
      case rel => exact ⟨k + 1, by omega, by go_num, by rw [HQ.out]; exact B2⟩
      case measure => simp [intOf]; omega
    · obtain rfl : k = ts.length := by omega
      rw [List.take_of_length_le (Nat.le_refl _)] at hB
      go_wp2_with (go_at_call 33; with_reducible refine (HX.out _ _ hB.out).mono ?_; rintro r w1 ⟨rfl, hb⟩; have B4 := Lib.hid hb; clear hb)
      go_ret
      exact ⟨rfl, B4.out⟩
theorem join_any (ts : List ByteArray) (hn : ts.length ≤ 10) (ht : ∀ t ∈ ts, t.size ≤ 400) (a : Option Addr) (c : Nat) (w : World) (ha : Rd w (txD ts) (.slice a ts.length c)) : Calls Tryd.prog 17 #[.slice a ts.length c] w fun r w' => r = .returned (.string ⟨(joinL (lists ts)).toArray⟩) ∧ Below w.heap.size w w' :=
  join_gen ts hn (fun t h => by have := ht t h; omega) a c w ha
theorem one_rd (w : World) (s : ByteArray) : Rd (w.alloc (.cells #[.string s] 9)) (txD [s]) (.slice (some ⟨w.heap.size, 0, none⟩) ([s] : List ByteArray).length 1) := by
  have := own_new (w := w) (B := w.heap.size) (e := 9) (k := 1) (n := 1) (ones w w.heap.size [.string s]) rfl (Nat.le_refl _) (by omega)
  exact this.rd
set_option maxRecDepth 20000 in
set_option maxHeartbeats 1000000 in
theorem fold_any (s : ByteArray) (hs : s.size ≤ 1000) (w : World) : Calls Tryd.prog 15 #[.string s] w fun r w' => r = .returned (.string ⟨(foldL s.data.toList).toArray⟩) ∧ Below w.heap.size w w' := by
  have hj : Calls Tryd.prog 17 #[.slice (some ⟨w.heap.size, 0, none⟩) 1 1] (w.alloc (.cells #[.string s] 9)) fun r w' => r = .returned (.string ⟨(joinL (lists [s])).toArray⟩) ∧ Below (w.alloc (.cells #[.string s] 9)).heap.size (w.alloc (.cells #[.string s] 9)) w' :=
    join_gen [s] (by simp) (fun t ht => by rw [List.mem_singleton.1 ht]; exact hs) _ _ _ (one_rd w s)
  have e : joinL (lists [s]) = foldL s.data.toList := by unfold joinL lists; simp
  rw [e] at hj
  have HJ := Lib.hid hj
  clear hj e
  have HB := Lib.hid (new1 w (.cells #[.string s] 9))
  have hz : (w.alloc (.cells #[.string s] 9)).heap.size = w.heap.size + 1 := by simp
  have HZ := Lib.hid hz
  clear hz
  go_enter Tryd.func15, Tryd.ntmps15
  go_wp2_with (go_at_call 17; with_reducible refine HJ.out.mono ?_; rintro r w1 ⟨rfl, hb⟩; have B1 := Lib.hid hb; clear hb)
  go_ret
  exact ⟨rfl, HB.out.trans (B1.out.mono (by rw [HZ.out]; omega))⟩
end Go.Proofs.YtplobfnljlnkkaaDoor.Fld
